/-
  The program's rootsOf: its answer whole, rows and trees.
  Plain mathematics for trees: a list of nodes is the row of one good tree alone; what folded, joined, turned and put terms come to.
  What a good program does with a state: plain mathematics, and what its terms come to.
  The number of a state: plain mathematics.
  States of a good program as four words.
  The program's worth, holds: what a root comes to in a state.
  The program's rootsWith: a program read once, with a state of it.
  The program's number.
  Which commands of a program are enabled in a state, and what they do: plain mathematics.
  When a program is good and when it is small: the model's l7Asks, l7Command, GoodProgram, l7Small, IsSmall.
  When a command is good, a program good, a program small: the model's l7Command, GoodProgram, l7Small, IsSmall.
  When a program is good and when it is small: the model's GoodProgram, l7Small, IsSmall.
  The model's l7State and l7Holds.
  The model's l7No, StateNo, IsStart.
  The model's StateNo, IsStart.
  Whether a program is good and whether it is small: the program's GoodProgram, IsSmall.
  Whether a program is small: the program's bits, small, IsSmall.
  The program's isStart, IsStart, StateNo.
  The program's IsStart and StateNo.
  Marks that the laws lay into a program: what they may change.
  The model's l7Enabled.
  The model's Enabled.
  The program's enabledIn.
-/
import Derived.Test.YtjbolpfilgkbfaaDoorKP82
import Derived.Test.YtjbolpfilgkbfaaDoorKP81
import Derived.Test.YtjbolpfilgkbfaaDoorValueOf
import Derived.Test.YtjbolpfilgkbfaaDoorStateF
import Derived.Test.YtjbolpfilgkbfaaDoorWordsS
import Derived.Test.YtjbolpfilgkbfaaDoorProgOwn
import Derived.Test.YtjbolpfilgkbfaaDoorStateG
import Derived.Lib.QuietBelow
import Derived.BigQuiet
import Derived.Test.YtjbolpfilgkbfaaDoorOwn5
import Derived.Test.YtjbolpfilgkbfaaDoorOwn3
namespace Go.Proofs.YtjbolpfilgkbfaaDoor
open Go Go.RowKit
open M
set_option linter.unusedVariables false

def CmEl (w : World) (S : Nat → Prop) (wide vars : Int) (c : Cm) (x y : Value) : Prop := RtAt w S wide vars 2 c.1 x ∧ CrAt w S wide vars y c.2
/-- a row of commands with their trees, to be read: blocks that S takes -/
def CmrAt (w : World) (S : Nat → Prop) (wide vars : Int) (v : Value) (cs : List Cm) : Prop :=
  (cs = [] ∧ v = .slice none 0 0) ∨ ∃ g cap : Nat, v = .slice (some ⟨g, 0, none⟩) cs.length cap ∧ S g ∧ g < w.heap.size ∧ ∀ (i : Nat) (c : Cm), cs[i]? = some c → ∃ x y : Value, w.cell? ⟨g, i * 2, none⟩ = some x ∧ w.cell? ⟨g, i * 2 + 1, none⟩ = some y ∧ CmEl w S wide vars c x y
theorem CmEl.frame {w w' : World} {S S' : Nat → Prop} {wide vars : Int} {c : Cm} {x y : Value} (h : CmEl w S wide vars c x y) (hz : w.heap.size ≤ w'.heap.size) (hs : ∀ k, S k → S' k) (hk : ∀ k, S k → w'.heap[k]? = w.heap[k]?) : CmEl w' S' wide vars c x y := ⟨h.1.frame hs hk, h.2.frame hz hs hk⟩
theorem CmrAt.frame {w w' : World} {S S' : Nat → Prop} {wide vars : Int} {v : Value} {cs : List Cm} (h : CmrAt w S wide vars v cs) (hz : w.heap.size ≤ w'.heap.size) (hs : ∀ k, S k → S' k) (hk : ∀ k, S k → w'.heap[k]? = w.heap[k]?) : CmrAt w' S' wide vars v cs := by
  rcases h with h | ⟨g, cap, h1, h2, h3, h4⟩
  · exact Or.inl h
  · refine Or.inr ⟨g, cap, h1, hs g h2, Nat.lt_of_lt_of_le h3 hz, fun i c hi => ?_⟩
    obtain ⟨x, y, k1, k2, k3⟩ := h4 i c hi
    refine ⟨x, y, ?_, ?_, k3.frame hz hs hk⟩
    · rw [World.cell?_of_block (w := w) (a := ⟨g, i * 2, none⟩) (hk g h2)]; exact k1
    · rw [World.cell?_of_block (w := w) (a := ⟨g, i * 2 + 1, none⟩) (hk g h2)]; exact k2
theorem cmrAt_of {w : World} {base : Nat} {S : Nat → Prop} {wide vars : Int} {v : Value} {cs : List Cm} {T : TypeId} {ps : List (Value × Value)} (hl : ps.length = cs.length) (h : w.ownsRow base T 2 v cs.length (flatP ps)) (hS : ∀ k, base ≤ k → k < w.heap.size → S k)
    (he : ∀ (i : Nat) (c : Cm) (p : Value × Value), cs[i]? = some c → ps[i]? = some p → CmEl w S wide vars c p.1 p.2) : CmrAt w S wide vars v cs := by
  rcases h.2 with ⟨h1, h2⟩ | ⟨g, cap, cur, rfl, hg, hh, _⟩
  · exact Or.inl ⟨List.length_eq_zero_iff.1 h2, h1⟩
  · have hlt := (Array.getElem?_eq_some_iff.1 hh).1
    refine Or.inr ⟨g, cap, rfl, hS g hg hlt, hlt, fun i c hi => ?_⟩
    have hic := (List.getElem?_eq_some_iff.1 hi).1
    obtain ⟨p, hq⟩ : ∃ p, ps[i]? = some p := ⟨ps[i]'(by omega), List.getElem?_eq_getElem (by omega)⟩
    obtain ⟨f0, f1⟩ := flatP_at ps i p hq
    have hfl := flatP_len ps
    refine ⟨p.1, p.2, ?_, ?_, he i c p hi hq⟩
    · rw [h.cellAt (i * 2) (by omega)]; exact f0
    · rw [h.cellAt (i * 2 + 1) (by omega)]; exact f1
/-- a program read once, as it lies: blocks that S takes -/
def Rooted (w : World) (S : Nat → Prop) (p : Pg) (P : Nat) : Prop := S P ∧ ∃ x y, Box4 w P 111 (.int .i64 p.1) (.int .i64 p.2.1) x y ∧ RtAt w S p.1 p.2.1 2 p.2.2.1 x ∧ CmrAt w S p.1 p.2.1 y p.2.2.2
/-- what rootsOf answers -/
def RootsFull (w : World) (p : Pg) (e : Ending) (w' : World) : Prop :=
  ((goodP p = true ∧ ∃ P : Nat, e = .returned (ptr P) ∧ Rooted w' (fun k => w.heap.size ≤ k ∧ k < w'.heap.size) p P) ∨ (goodP p = false ∧ e = .returned (.pointer none))) ∧ Below w.heap.size w w'
theorem rootsFull_no {w w' : World} {p : Pg} (h : goodP p = false) (hb : Below w.heap.size w w') : RootsFull w p (.returned (.pointer none)) w' := ⟨Or.inr ⟨h, rfl⟩, hb⟩
theorem rootsFull_yes {w w' : World} {p : Pg} (P : Nat) (x y : Value) (h : goodP p = true) (hp : w.heap.size ≤ P) (hx : Box4 w' P 111 (.int .i64 p.1) (.int .i64 p.2.1) x y) (hb : Below w.heap.size w w') (h1 : RtAt w' (fun k => w.heap.size ≤ k ∧ k < w'.heap.size) p.1 p.2.1 2 p.2.2.1 x) (h2 : CmrAt w' (fun k => w.heap.size ≤ k ∧ k < w'.heap.size) p.1 p.2.1 y p.2.2.2) : RootsFull w p (.returned (.pointer (some ⟨P, 0, none⟩))) w' := ⟨Or.inl ⟨h, P, rfl, ⟨hp, hx.lt⟩, x, y, hx, h1, h2⟩, hb⟩
set_option maxRecDepth 100000 in
set_option maxHeartbeats 8000000 in
theorem rootsOf_full (v : Value) (p : Pg) (ok : PgOk p) (w : World) (hT : Tab w) (h : AtProg w v p) :
    Calls Tryd.prog 65 #[v] w (RootsFull w p) := by
  obtain ⟨⟨hfw0, hfw1⟩, ⟨hfv0, hfv1⟩, s, c, rfl, hst, hcm⟩ := h
  obtain ⟨sa, sc, rfl⟩ := hst.shape
  obtain ⟨ca, cc, rfl, hcc⟩ := hcm.opened
  have hcl := hcm.1
  have HOK : Hid (∀ x ∈ p.2.2.2, CmOk x) := ok.2.2.2.2
  have HCS : Hid (∀ w1 : World, Below w.heap.size w w1 → ∀ (i : Nat) (d : Cm), p.2.2.2[i]? = some d → ∃ b off : Nat, ca = some ⟨b, off, none⟩ ∧ ∃ x y : Value, w1.cell? ⟨b, off + i * 2, none⟩ = some x ∧ w1.cell? ⟨b, off + i * 2 + 1, none⟩ = some y ∧ NodesAt w1 x d.1 ∧ PairsAt ChV w1 y d.2) := fun w1 hb i d hi => by
    obtain ⟨b, off, e, hlt, x, y, h3, h4, h5⟩ := hcc i d hi
    exact ⟨b, off, e, x, y, by rw [hb.cell (p := ⟨b, off + i * 2, none⟩) hlt]; exact h3, by rw [hb.cell (p := ⟨b, off + i * 2 + 1, none⟩) hlt]; exact h4, h5.1.below hb, h5.2.below chV_frame hb⟩
  have GN : Hid (∀ (w1 : World) (u : Value) (t : List Nd), Below w.heap.size w w1 → NodesAt w1 u t → ¬ kindL p.1 p.2.1 t = 2 → Calls Tryd.prog 110 #[.int .i64 p.1, .int .i64 p.2.1, u, .int .i64 2] w1 fun e w' => e = .returned (.pointer none) ∧ Below w1.heap.size w1 w') := fun w1 u t hb hu hk => rootK_no _ _ 2 u t w1 (hT.below hb hT.some) hu (Or.inr rfl) hk
  have GY : Hid (∀ (w1 : World) (u : Value) (t : List Nd), Below w.heap.size w w1 → NodesAt w1 u t → kindL p.1 p.2.1 t = 2 → Calls Tryd.prog 110 #[.int .i64 p.1, .int .i64 p.2.1, u, .int .i64 2] w1 fun e w' => ∃ q, e = .returned (ptr q) ∧ Below w1.heap.size w1 w' ∧ RtAt w' (fun k => w1.heap.size ≤ k ∧ k < w'.heap.size) p.1 p.2.1 2 t (ptr q)) := fun w1 u t hb hu hk => rootK_full _ _ 2 u t w1 (hT.below hb hT.some) hu (Or.inr rfl) hk
  have GC : Hid (∀ (w1 : World) (u : Value) (t : List Ch), Below w.heap.size w w1 → PairsAt ChV w1 u t → t.length ≤ 1048576 → Calls Tryd.prog 111 #[.int .i64 p.1, .int .i64 p.2.1, u] w1 (CRFull w1 p.1 p.2.1 t (chsB p.1 p.2.1 0 t))) := fun w1 u t hb hu hl => changeRoots_full _ _ u t ⟨hfv0, hfv1⟩ hl w1 (hT.below hb hT.some) hu
  have hR0 : goodP p = ((kindL p.1 p.2.1 p.2.2.1 == 2) && (decide (1 ≤ p.2.2.2.length ∧ p.2.2.2.length ≤ 6) && p.2.2.2.all (cmB p.1 p.2.1))) := rfl
  have HR : Hid _ := hR0
  have HST : Hid (∀ w1 : World, Below w.heap.size w w1 → NodesAt w1 (.slice sa p.2.2.1.length sc) p.2.2.1) := fun w1 hb => hst.below hb
  have HP1 : Hid (p.1 = p.1 ∧ p.2.1 = p.2.1) := ⟨rfl, rfl⟩
  clear hcc hcm hst hT ok hR0 HP1
  obtain ⟨i0, hi, hz0, hz1, hz2⟩ := info_parts infoCm
  have HB0 : Hid (Below w.heap.size w (w.alloc (.cells #[.int .i64 p.1, .int .i64 p.2.1, .slice sa p.2.2.1.length sc, .slice ca p.2.2.2.length cc] 27))) := (Below.refl _ _).alloc (Nat.le_refl _) _
  have x0 := box4_alloc w 27 (.int .i64 p.1) (.int .i64 p.2.1) (.slice sa p.2.2.1.length sc) (.slice ca p.2.2.2.length cc)
  have HX0 : Hid _ := x0
  have hns := HST.out _ HB0.out
  clear x0
  by_cases hks : kindL p.1 p.2.1 p.2.2.1 = 2
  case neg =>
    have hkb : (kindL p.1 p.2.1 p.2.2.1 == 2) = false := beq_eq_false_iff_ne.2 hks
    have HN : Hid (goodP p = false) := by
      show goodP p = false
      rw [HR.out, hkb, Bool.false_and]
    have g := GN.out _ _ _ HB0.out hns hks
    clear GN GY GC HCS HR HST hns hks hkb HX0 HOK
    generalize p.2.2.1.length = sn at *
    generalize p.2.2.2.length = cn at *
    go_enter Tryd.func65, Tryd.ntmps65
    go_wp2_with fail
    refine g.mono ?_
    rintro e w1 ⟨rfl, hs⟩
    have HB1 : Hid (Below w.heap.size w w1) := Below.step HB0.out HB0.out.size hs
    clear hs g
    go_wp2_with fail
    go_ret
    exact rootsFull_no HN.out HB1.out
  have hkb : (kindL p.1 p.2.1 p.2.2.1 == 2) = true := beq_iff_eq.2 hks
  have g := GY.out _ _ _ HB0.out hns hks
  by_cases hcn : 1 ≤ p.2.2.2.length ∧ p.2.2.2.length ≤ 6
  case neg =>
    have HN : Hid (goodP p = false) := by
      show goodP p = false
      rw [HR.out, decide_eq_false hcn, Bool.false_and, Bool.and_false]
    clear GN GY GC HCS HR HST hns hks hkb HOK
    generalize p.2.2.1.length = sn at *
    generalize p.2.2.2.length = cn at *
    by_cases hc1 : cn < 1
    · go_enter Tryd.func65, Tryd.ntmps65
      go_wp2_with fail
      refine g.mono ?_
      generalize w.alloc (.cells #[.int .i64 p.1, .int .i64 p.2.1, .slice sa sn sc, .slice ca cn cc] 27) = w0 at *
      rintro e w1 ⟨q, rfl, hs, hrt⟩
      have HB1 : Hid (Below w.heap.size w w1) := Below.step HB0.out HB0.out.size hs
      have x1 := HX0.out.below hs HX0.out.lt
      obtain ⟨a0, a1, a2, a3⟩ := x1.cells
      have ah := x1.heap
      have al := x1.lt
      clear hs g x1 hrt
      go_wp2_with fail
      go_ret
      exact rootsFull_no HN.out HB1.out
    · have hc6 : 6 < cn := by omega
      go_enter Tryd.func65, Tryd.ntmps65
      go_wp2_with fail
      refine g.mono ?_
      generalize w.alloc (.cells #[.int .i64 p.1, .int .i64 p.2.1, .slice sa sn sc, .slice ca cn cc] 27) = w0 at *
      rintro e w1 ⟨q, rfl, hs, hrt⟩
      have HB1 : Hid (Below w.heap.size w w1) := Below.step HB0.out HB0.out.size hs
      have x1 := HX0.out.below hs HX0.out.lt
      obtain ⟨a0, a1, a2, a3⟩ := x1.cells
      have ah := x1.heap
      have al := x1.lt
      clear hs g x1 hrt
      go_wp2_with fail
      go_ret
      exact rootsFull_no HN.out HB1.out
  obtain ⟨hc1, hc6⟩ := hcn
  have HR2 : Hid (goodP p = p.2.2.2.all (cmB p.1 p.2.1)) := by
    show goodP p = _
    rw [HR.out, hkb, decide_eq_true ⟨hc1, hc6⟩, Bool.true_and, Bool.true_and]
  clear HR HST hns hks hkb
  have HPE : Hid (∀ (P : Nat) (x y : Value) (w' : World), goodP p = true → w.heap.size ≤ P → Box4 w' P 111 (.int .i64 p.1) (.int .i64 p.2.1) x y → Below w.heap.size w w' → RtAt w' (fun k => w.heap.size ≤ k ∧ k < w'.heap.size) p.1 p.2.1 2 p.2.2.1 x → CmrAt w' (fun k => w.heap.size ≤ k ∧ k < w'.heap.size) p.1 p.2.1 y p.2.2.2 → RootsFull w p (.returned (.pointer (some ⟨P, 0, none⟩))) w') := fun P x y w' h1 h2 h3 h4 h5 h6 => rootsFull_yes P x y h1 h2 h3 h4 h5 h6
  have HNO : Hid (∀ w' : World, goodP p = false → Below w.heap.size w w' → RootsFull w p (.returned (.pointer none)) w') := fun w' h1 h2 => rootsFull_no h1 h2
  generalize RootsFull w p = OUT at *
  generalize goodP p = GP at *
  generalize hcs : p.2.2.2 = cs at *
  generalize p.2.2.1.length = sn at *
  generalize p.2.2.1 = pst at *
  generalize p.1 = pw at *
  generalize p.2.1 = pv at *
  clear hcs
  go_enter Tryd.func65, Tryd.ntmps65
  go_wp2_with fail
  refine g.mono ?_
  generalize w.alloc (.cells #[.int .i64 pw, .int .i64 pv, .slice sa sn sc, .slice ca cs.length cc] 27) = w0 at *
  rintro e w1 ⟨q, rfl, hs, hrt⟩
  have HRT : Hid (RtAt w1 (fun k => w0.heap.size ≤ k ∧ k < w1.heap.size) pw pv 2 pst (ptr q)) := hrt
  have hsw0 := HB0.out.size
  have hb1 : Below w.heap.size w w1 := Below.step HB0.out HB0.out.size hs
  have hsw1 := hb1.size
  clear hrt
  have x1 := HX0.out.below hs HX0.out.lt
  have hlt1 := x1.lt
  obtain ⟨a0, a1, a2, a3⟩ := x1.cells
  have ah := x1.heap
  have al := x1.lt
  have y1 := box4_alloc w1 111 (.int .i64 pw) (.int .i64 pv) (ptr q) (.slice none 0 0)
  have hal := (Below.refl w1.heap.size w1).alloc (Nat.le_refl _) (.cells #[.int .i64 pw, .int .i64 pv, ptr q, .slice none 0 0] 111)
  have hb2 := hb1.trans (hal.mono hb1.size)
  have x2 := x1.below hal x1.lt
  have hss2 : (w1.alloc (.cells #[.int .i64 pw, .int .i64 pv, ptr q, .slice none 0 0] 111)).heap.size = w1.heap.size + 1 := World.size_alloc _ _
  have HXP : Hid (∀ w3, Below (w1.heap.size) (w1.alloc (.cells #[.int .i64 pw, .int .i64 pv, ptr q, .slice none 0 0] 111)) w3 → Box4 w3 w.heap.size 27 (.int .i64 pw) (.int .i64 pv) (.slice sa sn sc) (.slice ca cs.length cc)) := fun w3 hb3 => x2.below hb3 (by omega)
  have HRT2 : Hid (RtAt (w1.alloc (.cells #[.int .i64 pw, .int .i64 pv, ptr q, .slice none 0 0] 111)) (fun k => w0.heap.size ≤ k ∧ k < w1.heap.size) pw pv 2 pst (ptr q)) := HRT.out.frame (fun _ h => h) (fun k hk => hal.block k hk.2)
  clear HRT
  have HB2 : Hid _ := hb2
  have hy1 := y1
  have HY1 : Hid _ := hy1
  have HBB : Hid (Below w1.heap.size (w1.alloc (.cells #[.int .i64 pw, .int .i64 pv, ptr q, .slice none 0 0] 111)) (w1.alloc (.cells #[.int .i64 pw, .int .i64 pv, ptr q, .slice none 0 0] 111))) := Below.refl _ _
  have HO1 : Hid (∃ (vv : Value) (ps : List (Value × Value)), ps.length = 0 ∧ Box4 (w1.alloc (.cells #[.int .i64 pw, .int .i64 pv, ptr q, .slice none 0 0] 111)) w1.heap.size 111 (.int .i64 pw) (.int .i64 pv) (ptr q) vv ∧ (w1.alloc (.cells #[.int .i64 pw, .int .i64 pv, ptr q, .slice none 0 0] 111)).ownsRow (w1.heap.size + 1) 108 2 vv 0 (flatP ps) ∧ ∀ (i : Nat) (c : Cm) (p : Value × Value), cs[i]? = some c → ps[i]? = some p → CmEl (w1.alloc (.cells #[.int .i64 pw, .int .i64 pv, ptr q, .slice none 0 0] 111)) (fun k => w.heap.size ≤ k ∧ k < (w1.alloc (.cells #[.int .i64 pw, .int .i64 pv, ptr q, .slice none 0 0] 111)).heap.size ∧ k ≠ w1.heap.size ∧ vv.ownBlock ≠ some k) pw pv c p.1 p.2) := ⟨_, [], rfl, y1, World.ownsRow_nil _ _ _ _, fun i c p _ hp => by simp at hp⟩
  clear hs g hal hb2 hb1 x1 x2 y1 hy1 HX0 HB0
  go_wp2_with fail
  generalize w1.alloc (.cells #[.int .i64 pw, .int .i64 pv, ptr q, .slice none 0 0] 111) = w2 at *
  go_loopw [41] (fun i wr => ∃ j : Nat, j ≤ cs.length ∧ i = .int .i64 j ∧ Hid ((cs.take j).all (cmB pw pv) = true) ∧ Hid (∃ (vv : Value) (ps : List (Value × Value)), ps.length = j ∧ Box4 wr w1.heap.size 111 (.int .i64 pw) (.int .i64 pv) (ptr q) vv ∧ wr.ownsRow (w1.heap.size + 1) 108 2 vv j (flatP ps) ∧ ∀ (i : Nat) (c : Cm) (p : Value × Value), cs[i]? = some c → ps[i]? = some p → CmEl wr (fun k => w.heap.size ≤ k ∧ k < wr.heap.size ∧ k ≠ w1.heap.size ∧ vv.ownBlock ≠ some k) pw pv c p.1 p.2) ∧ Hid (Below w.heap.size w wr) ∧ Hid (Below w1.heap.size w2 wr)) (fun i _ => cs.length - (intOf i).toNat)
  case atStart => exact ⟨0, by omega, rfl, rfl, HO1, HB2, HBB⟩
  case round =>
    obtain ⟨j, hj, rfl, HA, HO, HB, HBX⟩ := hrel
    clear HO1 HB2 HBB a0 a1 a2 a3 ah al
    obtain ⟨vv, ps, hpl, hbox, hown, hel⟩ := HO.out
    obtain ⟨va, vcap, rfl⟩ := own_shape hown
    have HBOX : Hid _ := hbox
    have HOWN : Hid _ := hown
    have hbs := HBX.out.size
    have HEL : Hid _ := hel
    have HPL : Hid (ps.length = j) := hpl
    clear HO hbox hown hel hpl
    by_cases hlt : j < cs.length
    · obtain ⟨d, hd⟩ : ∃ d, cs[j]? = some d := ⟨cs[j], List.getElem?_eq_getElem hlt⟩
      obtain ⟨b, off, rfl, x, y, cx, cy, hnx, hny⟩ := HCS.out wr HB.out j d hd
      have HD : Hid (cs[j]? = some d) := hd
      have hok := HOK.out d (List.mem_of_getElem? hd)
      have hcb : cmB pw pv d = ((kindL pw pv d.1 == 2) && chsB pw pv 0 d.2) := rfl
      have HCB : Hid _ := hcb
      obtain ⟨xa, xc, rfl⟩ := hnx.shape
      obtain ⟨ya, yc, rfl⟩ := hny.shape
      have HNX : Hid (NodesAt wr (.slice xa d.1.length xc) d.1) := hnx
      have HNY : Hid (PairsAt ChV wr (.slice ya d.2.length yc) d.2) := hny
      have hdl2 := hok.2.1
      clear hnx hny hd hok hcb HCS HOK
      have hal := (Below.refl wr.heap.size wr).alloc (Nat.le_refl _) (.cells #[.slice xa d.1.length xc, .slice ya d.2.length yc] 102)
      have hb3 : Below w.heap.size w (wr.alloc (.cells #[.slice xa d.1.length xc, .slice ya d.2.length yc] 102)) := HB.out.alloc HB.out.size _
      have hbx3 : Below w1.heap.size w2 (wr.alloc (.cells #[.slice xa d.1.length xc, .slice ya d.2.length yc] 102)) := HBX.out.alloc (by omega) _
      have z3 := box2_alloc wr 102 (.slice xa d.1.length xc) (.slice ya d.2.length yc)
      obtain ⟨dw, dc⟩ := d
      simp only at *
      have HNX3 := HNX.out.below hal
      have HNY3 : Hid (∀ w4 : World, Below (wr.alloc (.cells #[.slice xa dw.length xc, .slice ya dc.length yc] 102)).heap.size (wr.alloc (.cells #[.slice xa dw.length xc, .slice ya dc.length yc] 102)) w4 → PairsAt ChV w4 (.slice ya dc.length yc) dc) := fun w4 hb4 => (HNY.out.below chV_frame hal).below chV_frame hb4
      have hq := HXP.out _ hbx3
      obtain ⟨a0, a1, a2, a3⟩ := hq.cells
      have ah := hq.heap
      have al := hq.lt
      have hss3 : (wr.alloc (.cells #[.slice xa dw.length xc, .slice ya dc.length yc] 102)).heap.size = wr.heap.size + 1 := World.size_alloc _ _
      have HBOX3 : Hid (Box4 (wr.alloc (.cells #[.slice xa dw.length xc, .slice ya dc.length yc] 102)) w1.heap.size 111 (.int .i64 pw) (.int .i64 pv) (ptr q) (.slice va j vcap)) := HBOX.out.below hal HBOX.out.lt
      have HOWN3 : Hid ((wr.alloc (.cells #[.slice xa dw.length xc, .slice ya dc.length yc] 102)).ownsRow (w1.heap.size + 1) 108 2 (.slice va j vcap) j (flatP ps)) := own_same HOWN.out (fun q hq => (own_block HOWN.out hq).2) (fun i _ hi => hal.block i hi)
      have HB3 : Hid _ := hb3
      have HBX3 : Hid _ := hbx3
      have hbw : ∀ k, k < wr.heap.size → (wr.alloc (.cells #[.slice xa dw.length xc, .slice ya dc.length yc] 102)).heap[k]? = wr.heap[k]? := fun k hk => hal.block k hk
      have HVL : Hid (∀ k, (Value.slice va j vcap).ownBlock = some k → w1.heap.size + 1 ≤ k ∧ k < wr.heap.size) := fun k hk => own_block HOWN.out hk
      clear hal hb3 hbx3 hq HBOX HOWN HNX HNY HB HBX
      by_cases hk : kindL pw pv dw = 2
      case neg =>
        have g := GN.out _ _ dw HB3.out HNX3 hk
        have GCD : Hid (∀ (w1 : World) (u : Value), Below w.heap.size w w1 → PairsAt ChV w1 u dc → Calls Tryd.prog 111 #[.int .i64 pw, .int .i64 pv, u] w1 (CRFull w1 pw pv dc (chsB pw pv 0 dc))) := fun w1 u hb hu => GC.out w1 u dc hb hu hdl2
        clear HNX3 GC hdl2
        generalize dw.length = xn at *
        generalize dc.length = yn at *
        go_wp2_with fail
        refine g.mono ?_
        generalize wr.alloc (.cells #[.slice xa xn xc, .slice ya yn yc] 102) = w3 at *
        rintro e w4 ⟨rfl, hs⟩
        have hs4 := hs.size
        have z4 := z3.below hs z3.lt
        have hbx4 : Below w1.heap.size w2 w4 := HBX3.out.trans (hs.mono (by omega))
        have hq := HXP.out _ hbx4
        have HBOX4 : Hid (Box4 w4 w1.heap.size 111 (.int .i64 pw) (.int .i64 pv) (ptr q) (.slice va j vcap)) := HBOX3.out.below hs HBOX3.out.lt
        have HOWN4 : Hid (w4.ownsRow (w1.heap.size + 1) 108 2 (.slice va j vcap) j (flatP ps)) := own_same HOWN3.out (fun q hq => (own_block HOWN3.out hq).2) (fun i _ hi => hs.block i hi)
        clear a0 a1 a2 a3 ah al
        obtain ⟨a0, a1, a2, a3⟩ := hq.cells
        have ah := hq.heap
        have al := hq.lt
        obtain ⟨c0, c1⟩ := z4.cells
        have ch := z4.heap
        have cl := z4.lt
        have HB4 : Hid (Below w.heap.size w w4) := HB3.out.trans (hs.mono HB3.out.size)
        have gc := GCD.out w4 (.slice ya yn yc) HB4.out (HNY3.out w4 hs)
        have HBX4 : Hid _ := hbx4
        clear g hs z3 hq HBOX3 HOWN3 HB3 HBX3 HNY3 hbx4 GN GY GCD
        go_wp2_with fail
        refine gc.mono ?_
        rintro e w5 hcr
        unfold CRFull at hcr
        obtain ⟨ra, rn, rc, rfl, hs, hcr⟩ := hcr
        have hs5 := hs.size
        have HB5 : Hid (Below w.heap.size w w5) := HB4.out.trans (hs.mono HB4.out.size)
        have hkb : (kindL pw pv dw == 2) = false := beq_eq_false_iff_ne.2 hk
        have HN : Hid (GP = false) := HR2.out.trans (allNot HD.out (by rw [HCB.out, hkb, Bool.false_and]))
        clear hs gc z4 hkb hk HCB HD HA HR2 HBOX4 HOWN4
        go_wp2_with fail
        exact HNO.out _ HN.out HB5.out
      have g := GY.out _ _ dw HB3.out HNX3 hk
      have GCD : Hid (∀ (w1 : World) (u : Value), Below w.heap.size w w1 → PairsAt ChV w1 u dc → Calls Tryd.prog 111 #[.int .i64 pw, .int .i64 pv, u] w1 (CRFull w1 pw pv dc (chsB pw pv 0 dc))) := fun w1 u hb hu => GC.out w1 u dc hb hu hdl2
      clear HNX3 GC hdl2
      generalize dw.length = xn at *
      generalize dc.length = yn at *
      go_wp2_with fail
      refine g.mono ?_
      generalize wr.alloc (.cells #[.slice xa xn xc, .slice ya yn yc] 102) = w3 at *
      rintro e w4 ⟨qb, rfl, hs, hrt⟩
      have HRW : Hid (RtAt w4 (fun k => w3.heap.size ≤ k ∧ k < w4.heap.size) pw pv 2 dw (ptr qb)) := hrt
      have HS4 : Hid (Below w3.heap.size w3 w4) := hs
      clear hrt
      have hs4 := hs.size
      have z4 := z3.below hs z3.lt
      have hbx4 : Below w1.heap.size w2 w4 := HBX3.out.trans (hs.mono (by omega))
      have hq := HXP.out _ hbx4
      have HBOX4 : Hid (Box4 w4 w1.heap.size 111 (.int .i64 pw) (.int .i64 pv) (ptr q) (.slice va j vcap)) := HBOX3.out.below hs HBOX3.out.lt
      have HOWN4 : Hid (w4.ownsRow (w1.heap.size + 1) 108 2 (.slice va j vcap) j (flatP ps)) := own_same HOWN3.out (fun q hq => (own_block HOWN3.out hq).2) (fun i _ hi => hs.block i hi)
      clear a0 a1 a2 a3 ah al
      obtain ⟨a0, a1, a2, a3⟩ := hq.cells
      have ah := hq.heap
      have al := hq.lt
      obtain ⟨c0, c1⟩ := z4.cells
      have ch := z4.heap
      have cl := z4.lt
      have HB4 : Hid (Below w.heap.size w w4) := HB3.out.trans (hs.mono HB3.out.size)
      have gc := GCD.out w4 (.slice ya yn yc) HB4.out (HNY3.out w4 hs)
      have HBX4 : Hid _ := hbx4
      clear g hs z3 hq HBOX3 HOWN3 HB3 HBX3 HNY3 hbx4 GN GY GCD
      go_wp2_with fail
      refine gc.mono ?_
      rintro e w5 hcr
      unfold CRFull at hcr
      obtain ⟨ra, rn, rc, rfl, hs, hcr⟩ := hcr
      have hs5 := hs.size
      have HB5 : Hid (Below w.heap.size w w5) := HB4.out.trans (hs.mono HB4.out.size)
      have hkb : (kindL pw pv dw == 2) = true := beq_iff_eq.2 hk
      cases hch : chsB pw pv 0 dc with
      | false =>
        have HN : Hid (GP = false) := HR2.out.trans (allNot HD.out (by rw [HCB.out, hch, Bool.and_false]))
        clear hs gc z4 hkb hk HCB HD HA HR2 HBOX4 HOWN4 hch
        go_wp2_with fail
        exact HNO.out _ HN.out HB5.out
      | true =>
        have HCRW : Hid (CrAt w5 (fun k => w4.heap.size ≤ k ∧ k < w5.heap.size) pw pv (.slice ra rn rc) dc) := hcr hch
        have HS5 : Hid (Below w4.heap.size w4 w5) := hs
        have HDJ : Hid (cs[j]? = some (dw, dc)) := HD.out
        have HN : Hid ((cs.take (j + 1)).all (cmB pw pv) = true) := allTake HD.out HA.out (by rw [HCB.out, hkb, hch]; rfl)
        have hbx5 : Below w1.heap.size w2 w5 := HBX4.out.trans (hs.mono (by have := HBX4.out.size; omega))
        have hy5 := HBOX4.out.below hs HBOX4.out.lt
        have own5 := own_same HOWN4.out (fun q hq => (own_block HOWN4.out hq).2) (fun i _ hi => hs.block i hi)
        have own6 := World.ownsRow.alloc own5 (.cells #[ptr qb, .slice ra rn rc] 108)
        have hb6 : Below w.heap.size w (w5.alloc (.cells #[ptr qb, .slice ra rn rc] 108)) := HB5.out.alloc HB5.out.size _
        have hbx6 : Below w1.heap.size w2 (w5.alloc (.cells #[ptr qb, .slice ra rn rc] 108)) := hbx5.alloc (by have := hbx5.size; omega) _
        have hy6 := hy5.alloc (.cells #[ptr qb, .slice ra rn rc] 108)
        obtain ⟨r0, r1, r2, r3⟩ := hy5.cells
        have rh := hy5.heap
        have rl := hy5.lt
        have cells6 := cr_cells w5 (ptr qb) (.slice ra rn rc) 108
        have hlen6 := own6.1
        have hss6 : (w5.alloc (.cells #[ptr qb, .slice ra rn rc] 108)).heap.size = w5.heap.size + 1 := World.size_alloc _ _
        have hbs6 := hbx5.size
        have hs6 : w1.heap.size + 1 ≤ (w5.alloc (.cells #[ptr qb, .slice ra rn rc] 108)).heap.size := by omega
        clear hs gc z4 hkb hk HCB HD HA HBOX4 HOWN4 hch own5 hy5 HB4 HBX4 a0 a1 a2 a3 ah al c0 c1 ch cl
        go_wp2_with (at_builtin; refine wpList_append_own_at _ rfl _ _ 109 rfl (w1.heap.size + 1) 108 i0 (.agg #[.pointer none, .slice none 0 0]) 2 32 Tryd.underlying109 hi hz0 hz1 hz2 rfl (by decide) _ _ _ rfl own6 ⟨w5.heap.size, 0, none⟩ 1 1 [ptr qb, .slice ra rn rc] rfl rfl cells6 (by simp [Value.oneCell']) (by unfold maxLen; omega) (by omega) hs6 ?_)
        intro v9 w9 own9 grow9 hnew9 hat9
        have hy9 : Box4 w9 w1.heap.size 111 (.int .i64 pw) (.int .i64 pv) (ptr q) (.slice va j vcap) := by
          refine ⟨?_⟩
          rw [grow9.block _ hy6.lt ?_]
          · exact hy6.heap
          · intro e
            have := own_block own6 e.symm
            omega
        have hb9 : Below w.heap.size w w9 := hb6.grown grow9 (by omega) (fun k hk => by have := (own_block own6 hk).1; omega)
        have hbx9 : Below w1.heap.size w2 w9 := hbx6.grown grow9 (by omega) (fun k hk => by have := (own_block own6 hk).1; omega)
        obtain ⟨v9a, v9c, rfl⟩ := own_shape own9
        obtain ⟨m0, m1, m2, m3⟩ := hy9.cells
        have mh := hy9.heap
        have ml := hy9.lt
        have mf := hy9.frozen 3
        have HY10 : Hid _ := hy9.set3 (.slice v9a (j + 1) v9c)
        have HB10 : Hid (Below w.heap.size w (w9.setCell ⟨w1.heap.size, 3, none⟩ (.slice v9a (j + 1) v9c))) := hb9.setCell (by show w.heap.size ≤ w1.heap.size; omega) _
        have HBX10 : Hid (Below w1.heap.size w2 (w9.setCell ⟨w1.heap.size, 3, none⟩ (.slice v9a (j + 1) v9c))) := hbx9.setCell (Nat.le_refl _) _
        have HO10 : Hid ((w9.setCell ⟨w1.heap.size, 3, none⟩ (.slice v9a (j + 1) v9c)).ownsRow (w1.heap.size + 1) 108 2 (.slice v9a (j + 1) v9c) (j + 1) (flatP (ps ++ [(ptr qb, .slice ra rn rc)]))) := by
          show World.ownsRow _ _ _ _ _ _ _
          rw [flatP_append]
          exact own_same (lo := w1.heap.size + 1) own9 (fun q hq => (own_block own9 hq).2) (same_set (Nat.lt_succ_self _))
        have hq10 : ∀ k, k < w5.heap.size → (Value.slice va j vcap).ownBlock ≠ some k → k ≠ w1.heap.size → (w9.setCell ⟨w1.heap.size, 3, none⟩ (.slice v9a (j + 1) v9c)).heap[k]? = w5.heap[k]? := fun k hk hne hp => by
          rw [Below.heap_setCell _ _ _ _ (by show k ≠ w1.heap.size; exact hp), grow9.block k (by rw [World.size_alloc]; omega) (fun e => hne e.symm)]
          show (w5.heap.push _)[k]? = _
          rw [Array.getElem?_push_lt hk]
          simp [hk]
        have hs9 := grow9.size
        rw [World.size_alloc] at hs9
        have hs10 : (w9.setCell ⟨w1.heap.size, 3, none⟩ (.slice v9a (j + 1) v9c)).heap.size = w9.heap.size := size_set _ _ _
        have hv9 : ∀ k, k < w5.heap.size → (Value.slice va j vcap).ownBlock ≠ some k → (Value.slice v9a (j + 1) v9c).ownBlock ≠ some k := fun k hk hne e => by
          rcases hat9 with h | h
          · exact hne (h.symm.trans e)
          · rw [h] at e
            have := Option.some.inj e
            omega
        have hz4 := HS4.out.size
        have hz5 := HS5.out.size
        have HEL10 : Hid (∀ (i : Nat) (c : Cm) (p : Value × Value), cs[i]? = some c → (ps ++ [((ptr qb : Value), (.slice ra rn rc : Value))])[i]? = some p → CmEl (w9.setCell ⟨w1.heap.size, 3, none⟩ (.slice v9a (j + 1) v9c)) (fun k => w.heap.size ≤ k ∧ k < (w9.setCell ⟨w1.heap.size, 3, none⟩ (.slice v9a (j + 1) v9c)).heap.size ∧ k ≠ w1.heap.size ∧ (Value.slice v9a (j + 1) v9c).ownBlock ≠ some k) pw pv c p.1 p.2) := by
          intro i c p hc hp
          by_cases hij : i < ps.length
          · rw [List.getElem?_append_left hij] at hp
            refine (HEL.out i c p hc hp).frame (by omega) (fun k hk => ⟨hk.1, by omega, hk.2.2.1, hv9 k (by omega) hk.2.2.2⟩) (fun k hk => ?_)
            rw [hq10 k (by omega) hk.2.2.2 hk.2.2.1, HS5.out.block k (by omega), HS4.out.block k (by omega)]
            exact hbw k hk.2.1
          · have hlt9 := (List.getElem?_eq_some_iff.1 hp).1
            have hpl := HPL.out
            rw [List.length_append, List.length_singleton] at hlt9
            have hi9 : i = j := by omega
            subst hi9
            rw [List.getElem?_append_right (by omega), hpl, Nat.sub_self] at hp
            simp only [List.getElem?_cons_zero, Option.some.injEq] at hp
            subst hp
            rw [HDJ.out] at hc
            simp only [Option.some.injEq] at hc
            subst hc
            refine ⟨HRW.out.frame (fun k hk => ?_) (fun k hk => ?_), HCRW.out.frame (by omega) (fun k hk => ?_) (fun k hk => ?_)⟩
            · have hne : (Value.slice va i vcap).ownBlock ≠ some k := fun e => by have := HVL.out k e; omega
              exact ⟨by omega, by omega, by omega, hv9 k (by omega) hne⟩
            · have hne : (Value.slice va i vcap).ownBlock ≠ some k := fun e => by have := HVL.out k e; omega
              rw [hq10 k (by omega) hne (by omega)]
              exact HS5.out.block k hk.2
            · have hne : (Value.slice va i vcap).ownBlock ≠ some k := fun e => by have := HVL.out k e; omega
              exact ⟨by omega, by omega, by omega, hv9 k hk.2 hne⟩
            · have hne : (Value.slice va i vcap).ownBlock ≠ some k := fun e => by have := HVL.out k e; omega
              exact hq10 k hk.2 hne (by omega)
        have HPL10 : Hid ((ps ++ [((ptr qb : Value), (.slice ra rn rc : Value))]).length = j + 1) := by
          show (ps ++ [((ptr qb : Value), (.slice ra rn rc : Value))]).length = j + 1
          rw [List.length_append, HPL.out]
          rfl
        clear hq10 hv9 hat9 hbw HRW HCRW HS4 HS5 HEL HPL HVL HDJ
        clear own6 own9 grow9 hb6 hbx6 hy6 hb9 hbx9 hy9 cells6 r0 r1 r2 r3 rh rl hnew9
        go_wp2_with fail
        go_roundw
        case rel => exact ⟨j + 1, by omega, by go_num, HN, ⟨_, _, HPL10.out, HY10.out, HO10.out, HEL10.out⟩, HB10, HBX10⟩
        case measure => simp [intOf]; omega
    · obtain rfl : j = cs.length := by omega
      have HN : Hid (GP = true) := by
        have h1 := HA.out
        rw [List.take_length] at h1
        exact HR2.out.trans h1
      have hbsz := HB.out.size
      have H5 : Hid (RtAt wr (fun k => w.heap.size ≤ k ∧ k < wr.heap.size) pw pv 2 pst (ptr q)) := HRT2.out.frame (fun k hk => ⟨by omega, by omega⟩) (fun k hk => HBX.out.block k hk.2)
      have H6 : Hid (CmrAt wr (fun k => w.heap.size ≤ k ∧ k < wr.heap.size) pw pv (.slice va cs.length vcap) cs) := cmrAt_of HPL.out HOWN.out (fun k h1 h2 => ⟨by omega, h2⟩) (fun i c p hc hp => (HEL.out i c p hc hp).frame (Nat.le_refl _) (fun k hk => ⟨hk.1, hk.2.1⟩) (fun _ _ => rfl))
      clear HCS GN GY GC HA HOWN HR2 HEL HPL HRT2
      go_wp2_with fail
      exact HPE.out _ _ _ _ HN.out (by omega) HBOX.out HB.out H5.out H6.out
end Go.Proofs.YtjbolpfilgkbfaaDoor

namespace Go.Proofs.YtjbolpfilgkbfaaDoor
open Go Go.RowKit
open M
set_option linter.unusedVariables false

/-- a row of nodes is read in one way -/
theorem flat_one_way {wide vars wide' vars' : Int} : ∀ (T1 : Tr) (s1 s2 : List Nd) (T2 : Tr), T1.Ok wide vars → T2.Ok wide' vars' → s1 ++ T1.flat = s2 ++ T2.flat → T1 = T2 ∧ s1 = s2
  | .leaf x, s1, s2, T2, h1, h2, e => by
    have e' := e
    rw [Tr.flat_eq T2, ← List.append_assoc] at e'
    obtain ⟨e1, e2⟩ := List.append_inj' (show s1 ++ [x] = (s2 ++ T2.parts.flatMap Tr.flat) ++ [T2.nd] from e') rfl
    have hx : x = T2.nd := by simpa using e2
    have hm := (Tr.ok_nd h2).2.2
    rw [← hx, h1.2.2] at hm
    cases T2 with
    | leaf y =>
      simp [Tr.nd] at hx
      subst hx
      exact ⟨rfl, by simpa [Tr.parts] using e1⟩
    | one y a => simp [Tr.parts] at hm
    | two y a b => simp [Tr.parts] at hm
  | .one x a, s1, s2, T2, h1, h2, e => by
    have e' := e
    rw [Tr.flat_eq T2, ← List.append_assoc] at e'
    obtain ⟨e1, e2⟩ := List.append_inj' (show (s1 ++ a.flat) ++ [x] = (s2 ++ T2.parts.flatMap Tr.flat) ++ [T2.nd] from by rw [← e']; simp [Tr.flat]) rfl
    have hx : x = T2.nd := by simpa using e2
    have hm := (Tr.ok_nd h2).2.2
    rw [← hx, h1.2.2.1] at hm
    cases T2 with
    | leaf y => simp [Tr.parts] at hm
    | one y c =>
      simp [Tr.nd] at hx
      subst hx
      obtain ⟨f1, f2⟩ := flat_one_way a s1 s2 c h1.2.2.2.2 h2.2.2.2.2 (by simpa [Tr.parts] using e1)
      exact ⟨by rw [f1], f2⟩
    | two y c d => simp [Tr.parts] at hm
  | .two x a b, s1, s2, T2, h1, h2, e => by
    have e' := e
    rw [Tr.flat_eq T2, ← List.append_assoc] at e'
    obtain ⟨e1, e2⟩ := List.append_inj' (show (s1 ++ a.flat ++ b.flat) ++ [x] = (s2 ++ T2.parts.flatMap Tr.flat) ++ [T2.nd] from by rw [← e']; simp [Tr.flat]) rfl
    have hx : x = T2.nd := by simpa using e2
    have hm := (Tr.ok_nd h2).2.2
    rw [← hx, h1.2.2.1] at hm
    cases T2 with
    | leaf y => simp [Tr.parts] at hm
    | one y c => simp [Tr.parts] at hm
    | two y c d =>
      simp [Tr.nd] at hx
      subst hx
      obtain ⟨f1, f2⟩ := flat_one_way b (s1 ++ a.flat) (s2 ++ c.flat) d h1.2.2.2.2.2.2 h2.2.2.2.2.2.2 (by simpa [Tr.parts] using e1)
      obtain ⟨f3, f4⟩ := flat_one_way a s1 s2 c h1.2.2.2.2.2.1 h2.2.2.2.2.2.1 f2
      exact ⟨by rw [f1, f3], f4⟩
/-- the tree of the row of a good tree is that tree -/
theorem root_of_flat {wide vars : Int} {T : Tr} (h : T.Ok wide vars) (hw : wideB wide = true) (h1 : 1 ≤ vars) (h4 : vars ≤ 4) (hs : T.size ≤ 48) : 0 < kindL wide vars T.flat ∧ pileT wide vars T.flat T.flat.length = some [⟨0, T.kind, T⟩] := by
  have hk := Tr.kindL_eq h hw h1 h4 hs
  have hp : 0 < kindL wide vars T.flat := by
    rw [hk]
    have := Tr.kind_pos h
    omega
  obtain ⟨_, _, _, _, _, r, hr, k1, k2, _⟩ := root_tree hp
  obtain ⟨e, _⟩ := flat_one_way r [] [] T k1 h (by simpa using k2)
  subst e
  exact ⟨hp, hr⟩
/-- the value of the row of a good tree -/
theorem value_of_flat {k : Nat} {st : List Int} {T : Tr} (h : T.Ok k st.length) (hk1 : 1 ≤ k) (hk : k ≤ 64) (h1 : 1 ≤ st.length) (h4 : st.length ≤ 4) (hs : T.size ≤ 48) (hst : ∀ s ∈ st, goodB k s = true) : saidV k T.flat st = true ∧ valueL k T.flat st = trVal k st T := by
  obtain ⟨p1, p2⟩ := root_of_flat h (decide_eq_true (by omega)) (by omega) (by omega) hs
  have hs1 : saidV k T.flat st = true := by
    unfold saidV
    rw [decide_eq_true p1, Bool.true_and]
    exact List.all_eq_true.2 hst
  refine ⟨hs1, ?_⟩
  have := valueL_tree hs1 p2
  simpa using this
theorem saidV_open {wide : Int} {t : List Nd} {st : List Int} (h : saidV wide t st = true) : 0 < kindL wide st.length t ∧ ∀ s ∈ st, goodB wide s = true := by
  unfold saidV at h
  rw [Bool.and_eq_true] at h
  exact ⟨of_decide_eq_true h.1, List.all_eq_true.1 h.2⟩
/-- what is said of a folded term: it comes to the same with the same variables and of the same kind, and is folded already -/
theorem folded_said {k : Nat} {t : List Nd} {st : List Int} (hok : ∀ x ∈ t, NdOk x) (h : saidV k t st = true) :
    0 < kindL k st.length t ∧ saidV k (foldL k st.length t) st = true ∧ valueL k (foldL k st.length t) st = valueL k t st ∧ kindL k st.length (foldL k st.length t) = kindL k st.length t ∧ foldL k st.length (foldL k st.length t) = foldL k st.length t ∧ varsInL k st.length (foldL k st.length t) = varsInL k st.length t := by
  obtain ⟨hp, hst⟩ := saidV_open h
  obtain ⟨g1, g2, g3, g4, g5, r, hr, k1, k2, k3⟩ := root_tree hp
  obtain ⟨k', e, hk1, hk64⟩ := wideB_true g1
  obtain rfl : k = k' := by omega
  have hpos : Pos r := by
    intro x hx
    rw [k2] at hx
    exact (hok x hx).2.2.1
  obtain ⟨f1, f2⟩ := trFold_ok hk1 hk64 r k1 hpos
  have hsz : r.size ≤ 48 := by
    have := r.flat_len
    rw [k2] at this
    omega
  have fsz : (trFold k r).size ≤ 48 := Nat.le_trans (trFold_size k r) hsz
  have hf : foldL k st.length t = (trFold k r).flat := by
    have := foldL_tree hp hr
    simpa using this
  obtain ⟨q1, q2⟩ := root_of_flat f1 g1 g2 g3 fsz
  obtain ⟨v1, v2⟩ := value_of_flat f1 hk1 hk64 (by omega) (by omega) fsz hst
  have hvt : valueL k t st = trVal k st r := by
    have := valueL_tree h hr
    simpa using this
  have hv4 : ∀ x ∈ r.flat, x.1 = 2 → 0 ≤ x.2 ∧ x.2 < 4 := by
    intro x hx h2
    have h3 := ok_vars k1 x hx h2
    have h4 := hpos x hx
    omega
  have hv4' : ∀ x ∈ (trFold k r).flat, x.1 = 2 → 0 ≤ x.2 ∧ x.2 < 4 := by
    intro x hx h2
    have h3 := ok_vars f1 x hx h2
    have h4 := f2 x hx
    omega
  refine ⟨hp, ?_, ?_, ?_, ?_, ?_⟩
  · rw [hf]
    exact v1
  · rw [hf, v2, hvt]
    exact trFold_val k st r
  · rw [hf, Tr.kindL_eq f1 g1 g2 g3 fsz, trFold_kind k r k1]
    exact k3
  · rw [hf]
    have := foldL_tree q1 q2
    rw [this]
    simp only [Int.toNat_natCast]
    rw [trFold_again]
  · rw [hf]
    unfold varsInL
    rw [if_pos q1, if_pos hp, varsL_sorted _ _ rfl hv4', varsL_sorted t.length t rfl (by rw [← k2]; exact hv4)]
    congr 1
    funext i
    apply decide_eq_decide.2
    rw [← k2]
    exact trFold_mem k i r k1
end Go.Proofs.YtjbolpfilgkbfaaDoor

namespace Go.Proofs.YtjbolpfilgkbfaaDoor
open Go Go.RowKit
open M
set_option linter.unusedVariables false

/-- whether a condition holds in a state -/
def holdsL (k : Int) (t : List Nd) (st : List Int) : Bool := valueL k t st == 1
/-- whether words are a state of a program -/
def stateP (p : Pg) (st : List Int) : Bool := decide ((st.length : Int) = p.2.1) && st.all (goodB p.1)
def goodS (p : Pg) (st : List Int) : Bool := goodP p && stateP p st
theorem trVal_congr (k : Nat) (s t : List Int) : ∀ r : Tr, (∀ x ∈ r.flat, x.1 = 2 → s.getD x.2.toNat 0 = t.getD x.2.toNat 0) → trVal k s r = trVal k t r
  | .leaf x, h => by
    simp only [trVal, val0]
    by_cases h2 : x.1 = 2
    · rw [if_pos h2, if_pos h2]
      exact h x (by simp [Tr.flat]) h2
    · rw [if_neg h2, if_neg h2]
  | .one x a, h => by
    have ha := trVal_congr k s t a (fun y hy => h y (by simp [Tr.flat, hy]))
    simp only [trVal, ha]
  | .two x a b, h => by
    have ha := trVal_congr k s t a (fun y hy => h y (by simp [Tr.flat, hy]))
    have hb := trVal_congr k s t b (fun y hy => h y (by simp [Tr.flat, hy]))
    simp only [trVal, ha, hb]
theorem stateP_open {p : Pg} {st : List Int} (h : stateP p st = true) : (st.length : Int) = p.2.1 ∧ ∀ s ∈ st, goodB p.1 s = true := by
  unfold stateP at h
  rw [Bool.and_eq_true] at h
  exact ⟨of_decide_eq_true h.1, List.all_eq_true.1 h.2⟩
theorem said_of {p : Pg} {t : List Nd} {st : List Int} (hs : stateP p st = true) (hk : 0 < kindL p.1 p.2.1 t) : saidV p.1 t st = true := by
  obtain ⟨h1, h2⟩ := stateP_open hs
  unfold saidV
  rw [h1, decide_eq_true hk, Bool.true_and]
  exact List.all_eq_true.2 h2
set_option maxHeartbeats 1000000 in
/-- the model's value of a good term in a state -/
theorem l2Value_said (wide : Int) (v sv : Value) (t : List Nd) (st : List Int) (hok : StOk st) (hsaid : saidV wide t st = true) (w : World) (h : NodesAt w v t) (hs : StAt w sv st) (n : Int) (hn : n = (t.length : Int) - 1) :
    Calls Tryd.prog 114 #[.int .i64 wide, v, .int .i64 n, sv] w fun e w' => e = .returned (.int .u64 (valueL wide t st)) ∧ Below w.heap.size w w' := by
  obtain ⟨k, rfl, hk1, hk, hl1, hl, hsw, e0, ht, hval, hvar⟩ := valueL_root hsaid
  rw [hval]
  obtain ⟨hokN, _, hN⟩ := h
  rcases hN with ⟨rfl, _⟩ | ⟨b, off, cap, rfl, hlt, hc⟩
  · simp at hl1
  · subst hn
    have eL : (t.length : Int) - 1 = ((t.length - 1 : Nat) : Int) := by omega
    rw [eL]
    exact l2Value_any hk1 hk (fun x hx => (hokN x hx).2.2.1) (fun s hsm => ⟨(hok.2 s hsm).1, hsw s hsm⟩) (by omega) hok.1 (t.length - 1) (t.length - 1) (Nat.le_refl _) e0 ht
      (fun i n _ hi hx => by
        have h3 := hvar i n hi hx
        have h4 := (hokN _ (List.mem_of_getElem? hx)).2.2.1
        simp only at h4
        omega) w hlt hc hs
theorem goodP_nats {p : Pg} (h : goodP p = true) : ∃ k v : Nat, p.1 = k ∧ p.2.1 = v ∧ 1 ≤ k ∧ k ≤ 64 ∧ 1 ≤ v ∧ v ≤ 4 := by
  obtain ⟨_, q0, q1, q2, q3, _⟩ := goodP_parts h
  exact ⟨p.1.toNat, p.2.1.toNat, by omega, by omega, by omega, by omega, by omega, by omega⟩
end Go.Proofs.YtjbolpfilgkbfaaDoor

namespace Go.Proofs.YtjbolpfilgkbfaaDoor
open Go Go.RowKit
open M
set_option linter.unusedVariables false

theorem below_drew7 (B : Nat) (w : World) (n : Nat) : Below B w (w.drewN n) := ⟨rfl, rfl, rfl, Nat.le_refl _, fun _ _ => rfl⟩
/-- the number of words of k bits -/
def noL (k : Nat) : List Int → Int
  | [] => 0
  | x :: r => x + 2 ^ k * noL k r
theorem two_pos (n : Nat) : (0 : Int) < 2 ^ n := Int.pow_pos (by omega)
theorem noL_snoc (k : Nat) (x : Int) : ∀ l : List Int, noL k (l ++ [x]) = noL k l + x * 2 ^ (k * l.length)
  | [] => by simp [noL]
  | y :: l => by
    rw [List.cons_append, noL, noL, noL_snoc k x l, List.length_cons, Nat.mul_succ, Int.pow_add, Int.mul_add, Int.mul_comm (2 ^ (k * l.length)) (2 ^ k), ← Int.mul_assoc, ← Int.mul_assoc, Int.mul_comm (2 ^ k) x]
    omega
theorem noL_in (k : Nat) : ∀ l : List Int, (∀ s ∈ l, 0 ≤ s ∧ s < 2 ^ k) → 0 ≤ noL k l ∧ noL k l < 2 ^ (k * l.length)
  | [], _ => by simp [noL]
  | y :: l, h => by
    obtain ⟨h0, h1⟩ := h y (by simp)
    obtain ⟨g0, g1⟩ := noL_in k l (fun s hs => h s (by simp [hs]))
    have hp := two_pos k
    have m0 : (0 : Int) ≤ 2 ^ k * noL k l := Int.mul_nonneg (by omega) g0
    have m1 : 2 ^ k * noL k l ≤ 2 ^ k * (2 ^ (k * l.length) - 1) := Int.mul_le_mul_of_nonneg_left (by omega) (by omega)
    rw [Int.mul_sub, Int.mul_one] at m1
    rw [noL, List.length_cons, Nat.mul_succ, Int.pow_add, Int.mul_comm (2 ^ (k * l.length)) (2 ^ k)]
    omega
theorem good_two (k : Nat) (a : Int) (h0 : 0 ≤ a) (h : goodB k a = true) : 0 ≤ a ∧ a < 2 ^ k := by
  obtain ⟨k', e, _, _, h3⟩ := goodB_true h
  obtain rfl : k = k' := by omega
  rw [pw_int]
  exact ⟨h0, h3⟩
def padL (st : List Int) : List Int := [padW st 0, padW st 1, padW st 2, padW st 3]
theorem padL_getD (st : List Int) (h : st.length ≤ 4) (i : Nat) (hi : i < st.length) : (padL st).getD i 0 = st.getD i 0 := by
  match i, (show i < 4 by omega) with
  | 0, _ => rfl
  | 1, _ => rfl
  | 2, _ => rfl
  | 3, _ => rfl
theorem padL_at (st : List Int) (i : Nat) (hi : i < 4) : (padL st)[i]? = some (padW st i) := by
  rcases (show i = 0 ∨ i = 1 ∨ i = 2 ∨ i = 3 by omega) with rfl | rfl | rfl | rfl <;> rfl
theorem noL_pad (k : Nat) : ∀ (st : List Int), st.length ≤ 4 → noL k (padL st) = noL k st
  | [], _ => by simp [padL, padW, noL]
  | [a], _ => by simp [padL, padW, noL]
  | [a, b], _ => by simp [padL, padW, noL]
  | [a, b, c], _ => by simp [padL, padW, noL]
  | [a, b, c, d], _ => by simp [padL, padW, noL]
  | _ :: _ :: _ :: _ :: _ :: _, h => by simp at h
end Go.Proofs.YtjbolpfilgkbfaaDoor

namespace Go.Proofs.YtjbolpfilgkbfaaDoor
open Go Go.RowKit
open M
set_option linter.unusedVariables false

/-- the four words of a state -/
abbrev aggS (st : List Int) : Value := .agg #[.int .u64 (padW st 0), .int .u64 (padW st 1), .int .u64 (padW st 2), .int .u64 (padW st 3)]
/-- a state as it lies in a block -/
abbrev BoxS (w : World) (b : Nat) (st : List Int) : Prop := Box4 w b 90 (.int .u64 (padW st 0)) (.int .u64 (padW st 1)) (.int .u64 (padW st 2)) (.int .u64 (padW st 3))
/-- words of a state as a good program has them -/
def WordsIn (k vars : Nat) (st : List Int) : Prop := 1 ≤ k ∧ k ≤ 64 ∧ 1 ≤ vars ∧ vars ≤ 4 ∧ st.length = vars ∧ (∀ s ∈ st, 0 ≤ s) ∧ ∀ s ∈ st, goodB k s = true
theorem padW_mem (st : List Int) (i : Nat) : padW st i = 0 ∨ padW st i ∈ st := by
  unfold padW
  rw [List.getD_eq_getElem?_getD]
  cases h : st[i]? with
  | none => exact Or.inl rfl
  | some x => exact Or.inr (List.mem_of_getElem? h)
theorem padL_words {k vars : Nat} {st : List Int} (h : WordsIn k vars st) : ∀ s ∈ padL st, 0 ≤ s ∧ s < pw k := by
  obtain ⟨h1, h2, _, _, _, h0, hg⟩ := h
  have key : ∀ i, 0 ≤ padW st i ∧ padW st i < pw k := by
    intro i
    rcases padW_mem st i with e | e
    · rw [e]
      exact ⟨Int.le_refl _, by have := pw_pos k; omega⟩
    · have := good_two k _ (h0 _ e) (hg _ e)
      rw [pw_int] at this
      exact this
  intro s hs
  simp only [padL, List.mem_cons, List.not_mem_nil, or_false] at hs
  rcases hs with rfl | rfl | rfl | rfl <;> exact key _
theorem set4_other {u : World} {b i : Nat} (h : i ≠ b) (v0 v1 v2 v3 : Value) : ((((u.setCell ⟨b, 0, none⟩ v0).setCell ⟨b, 1, none⟩ v1).setCell ⟨b, 2, none⟩ v2).setCell ⟨b, 3, none⟩ v3).heap[i]? = u.heap[i]? := by
  rw [Below.heap_setCell _ _ _ _ h, Below.heap_setCell _ _ _ _ h, Below.heap_setCell _ _ _ _ h, Below.heap_setCell _ _ _ _ h]
theorem set4_size (u : World) (b : Nat) (v0 v1 v2 v3 : Value) : ((((u.setCell ⟨b, 0, none⟩ v0).setCell ⟨b, 1, none⟩ v1).setCell ⟨b, 2, none⟩ v2).setCell ⟨b, 3, none⟩ v3).heap.size = u.heap.size := by
  rw [size_set, size_set, size_set, size_set]
theorem set4_below {u w : World} {b : Nat} {B : Nat} (hb : Below B w u) (h : B ≤ b) (v0 v1 v2 v3 : Value) : Below B w ((((u.setCell ⟨b, 0, none⟩ v0).setCell ⟨b, 1, none⟩ v1).setCell ⟨b, 2, none⟩ v2).setCell ⟨b, 3, none⟩ v3) :=
  (((hb.setCell h v0).setCell h v1).setCell h v2).setCell h v3
end Go.Proofs.YtjbolpfilgkbfaaDoor

namespace Go.Proofs.YtjbolpfilgkbfaaDoor
open Go Go.RowKit
open M
set_option linter.unusedVariables false

theorem boxS_at {w : World} {b : Nat} {st : List Int} (h : BoxS w b st) : StAt w (.slice (some ⟨b, 0, none⟩) 4 4) (padL st) := by
  obtain ⟨c0, c1, c2, c3⟩ := h.cells
  refine Or.inr ⟨b, 0, 4, rfl, h.lt, fun i s hi => ?_⟩
  have hil := (List.getElem?_eq_some_iff.1 hi).1
  simp only [padL, List.length_cons, List.length_nil] at hil
  rw [padL_at st i (by omega)] at hi
  obtain rfl := Option.some.inj hi
  rcases (show i = 0 ∨ i = 1 ∨ i = 2 ∨ i = 3 by omega) with rfl | rfl | rfl | rfl
  · exact c0
  · exact c1
  · exact c2
  · exact c3
theorem valR_any {k vars : Nat} {kind : Int} {t : List Nd} (hpos : ∀ x ∈ t, 0 ≤ x.2) {st : List Int} (hw : WordsIn k vars st) (z : Value) (w : World) (hT : Tab w) (hr : RtAt w (Old w) k vars kind t z) (b : Nat) (hx : BoxS w b st) :
    Calls Tryd.prog 128 #[z, .int .i64 k, .slice (some ⟨b, 0, none⟩) 4 4] w fun e w' => e = .returned (.int .u64 (valueL k t st)) ∧ Below w.heap.size w w' := by
  obtain ⟨r, q, rfl, hf, hok, _, hsz, htr⟩ := hr
  have hp := padL_words hw
  obtain ⟨hk1, hk, hv1, hv4, hlen, h0, hg⟩ := hw
  have e1 := (value_of_flat (k := k) (st := st) (T := r) (by rw [hlen]; exact hok) hk1 hk (by omega) (by omega) hsz hg).2
  have hvb : ∀ x ∈ r.flat, x.1 = 2 → x.2.toNat < vars := by
    intro x hx h2
    have h3 := ok_vars hok x hx h2
    have h4 := hpos x (by rw [← hf]; exact hx)
    omega
  have e2 : trVal k (padL st) r = trVal k st r := trVal_congr k _ _ r (fun x hx h2 => padL_getD st (by omega) _ (by have := hvb x hx h2; omega))
  rw [hf] at e1
  rw [e1, ← e2]
  exact value_any k hk1 hk vars (padL st) _ hp (by simp [padL]) r q w hT htr (boxS_at hx) hok (fun x hx => hpos x (by rw [← hf]; exact hx)) (fun x hx h2 => by
    have := hvb x hx h2
    have : (padL st).length = 4 := rfl
    omega)
set_option maxRecDepth 100000 in
set_option maxHeartbeats 2000000 in
theorem worth_any {k vars : Nat} {kind : Int} {t : List Nd} (hpos : ∀ x ∈ t, 0 ≤ x.2) {st : List Int} (hw : WordsIn k vars st) (P : Nat) (u y z : Value) (w : World) (hT : Tab w) (hP : Box4 w P 111 (.int .i64 k) (.int .i64 vars) u y) (hr : RtAt w (Old w) k vars kind t z) :
    Calls Tryd.prog 108 #[ptr P, z, aggS st] w fun e w' => e = .returned (.int .u64 (valueL k t st)) ∧ Below w.heap.size w w' := by
  unfold aggS
  have HB0 : Hid (Below w.heap.size w (w.alloc (.cells #[.int .u64 (padW st 0), .int .u64 (padW st 1), .int .u64 (padW st 2), .int .u64 (padW st 3)] 90))) := (Below.refl _ _).alloc (Nat.le_refl _) _
  have y0 := box4_alloc w 90 (.int .u64 (padW st 0)) (.int .u64 (padW st 1)) (.int .u64 (padW st 2)) (.int .u64 (padW st 3))
  have HBD : Hid (Below w.heap.size w (w.alloc (.cells #[.int .u64 (padW st 0), .int .u64 (padW st 1), .int .u64 (padW st 2), .int .u64 (padW st 3)] 90)).drew) := HB0.out.drew
  have hr2 : RtAt _ (Old _) k vars kind t z := hr.frame (fun i hi => Nat.lt_of_lt_of_le hi HBD.out.size) (fun i hi => HBD.out.block i hi)
  have GC : Hid _ := valR_any hpos hw z _ (hT.below HBD.out hT.some) hr2 _ ⟨y0.heap⟩
  have hP2 := hP.below HB0.out hP.lt
  obtain ⟨p0, p1, p2, p3⟩ := hP2.cells
  have ph := hP2.heap
  have pl := hP2.lt
  obtain ⟨q0, q1, q2, q3⟩ := y0.cells
  have qh := y0.heap
  have ql := y0.lt
  have h4 : (Tryd.prog.info? 90).map (·.size) = some 4 := by kernel_rfl
  obtain ⟨_, b, rfl, _⟩ := hr
  clear hr2 hP2 hP y0 hT hpos hw
  generalize valueL k t st = V at *
  generalize padW st 0 = x0 at *
  generalize padW st 1 = x1 at *
  generalize padW st 2 = x2 at *
  generalize padW st 3 = x3 at *
  go_enter Tryd.func108, Tryd.ntmps108
  go_wp2_with fail
  go_region_with (go_at_call 128; refine Calls.mono GC.out ?_; rintro e w1 ⟨rfl, hs⟩; have HB1 : Hid (Below w.heap.size w w1) := Below.step HBD.out HBD.out.size hs; clear hs)
  all_goals
    go_wp2_with fail
    go_ret
    exact ⟨rfl, HB1.out⟩
set_option maxRecDepth 100000 in
set_option maxHeartbeats 2000000 in
theorem holds_any {k vars : Nat} {kind : Int} {t : List Nd} (hpos : ∀ x ∈ t, 0 ≤ x.2) {st : List Int} (hw : WordsIn k vars st) (P : Nat) (u y z : Value) (w : World) (hT : Tab w) (hP : Box4 w P 111 (.int .i64 k) (.int .i64 vars) u y) (hr : RtAt w (Old w) k vars kind t z) :
    Calls Tryd.prog 107 #[ptr P, z, aggS st] w fun e w' => e = .returned (.bool (holdsL k t st)) ∧ Below w.heap.size w w' := by
  have HB0 : Hid (Below w.heap.size w (w.alloc (.cells #[.int .u64 (padW st 0), .int .u64 (padW st 1), .int .u64 (padW st 2), .int .u64 (padW st 3)] 90))) := (Below.refl _ _).alloc (Nat.le_refl _) _
  have hr2 : RtAt _ (Old _) k vars kind t z := hr.frame (fun i hi => Nat.lt_of_lt_of_le hi HB0.out.size) (fun i hi => HB0.out.block i hi)
  have g := worth_any hpos hw P u y z _ (hT.below HB0.out hT.some) (hP.below HB0.out hP.lt) hr2
  have y0 := box4_alloc w 90 (.int .u64 (padW st 0)) (.int .u64 (padW st 1)) (.int .u64 (padW st 2)) (.int .u64 (padW st 3))
  obtain ⟨q0, q1, q2, q3⟩ := y0.cells
  have qh := y0.heap
  have ql := y0.lt
  have h4 : (Tryd.prog.info? 90).map (·.size) = some 4 := by kernel_rfl
  have hH : holdsL k t st = (valueL k t st == 1) := rfl
  rw [hH]
  unfold aggS at *
  obtain ⟨_, b, rfl, _⟩ := hr
  clear hT hP hpos hw hH hr2 y0
  generalize valueL k t st = V at *
  generalize padW st 0 = x0 at *
  generalize padW st 1 = x1 at *
  generalize padW st 2 = x2 at *
  generalize padW st 3 = x3 at *
  go_enter Tryd.func107, Tryd.ntmps107
  go_wp2_with fail
  refine g.mono ?_
  rintro e w1 ⟨rfl, hs⟩
  have HB1 : Hid (Below w.heap.size w w1) := Below.step HB0.out HB0.out.size hs
  clear hs g
  go_wp2_with fail
  go_ret
  exact ⟨rfl, HB1.out⟩
end Go.Proofs.YtjbolpfilgkbfaaDoor

namespace Go.Proofs.YtjbolpfilgkbfaaDoor
open Go Go.RowKit
open M
set_option linter.unusedVariables false

abbrev zeroS : Value := .agg #[.int .u64 0, .int .u64 0, .int .u64 0, .int .u64 0]
/-- what rootsWith answers -/
def RWOut (w : World) (p : Pg) (st : List Int) (e : Ending) (w' : World) : Prop :=
  ((goodS p st = true ∧ ∃ P : Nat, e = .returned (.tuple #[ptr P, aggS st]) ∧ Rooted w' (fun k => w.heap.size ≤ k ∧ k < w'.heap.size) p P) ∨ (goodS p st = false ∧ e = .returned (.tuple #[.pointer none, zeroS]))) ∧ Below w.heap.size w w'
theorem rwOut_no {w w' : World} {p : Pg} {st : List Int} (h : goodS p st = false) (hb : Below w.heap.size w w') : RWOut w p st (.returned (.tuple #[.pointer none, zeroS])) w' := ⟨Or.inr ⟨h, rfl⟩, hb⟩
theorem rwOut_yes {w w' : World} {p : Pg} {st : List Int} (P : Nat) (a b c d : Int) (h : goodS p st = true) (e : a = padW st 0 ∧ b = padW st 1 ∧ c = padW st 2 ∧ d = padW st 3) (hr : Rooted w' (fun k => w.heap.size ≤ k ∧ k < w'.heap.size) p P) (hb : Below w.heap.size w w') : RWOut w p st (.returned (.tuple #[.pointer (some ⟨P, 0, none⟩), .agg #[.int .u64 a, .int .u64 b, .int .u64 c, .int .u64 d]])) w' := by
  obtain ⟨rfl, rfl, rfl, rfl⟩ := e
  exact ⟨Or.inl ⟨h, P, rfl, hr⟩, hb⟩
theorem Rooted.frame {w w' : World} {S S' : Nat → Prop} {p : Pg} {P : Nat} (h : Rooted w S p P) (hz : w.heap.size ≤ w'.heap.size) (hs : ∀ k, S k → S' k) (hk : ∀ k, S k → w'.heap[k]? = w.heap[k]?) : Rooted w' S' p P := by
  obtain ⟨h0, x, y, h1, h2, h3⟩ := h
  exact ⟨hs P h0, x, y, ⟨by rw [hk P h0]; exact h1.heap⟩, h2.frame hs hk, h3.frame hz hs hk⟩
theorem goodS_open {p : Pg} {st : List Int} (h0 : ∀ s ∈ st, 0 ≤ s) (h : goodS p st = true) : goodP p = true ∧ ∃ k v : Nat, p.1 = k ∧ p.2.1 = v ∧ WordsIn k v st := by
  unfold goodS at h
  rw [Bool.and_eq_true] at h
  obtain ⟨h1, h2⟩ := h
  obtain ⟨k, v, e1, e2, q1, q2, q3, q4⟩ := goodP_nats h1
  obtain ⟨h3, h4⟩ := stateP_open h2
  refine ⟨h1, k, v, e1, e2, q1, q2, q3, q4, by omega, h0, ?_⟩
  rw [← e1]
  exact h4
theorem results_b4 {fn : Func} {p u : Tmp} (h : fn.results = #[.tmp u, .cell p 90]) (tmps : Array Value) (w : World) (g : Nat) (t : TypeId) (cs : Array Value) (fr : Nat × Nat)
    (hp : tmps.getD p undef = .pointer (some ⟨g, 0, none⟩)) (hg : w.heap[g]? = some (.cells cs t fr)) (hi : cs.size = 4 := by rfl) :
    (results fn tmps).run Tryd.prog w = .ok (.tuple #[tmps.getD u undef, .agg cs]) w := by
  have hp' : tmps[p]?.getD undef = .pointer (some ⟨g, 0, none⟩) := by simpa using hp
  have h4 : (Tryd.prog.info? 90).map (·.size) = some 4 := by kernel_rfl
  simp [results, h, hp', asAddr, run_loadVar_row w g t 90 cs fr _ hg Tryd.underlying90 rfl (by rw [hi]; exact h4)]
abbrev PBox (w : World) (a b : Int) (s c : Value) : World := w.alloc (.cells #[.int .i64 a, .int .i64 b, s, c] 27)
abbrev ZBox (w : World) : World := w.alloc (.cells #[.int .u64 0, .int .u64 0, .int .u64 0, .int .u64 0] 90)
abbrev BoxZ (w : World) (b : Nat) : Prop := Box4 w b 90 (.int .u64 0) (.int .u64 0) (.int .u64 0) (.int .u64 0)
set_option maxRecDepth 100000 in
set_option maxHeartbeats 4000000 in
theorem rootsWith_any (v sv : Value) (p : Pg) (ok : PgOk p) (st : List Int) (hst : ∀ s ∈ st, 0 ≤ s ∧ s ≤ 18446744073709551615) (hl : st.length ≤ 1048576) (w : World) (hT : Tab w) (h : AtProg w v p) (hs : StAt w sv st) :
    Calls Tryd.prog 61 #[v, sv] w (RWOut w p st) := by
  obtain ⟨sa, sn, sc, ca, cn, cc, rfl⟩ := h.shape
  have hb2 : Below w.heap.size w ((w.alloc (.cells #[.int .i64 p.1, .int .i64 p.2.1, .slice sa sn sc, .slice ca cn cc] 27)).alloc (.cells #[.int .u64 0, .int .u64 0, .int .u64 0, .int .u64 0] 90)) := ((Below.refl _ _).alloc (Nat.le_refl _) _).alloc (by rw [World.size_alloc]; omega) _
  have HB0 : Hid _ := hb2
  have x0 := (box4_alloc w 27 (.int .i64 p.1) (.int .i64 p.2.1) (.slice sa sn sc) (.slice ca cn cc)).alloc (.cells #[.int .u64 0, .int .u64 0, .int .u64 0, .int .u64 0] 90)
  have y0 := box4_alloc (w.alloc (.cells #[.int .i64 p.1, .int .i64 p.2.1, .slice sa sn sc, .slice ca cn cc] 27)) 90 (.int .u64 0) (.int .u64 0) (.int .u64 0) (.int .u64 0)
  simp only [World.size_alloc] at y0
  have g := rootsOf_full _ p ok _ (hT.below HB0.out hT.some) (h.below HB0.out)
  have HNO : Hid (∀ w' : World, goodS p st = false → Below w.heap.size w w' → RWOut w p st (.returned (.tuple #[.pointer none, zeroS])) w') := fun w' h1 h2 => rwOut_no h1 h2
  have HYE : Hid (∀ (w' : World) (P : Nat) (a b c d : Int), goodS p st = true → (a = padW st 0 ∧ b = padW st 1 ∧ c = padW st 2 ∧ d = padW st 3) → Rooted w' (fun k => w.heap.size ≤ k ∧ k < w'.heap.size) p P → Below w.heap.size w w' → RWOut w p st (.returned (.tuple #[.pointer (some ⟨P, 0, none⟩), .agg #[.int .u64 a, .int .u64 b, .int .u64 c, .int .u64 d]])) w') := fun w' P a b c d h1 h2 h3 h4 => rwOut_yes P a b c d h1 h2 h3 h4
  have HG : Hid (goodS p st = (goodP p && stateP p st)) := rfl
  have HF : Hid (∀ (w1 : World) (P : Nat) (x y : Value) (k u : Nat), goodP p = true → p.1 = k → p.2.1 = u → Below w.heap.size w w1 → Box4 w1 P 111 (.int .i64 p.1) (.int .i64 p.2.1) x y → Calls Tryd.prog 106 #[.pointer (some ⟨P, 0, none⟩), sv] w1 (StOut w1 k u st)) := fun w1 P x y k u hg e1 e2 hb hx => by
    obtain ⟨_, q0, q1, q2, q3, _⟩ := goodP_parts hg
    rw [e1, e2] at hx
    exact stateFrom_any k (by omega) (by omega) u (by omega) P x y sv st hst (by omega) w1 (hT.below hb hT.some) hx (hs.below hb)
  have HSB : Hid (∀ k u : Nat, p.1 = k → p.2.1 = u → stB k u st = stateP p st) := fun k u e1 e2 => by
    unfold stB stateP
    rw [e1, e2]
  have HNT : Hid (goodP p = true → ∃ k u : Nat, p.1 = k ∧ p.2.1 = u) := fun hg => by
    obtain ⟨k, u, e1, e2, _⟩ := goodP_nats hg
    exact ⟨k, u, e1, e2⟩
  obtain ⟨ua, uc, rfl⟩ := hs.shape
  have h4 : (Tryd.prog.info? 90).map (·.size) = some 4 := by kernel_rfl
  obtain ⟨a0, a1, a2, a3⟩ := x0.cells
  have ah := x0.heap
  have al := x0.lt
  have HY0 : Hid _ := y0
  clear h hT ok hs hst hb2 x0 y0
  generalize hOUT : RWOut w p st = OUT at *
  clear hOUT
  go_enter Tryd.func61, Tryd.ntmps61
  go_wp2_with fail
  refine g.mono ?_
  clear a0 a1 a2 a3 ah al
  generalize hw0 : (w.alloc (.cells #[.int .i64 p.1, .int .i64 p.2.1, .slice sa sn sc, .slice ca cn cc] 27)).alloc (.cells #[.int .u64 0, .int .u64 0, .int .u64 0, .int .u64 0] 90) = w0 at *
  have hz0 : w0.heap.size = w.heap.size + 2 := by rw [← hw0, World.size_alloc, World.size_alloc]
  clear hw0
  rintro e w1 ⟨ho, hb1⟩
  have HB1 : Hid (Below w.heap.size w w1) := HB0.out.trans (hb1.mono (by omega))
  have HY1 : Hid _ := HY0.out.below hb1 (by omega)
  have hz1 := hb1.size
  obtain ⟨q0, q1, q2, q3⟩ := HY1.out.cells
  have qh := HY1.out.heap
  have ql := HY1.out.lt
  have f0 := HY1.out.frozen 0
  have f1 := HY1.out.frozen 1
  have f2 := HY1.out.frozen 2
  have f3 := HY1.out.frozen 3
  rcases ho with ⟨hg, P, rfl, hroot⟩ | ⟨hg, rfl⟩
  · obtain ⟨k, u, e1, e2⟩ := HNT.out hg
    have HR : Hid (Rooted w1 (fun k => w0.heap.size ≤ k ∧ k < w1.heap.size) p P) := hroot
    obtain ⟨hPS, x, y, hbx, _, _⟩ := hroot
    have gf := HF.out w1 P x y k u hg e1 e2 HB1.out hbx
    have HGP : Hid (goodS p st = stB k u st) := by
      show goodS p st = stB k u st
      rw [HG.out, hg, Bool.true_and, HSB.out k u e1 e2]
    clear g HF HSB HNT HG hg hbx e1 e2 hPS
    go_wp2_with fail
    refine gf.mono ?_
    rintro e w2 ⟨a, b, c, d, rfl, habcd, hb2⟩
    have HB2 : Hid (Below w.heap.size w w2) := HB1.out.trans (hb2.mono HB1.out.size)
    have hz2 := hb2.size
    have HY2 : Hid _ := HY1.out.below hb2 (by omega)
    have HR2 : Hid (Rooted w2 (fun k => w.heap.size + 2 ≤ k ∧ k < w2.heap.size) p P) := Rooted.frame HR.out hb2.size (fun k hk => ⟨by omega, by omega⟩) (fun k hk => hb2.block k hk.2)
    have HA : Hid _ := habcd
    have hb3 : Below w2.heap.size w2 (w2.alloc (.cells #[.int .u64 a, .int .u64 b, .int .u64 c, .int .u64 d] 90)) := (Below.refl _ _).alloc (Nat.le_refl _) _
    have HB3 : Hid _ := HB2.out.trans (hb3.mono HB2.out.size)
    have hz3 := hb3.size
    have HR3 : Hid (Rooted (w2.alloc (.cells #[.int .u64 a, .int .u64 b, .int .u64 c, .int .u64 d] 90)) (fun k => w.heap.size + 2 ≤ k ∧ k < (w2.alloc (.cells #[.int .u64 a, .int .u64 b, .int .u64 c, .int .u64 d] 90)).heap.size) p P) := Rooted.frame HR2.out (S' := fun k => w.heap.size + 2 ≤ k ∧ k < (w2.alloc (.cells #[.int .u64 a, .int .u64 b, .int .u64 c, .int .u64 d] 90)).heap.size) hb3.size (fun k hk => ⟨hk.1, by omega⟩) (fun k hk => hb3.block k hk.2)
    have HY3 : Hid _ := HY2.out.alloc (.cells #[.int .u64 a, .int .u64 b, .int .u64 c, .int .u64 d] 90)
    have x3 := box4_alloc w2 90 (.int .u64 a) (.int .u64 b) (.int .u64 c) (.int .u64 d)
    clear q0 q1 q2 q3 qh ql f0 f1 f2 f3
    obtain ⟨q0, q1, q2, q3⟩ := HY3.out.cells
    have qh := HY3.out.heap
    have ql := HY3.out.lt
    have f0 := HY3.out.frozen 0
    have f1 := HY3.out.frozen 1
    have f2 := HY3.out.frozen 2
    have f3 := HY3.out.frozen 3
    obtain ⟨r0, r1, r2, r3⟩ := x3.cells
    have rh := x3.heap
    have rl := x3.lt
    clear gf HR hb2 habcd x3 HR2 HY2 HB2
    cases hB : stB k u st with
    | true =>
      rw [hB] at HA HGP
      go_wp2_with fail
      go_region
      all_goals
        go_wp2_with fail
        refine bodyPost_ret (results_b4 rfl _ _ _ _ _ _ rfl ((((HY3.out.set0 (.int .u64 a)).set1 (.int .u64 b)).set2 (.int .u64 c)).set3 (.int .u64 d)).heap) rfl ?_
        exact HYE.out _ _ _ _ _ _ HGP.out (HA.out (by trivial)) (Rooted.frame HR3.out (Nat.le_of_eq (set4_size _ _ _ _ _ _).symm) (fun k hk => ⟨by omega, Nat.lt_of_lt_of_eq hk.2 (set4_size _ _ _ _ _ _).symm⟩) (fun k hk => set4_other (by omega) _ _ _ _)) (set4_below HB3.out (Nat.le_succ _) _ _ _ _).drew
    | false =>
      rw [hB] at HGP
      go_wp2_with fail
      refine bodyPost_ret (results_b4 rfl _ _ _ _ _ _ rfl ((((HY3.out.set0 (.int .u64 0)).set1 (.int .u64 0)).set2 (.int .u64 0)).set3 (.int .u64 0)).heap) rfl ?_
      exact HNO.out _ HGP.out ((((HB3.out.setCell (Nat.le_succ _) (.int .u64 0)).setCell (Nat.le_succ _) (.int .u64 0)).setCell (Nat.le_succ _) (.int .u64 0)).setCell (Nat.le_succ _) (.int .u64 0))
  · have HN : Hid (goodS p st = false) := by
      show goodS p st = false
      rw [HG.out, hg, Bool.false_and]
    clear g HF HSB HNT HG hg hb1
    go_wp2_with fail
    refine bodyPost_ret (results_b4 rfl _ _ _ _ _ _ rfl ((((HY1.out.set0 (.int .u64 0)).set1 (.int .u64 0)).set2 (.int .u64 0)).set3 (.int .u64 0)).heap) rfl ?_
    exact HNO.out _ HN.out ((((HB1.out.setCell (Nat.le_succ _) (.int .u64 0)).setCell (Nat.le_succ _) (.int .u64 0)).setCell (Nat.le_succ _) (.int .u64 0)).setCell (Nat.le_succ _) (.int .u64 0))
end Go.Proofs.YtjbolpfilgkbfaaDoor

namespace Go.Proofs.YtjbolpfilgkbfaaDoor
open Go Go.RowKit
open M
set_option linter.unusedVariables false

theorem indexW_at (st : List Int) (j : Nat) (hj : j < 4) (w : World) : Sem.run Tryd.prog (Instr.index 90 (aggS st) (.int .i64 (j : Int))) w = .ok (.int .u64 (padW st j)) w := by
  rcases (show j = 0 ∨ j = 1 ∨ j = 2 ∨ j = 3 by omega) with rfl | rfl | rfl | rfl
  · exact indexW_0 _ _ _ _ w
  · exact indexW_1 _ _ _ _ w
  · exact indexW_2 _ _ _ _ w
  · exact indexW_3 _ _ _ _ w
set_option maxRecDepth 100000 in
set_option maxHeartbeats 2000000 in
theorem number_any {k vars : Nat} (hk5 : k ≤ 5) {st : List Int} (hw : WordsIn k vars st) (P : Nat) (u y : Value) (w : World) (hP : Box4 w P 111 (.int .i64 k) (.int .i64 vars) u y) :
    Calls Tryd.prog 84 #[ptr P, aggS st] w fun e w' => e = .returned (.int .i64 (noL k st)) ∧ Below w.heap.size w w' := by
  have hp := padL_words hw
  have hl4 : st.length ≤ 4 := by obtain ⟨_, _, _, h4, h5, _⟩ := hw; omega
  have hb0 : Below w.heap.size w (w.alloc (.cells #[.int .u64 (padW st 0), .int .u64 (padW st 1), .int .u64 (padW st 2), .int .u64 (padW st 3)] 90)) := (Below.refl _ _).alloc (Nat.le_refl _) _
  have y0 := box4_alloc w 90 (.int .u64 (padW st 0)) (.int .u64 (padW st 1)) (.int .u64 (padW st 2)) (.int .u64 (padW st 3))
  have HB0 : Hid _ := hb0
  have hP2 := hP.below hb0 hP.lt
  obtain ⟨p0, p1, p2, p3⟩ := hP2.cells
  have ph := hP2.heap
  have pl := hP2.lt
  obtain ⟨q0, q1, q2, q3⟩ := y0.cells
  have qh := y0.heap
  have ql := y0.lt
  have h4 : (Tryd.prog.info? 90).map (·.size) = some 4 := by kernel_rfl
  have hbd : ∀ j, j ≤ 4 → 0 ≤ noL k ((padL st).take j) ∧ noL k ((padL st).take j) < 1048576 := by
    intro j hj
    obtain ⟨a, b⟩ := noL_in k ((padL st).take j) (fun s hs => by
      have := hp s (List.mem_of_mem_take hs)
      rw [pw_int]
      exact this)
    refine ⟨a, Int.lt_of_lt_of_le b ?_⟩
    have hl : ((padL st).take j).length ≤ 4 := by rw [List.length_take]; exact Nat.le_trans (Nat.min_le_left _ _) hj
    have hm : k * ((padL st).take j).length ≤ 20 := Nat.le_trans (Nat.mul_le_mul hk5 hl) (by omega)
    rw [pw_int, show (1048576 : Int) = pw 20 from by decide]
    exact pw_mono _ _ hm
  have hsn : ∀ j, j < 4 → noL k ((padL st).take (j + 1)) = noL k ((padL st).take j) + padW st j * 2 ^ (k * j) := by
    intro j hj
    rw [List.take_add_one, padL_at st j hj]
    show noL k ((padL st).take j ++ [padW st j]) = _
    rw [noL_snoc, List.length_take, Nat.min_eq_left (by show j ≤ 4; omega)]
  have hwd : ∀ j, 0 ≤ padW st j ∧ padW st j < 32 := by
    intro j
    have h1 : 0 ≤ padW st j ∧ padW st j < pw k := by
      rcases padW_mem st j with e | e
      · rw [e]
        exact ⟨Int.le_refl _, by have := pw_pos k; omega⟩
      · obtain ⟨_, _, _, _, _, h0, hg⟩ := hw
        have := good_two k _ (h0 _ e) (hg _ e)
        rw [pw_int] at this
        exact this
    have h2 := pw_mono k 5 hk5
    have h3 : pw 5 = 32 := by decide
    omega
  have HBD : Hid _ := hbd
  have HSN : Hid _ := hsn
  have HWD : Hid _ := hwd
  have HE : Hid (noL k ((padL st).take 4) = noL k st) := by
    show _ = _
    rw [show (padL st).take 4 = padL st from rfl, noL_pad k st hl4]
  clear hbd hsn hwd hp hw hP hP2 y0 hb0 hl4
  go_enter Tryd.func84, Tryd.ntmps84
  go_wp2_with fail
  go_loopw [5, 9] (fun m i wr => ∃ j : Nat, j ≤ 4 ∧ i = .int .i64 j ∧ m = .int .i64 (noL k ((padL st).take j)) ∧ wr = w.alloc (.cells #[.int .u64 (padW st 0), .int .u64 (padW st 1), .int .u64 (padW st 2), .int .u64 (padW st 3)] 90)) (fun _ i _ => 4 - (intOf i).toNat)
  case atStart => exact ⟨0, by omega, rfl, rfl, rfl⟩
  case round =>
    obtain ⟨j, hj, rfl, rfl, rfl⟩ := hrel
    obtain ⟨b0, b1⟩ := HBD.out j hj
    by_cases hlt : j < 4
    · have ix := indexW_at st j hlt
      obtain ⟨x0, x1⟩ := HWD.out j
      obtain ⟨c0, c1⟩ := HBD.out (j + 1) hlt
      have hs := HSN.out j hlt
      have hkj : k * j ≤ 15 := Nat.le_trans (Nat.mul_le_mul hk5 (by omega : j ≤ 3)) (by omega)
      have hm : IntKind.i64.wrap ((k : Int) * (j : Int)) = ((k * j : Nat) : Int) := by
        rw [← Int.natCast_mul]
        exact IntWalk.i64_in _ ⟨by omega, by omega⟩
      have hx : IntKind.i64.wrap (padW st j) = padW st j := IntWalk.i64_in _ ⟨by omega, by omega⟩
      go_wp2_with fail
      go_roundw
      case rel => exact ⟨j + 1, by omega, by go_num, by rw [hs], trivial⟩
      case measure => simp [intOf]; omega
    · obtain rfl : j = 4 := by omega
      have HE2 := HE.out
      clear HBD HSN HWD
      go_wp2_with fail
      go_ret
      exact ⟨by rw [← HE2]; rfl, HB0.out⟩
end Go.Proofs.YtjbolpfilgkbfaaDoor

namespace Go.Proofs.YtjbolpfilgkbfaaDoor
open Go Go.RowKit
open M
set_option linter.unusedVariables false

/-- the numbers of the enabled ones of some commands, counted from i -/
def enF (k : Int) (st : List Int) : List Cm → Int → List Int
  | [], _ => []
  | c :: r, i => if holdsL k c.1 st = true then i :: enF k st r (i + 1) else enF k st r (i + 1)
theorem enF_snoc (k : Int) (st : List Int) (c : Cm) : ∀ (l : List Cm) (i : Int), enF k st (l ++ [c]) i = enF k st l i ++ (if holdsL k c.1 st = true then [i + l.length] else [])
  | [], i => by
    simp only [List.nil_append, enF]
    split <;> simp
  | d :: l, i => by
    have ih := enF_snoc k st c l (i + 1)
    have e : i + 1 + (l.length : Int) = i + ((d :: l).length : Int) := by simp only [List.length_cons]; omega
    rw [e] at ih
    simp only [List.cons_append, enF, ih]
    split <;> simp
theorem enF_len (k : Int) (st : List Int) : ∀ (l : List Cm) (i : Int), (enF k st l i).length ≤ l.length
  | [], i => by simp [enF]
  | d :: l, i => by
    have ih := enF_len k st l (i + 1)
    simp only [enF]
    split <;> simp only [List.length_cons] <;> omega
theorem enF_yes {k : Int} {st : List Int} {cs : List Cm} {j : Nat} {c : Cm} (hc : cs[j]? = some c) (h : holdsL k c.1 st = true) : enF k st (cs.take (j + 1)) 0 = enF k st (cs.take j) 0 ++ [(j : Int)] := by
  have hj := (List.getElem?_eq_some_iff.1 hc).1
  rw [List.take_add_one, hc]
  show enF k st (cs.take j ++ [c]) 0 = _
  rw [enF_snoc, if_pos h, List.length_take, Nat.min_eq_left (by omega), Int.zero_add]
theorem enF_no {k : Int} {st : List Int} {cs : List Cm} {j : Nat} {c : Cm} (hc : cs[j]? = some c) (h : holdsL k c.1 st = false) : enF k st (cs.take (j + 1)) 0 = enF k st (cs.take j) 0 := by
  rw [List.take_add_one, hc]
  show enF k st (cs.take j ++ [c]) 0 = _
  rw [enF_snoc, if_neg (by rw [h]; decide), List.append_nil]
theorem enF_mem {k : Int} {st : List Int} : ∀ {cs : List Cm} {i n : Int}, n ∈ enF k st cs i ↔ ∃ (j : Nat) (c : Cm), cs[j]? = some c ∧ n = i + j ∧ holdsL k c.1 st = true
  | [], i, n => by simp [enF]
  | d :: l, i, n => by
    have ih := @enF_mem k st l (i + 1) n
    constructor
    · intro h
      simp only [enF] at h
      split at h
      · rename_i hd
        rcases List.mem_cons.1 h with h | h
        · exact ⟨0, d, rfl, by omega, hd⟩
        · obtain ⟨j, c, h1, h2, h3⟩ := ih.1 h
          exact ⟨j + 1, c, by simpa using h1, by omega, h3⟩
      · obtain ⟨j, c, h1, h2, h3⟩ := ih.1 h
        exact ⟨j + 1, c, by simpa using h1, by omega, h3⟩
    · rintro ⟨j, c, h1, h2, h3⟩
      simp only [enF]
      match j, h1 with
      | 0, h1 =>
        simp at h1
        subst h1
        rw [if_pos h3]
        exact List.mem_cons.2 (Or.inl (by omega))
      | j + 1, h1 =>
        have h4 : n ∈ enF k st l (i + 1) := ih.2 ⟨j, c, by simpa using h1, by omega, h3⟩
        split
        · exact List.mem_cons.2 (Or.inr h4)
        · exact h4
def startP (p : Pg) (st : List Int) : Bool := goodS p st && holdsL p.1 p.2.2.1 st
def enP (p : Pg) (st : List Int) : List Int := if goodS p st = true then enF p.1 st p.2.2.2 0 else []
theorem enP_len (p : Pg) (st : List Int) : (enP p st).length ≤ 1048576 := by
  unfold enP
  split
  · rename_i h
    unfold goodS at h
    rw [Bool.and_eq_true] at h
    obtain ⟨_, _, _, _, _, _, h6, _⟩ := goodP_parts h.1
    have := enF_len p.1 st p.2.2.2 0
    omega
  · simp
/-- a state, changed -/
def doF (k : Int) (st : List Int) (cs : List Ch) (s : List Int) : List Int := cs.foldl (fun s c => s.set c.1.toNat (valueL k c.2 st)) s
def doC (k : Int) (st : List Int) (c : Cm) : List Int := doF k st c.2 st
theorem doF_take {k : Int} {st s : List Int} {cs : List Ch} {j : Nat} {c : Ch} (hc : cs[j]? = some c) : doF k st (cs.take (j + 1)) s = (doF k st (cs.take j) s).set c.1.toNat (valueL k c.2 st) := by
  rw [List.take_add_one, hc]
  unfold doF
  rw [List.foldl_append]
  rfl
theorem doF_len (k : Int) (st : List Int) : ∀ (cs : List Ch) (s : List Int), (doF k st cs s).length = s.length
  | [], s => rfl
  | c :: r, s => by
    have ih := doF_len k st r (s.set c.1.toNat (valueL k c.2 st))
    rw [List.length_set] at ih
    exact ih
end Go.Proofs.YtjbolpfilgkbfaaDoor

namespace Go.Proofs.YtjbolpfilgkbfaaDoor
open Go Go.RowKit
open M
set_option linter.unusedVariables false

theorem asks_any (v tv : Value) (p : Pg) (t : List Nd) (w : World) (h : AtProg w v p) (ht : NodesAt w tv t) :
    Calls Tryd.prog 66 #[v, tv] w fun e w' => e = .returned (.bool (kindL p.1 p.2.1 t == 2)) ∧ Below w.heap.size w w' := by
  obtain ⟨sa, sn, sc, ca, cn, cc, rfl⟩ := h.shape
  have HB0 : Hid (Below w.heap.size w (w.alloc (.cells #[.int .i64 p.1, .int .i64 p.2.1, .slice sa sn sc, .slice ca cn cc] 27))) := (Below.refl _ _).alloc (Nat.le_refl _) _
  have g := l2Kind_any p.1 p.2.1 tv t _ (ht.below HB0.out)
  obtain ⟨ta, tc, rfl⟩ := ht.shape
  clear h ht
  generalize t.length = tn at *
  generalize kindL p.1 p.2.1 t = K at *
  generalize p.1 = pw at *
  generalize p.2.1 = pv at *
  go_enter Tryd.func66, Tryd.ntmps66
  go_wp2_with fail
  refine g.mono ?_
  rintro e w1 ⟨rfl, hs⟩
  have HB1 : Hid (Below w.heap.size w w1) := Below.step HB0.out HB0.out.size hs
  clear g hs
  go_wp2_with fail
  go_ret
  exact ⟨rfl, HB1.out⟩
end Go.Proofs.YtjbolpfilgkbfaaDoor

namespace Go.Proofs.YtjbolpfilgkbfaaDoor
open Go Go.RowKit
open M
set_option linter.unusedVariables false

theorem cell_lt9 {w : World} {b q : Nat} {u : Value} (h : w.cell? ⟨b, q, none⟩ = some u) : b < w.heap.size := by
  by_cases hb : b < w.heap.size
  · exact hb
  · have e : w.heap[b]? = none := Array.getElem?_eq_none (by omega)
    simp [World.cell?, e] at h
set_option maxRecDepth 100000 in
set_option maxHeartbeats 8000000 in
theorem sCommand_any (v xv yv : Value) (p : Pg) (c : Cm) (hv0 : 1 ≤ p.2.1) (hv1 : p.2.1 ≤ 4) (w : World) (h : AtProg w v p) (hc : CmV w c xv yv) :
    Calls Tryd.prog 68 #[v, .agg #[xv, yv]] w fun e w' => e = .returned (.bool (cmB p.1 p.2.1 c)) ∧ Below w.heap.size w w' := by
  obtain ⟨hw, hch⟩ := hc
  have HAS : Hid (∀ w1 : World, Below w.heap.size w w1 → Calls Tryd.prog 66 #[v, xv] w1 fun e w' => e = .returned (.bool (kindL p.1 p.2.1 c.1 == 2)) ∧ Below w1.heap.size w1 w') := fun w1 hb => asks_any v xv p c.1 w1 (h.below hb) (hw.below hb)
  obtain ⟨sa, sn, sc, ca, cn, cc, rfl⟩ := h.shape
  obtain ⟨wa, whc, rfl⟩ := hw.shape
  have hchl := hch.1
  obtain ⟨cha, chc, rfl, hcc⟩ := hch.opened
  unfold cmB
  have HCS : Hid (∀ w1 : World, Below w.heap.size w w1 → ∀ (i : Nat) (d : Ch), c.2[i]? = some d → ∃ b off : Nat, cha = some ⟨b, off, none⟩ ∧ ∃ y : Value, w1.cell? ⟨b, off + i * 2, none⟩ = some (.int .i64 d.1) ∧ w1.cell? ⟨b, off + i * 2 + 1, none⟩ = some y ∧ Fit d.1 ∧ NodesAt w1 y d.2) := fun w1 hb i d hi => by
    obtain ⟨b, off, e, hlt, x, y, h3, h4, h5⟩ := hcc i d hi
    obtain ⟨k0, rfl, k2⟩ := h5
    exact ⟨b, off, e, y, by rw [hb.cell (p := ⟨b, off + i * 2, none⟩) hlt]; exact h3, by rw [hb.cell (p := ⟨b, off + i * 2 + 1, none⟩) hlt]; exact h4, k0, k2.below hb⟩
  clear h hw hch hcc
  generalize c.1.length = whn at *
  obtain ⟨cwhen, cs⟩ := c
  simp only at *
  generalize p.1 = pw at *
  generalize p.2.1 = pv at *
  obtain ⟨Q, hQ⟩ : ∃ Q : Int, pv - 1 = Q := ⟨_, rfl⟩
  have hQw : IntKind.i64.wrap (pv - 1) = Q := by rw [← hQ]; exact IntWalk.i64_in _ ⟨by omega, by omega⟩
  have hQw2 : IntKind.i64.wrap Q = Q := IntWalk.i64_in _ ⟨by omega, by omega⟩
  have hb0 : Below w.heap.size w ((w.alloc (.cells #[.int .i64 pw, .int .i64 pv, .slice sa sn sc, .slice ca cn cc] 27)).alloc (.cells #[.slice wa whn whc, .slice cha cs.length chc] 102)) := ((Below.refl _ _).alloc (Nat.le_refl _) _).alloc (by rw [World.size_alloc]; omega) _
  have x0 := (box4_alloc w 27 (.int .i64 pw) (.int .i64 pv) (.slice sa sn sc) (.slice ca cn cc)).alloc (.cells #[.slice wa whn whc, .slice cha cs.length chc] 102)
  have x1b := box2_alloc (w.alloc (.cells #[.int .i64 pw, .int .i64 pv, .slice sa sn sc, .slice ca cn cc] 27)) 102 (.slice wa whn whc) (.slice cha cs.length chc)
  simp only [World.size_alloc] at x1b
  have HX0 : Hid _ := x0
  have HX1 : Hid _ := x1b
  have HB0 : Hid _ := hb0
  have hszz : ((w.alloc (.cells #[.int .i64 pw, .int .i64 pv, .slice sa sn sc, .slice ca cn cc] 27)).alloc (.cells #[.slice wa whn whc, .slice cha cs.length chc] 102)).heap.size = w.heap.size + 1 + 1 := by simp only [World.size_alloc]
  clear hb0
  cases hk : (kindL pw pv cwhen == 2) with
  | false =>
    rw [hk] at HAS
    rw [Bool.false_and]
    clear hk HCS x0 x1b HX0 HX1
    generalize cs.length = chn at *
    go_enter Tryd.func68, Tryd.ntmps68
    go_wp2_with fail
    refine (HAS.out _ HB0.out).mono ?_
    rintro e w1 ⟨rfl, hs⟩
    have HB1 : Hid (Below w.heap.size w w1) := Below.step HB0.out HB0.out.size hs
    clear hs
    go_wp2_with fail
    go_ret
    exact ⟨rfl, HB1.out⟩
  | true =>
    rw [hk] at HAS
    rw [Bool.true_and]
    clear hk
    by_cases hlen : (cs.length : Int) ≤ pv
    case neg =>
      have hR : chsB pw pv 0 cs = false := by
        rw [Bool.eq_false_iff]
        intro h
        have := chsB_len pw pv cs 0 h (by omega)
        omega
      rw [hR]
      clear hR HCS
      generalize cs.length = chn at *
      go_enter Tryd.func68, Tryd.ntmps68
      go_wp2_with fail
      refine (HAS.out _ HB0.out).mono ?_
      generalize ((w.alloc (.cells #[.int .i64 pw, .int .i64 pv, .slice sa sn sc, .slice ca cn cc] 27)).alloc (.cells #[.slice wa whn whc, .slice cha chn chc] 102)) = w0 at *
      rintro e w1 ⟨rfl, hs⟩
      have HB1 : Hid (Below w.heap.size w w1) := Below.step HB0.out HB0.out.size hs
      have z0 := HX0.out.below hs HX0.out.lt
      have z1 := HX1.out.below hs HX1.out.lt
      obtain ⟨a0, a1, a2, a3⟩ := z0.cells
      have ah := z0.heap
      have al := z0.lt
      obtain ⟨b0, b1⟩ := z1.cells
      have bh := z1.heap
      have bl := z1.lt
      clear hs z0 z1 x0 x1b
      go_wp2_with fail
      go_ret
      exact ⟨rfl, HB1.out⟩
    generalize hR : chsB pw pv 0 cs = R at *
    have HR : Hid _ := hR
    clear hR
    go_enter Tryd.func68, Tryd.ntmps68
    go_wp2_with fail
    refine (HAS.out _ HB0.out).mono ?_
    generalize ((w.alloc (.cells #[.int .i64 pw, .int .i64 pv, .slice sa sn sc, .slice ca cn cc] 27)).alloc (.cells #[.slice wa whn whc, .slice cha cs.length chc] 102)) = w0 at *
    rintro e w1 ⟨rfl, hs⟩
    have HB1 : Hid (Below w.heap.size w w1) := Below.step HB0.out HB0.out.size hs
    have hs1 := hs.size
    have HK0 : Hid (∀ w3, Below (w.heap.size + 1 + 1) w1 w3 → Box4 w3 w.heap.size 27 (.int .i64 pw) (.int .i64 pv) (.slice sa sn sc) (.slice ca cn cc)) := fun w3 hb3 => (HX0.out.below hs HX0.out.lt).below hb3 (by omega)
    have HK1 : Hid (∀ w3, Below (w.heap.size + 1 + 1) w1 w3 → Box2 w3 (w.heap.size + 1) 102 (.slice wa whn whc) (.slice cha cs.length chc)) := fun w3 hb3 => (HX1.out.below hs HX1.out.lt).below hb3 (by omega)
    obtain ⟨a0, a1, a2, a3⟩ := (HK0.out w1 (Below.refl _ _)).cells
    have ah := (HK0.out w1 (Below.refl _ _)).heap
    have al := (HK0.out w1 (Below.refl _ _)).lt
    obtain ⟨b0, b1⟩ := (HK1.out w1 (Below.refl _ _)).cells
    have bh := (HK1.out w1 (Below.refl _ _)).heap
    have bl := (HK1.out w1 (Below.refl _ _)).lt
    have HB11 : Hid (Below (w.heap.size + 1 + 1) w1 w1) := Below.refl _ _
    have hsw : w.heap.size + 1 + 1 ≤ w1.heap.size := by omega
    clear hs x0 x1b HX0 HX1 HAS HB0
    go_wp2_with fail
    go_loopw [23] (fun i wr => ∃ j : Nat, j ≤ cs.length ∧ i = .int .i64 j ∧ Hid (chsB pw pv 0 (cs.take j) = true) ∧ Hid (Below w.heap.size w wr) ∧ Hid (Below (w.heap.size + 1 + 1) w1 wr)) (fun i _ => cs.length - (intOf i).toNat)
    case atStart => exact ⟨0, by omega, rfl, rfl, HB1, HB11⟩
    case round =>
      obtain ⟨j, hj, rfl, HA, HB, HBX⟩ := hrel
      clear a0 a1 a2 a3 ah al b0 b1 bh bl HB11 HB1
      by_cases hlt : j < cs.length
      · obtain ⟨d, hd⟩ : ∃ d, cs[j]? = some d := ⟨cs[j], List.getElem?_eq_getElem hlt⟩
        obtain ⟨b, off, rfl, y, cx, cy, hfd, hny⟩ := HCS.out wr HB.out j d hd
        have hsr := HBX.out.size
        have hT := chsB_take pw pv cs 0 j d hd HA.out
        have HNK : Hid (NodesAt wr y d.2) := hny
        obtain ⟨ya, yc, rfl⟩ := hny.shape
        have HPREV : Hid (∀ j' : Nat, j = j' + 1 → ∃ e : Ch, nextL 0 (cs.take j) = e.1 + 1 ∧ 0 ≤ e.1 ∧ e.1 < 4 ∧ wr.cell? ⟨b, off + j' * 2, none⟩ = some (.int .i64 e.1)) := fun j' hj' => by
          subst hj'
          obtain ⟨e, he⟩ : ∃ e, cs[j']? = some e := ⟨cs[j'], List.getElem?_eq_getElem (by omega)⟩
          obtain ⟨b', off', e1, y', cx', _, _, _⟩ := HCS.out wr HB.out j' e he
          simp only [Option.some.injEq, Addr.mk.injEq, and_true] at e1
          obtain ⟨rfl, rfl⟩ := e1
          have hm := chsB_mem pw pv _ 0 HA.out e (by
            apply List.mem_iff_getElem?.2
            exact ⟨j', by rw [List.getElem?_take_of_lt (by omega)]; exact he⟩)
          exact ⟨e, nextL_take cs 0 j' e he, hm.1, by omega, cx'⟩
        have HD : Hid (cs[j]? = some d) := hd
        obtain ⟨x1, dt⟩ := d
        simp only at *
        generalize dt.length = yn at *
        have HB2 : Hid (Below w.heap.size w (wr.alloc (.cells #[.int .i64 x1, .slice ya yn yc] 122))) := HB.out.alloc HB.out.size _
        have HBX2 : Hid (Below (w.heap.size + 1 + 1) w1 (wr.alloc (.cells #[.int .i64 x1, .slice ya yn yc] 122))) := HBX.out.alloc (by omega) _
        have z2 := box2_alloc wr 122 (.int .i64 x1) (.slice ya yn yc)
        have hal := (Below.refl wr.heap.size wr).alloc (Nat.le_refl _) (.cells #[.int .i64 x1, .slice ya yn yc] 122)
        have GK : Hid (∀ w3 : World, Below (wr.alloc (.cells #[.int .i64 x1, .slice ya yn yc] 122)).heap.size (wr.alloc (.cells #[.int .i64 x1, .slice ya yn yc] 122)) w3 → Calls Tryd.prog 112 #[.int .i64 pw, .int .i64 pv, .slice ya yn yc] w3 fun e w' => e = .returned (.int .i64 (kindL pw pv dt)) ∧ Below w3.heap.size w3 w') := fun w3 hb3 => l2Kind_any pw pv _ dt w3 ((HNK.out.below hal).below hb3)
        have hcellp : ∀ (q : Nat) (u : Value), wr.cell? ⟨b, q, none⟩ = some u → (wr.alloc (.cells #[.int .i64 x1, .slice ya yn yc] 122)).cell? ⟨b, q, none⟩ = some u := fun q u hq => by
          have hlt9 : b < wr.heap.size := cell_lt9 hq
          rw [hal.cell (p := ⟨b, q, none⟩) hlt9]
          exact hq
        have HCP : Hid _ := hcellp
        go_wp2_with fail
        generalize wr.alloc (.cells #[.int .i64 x1, .slice ya yn yc] 122) = w2 at *
        obtain ⟨c0, c1⟩ := z2.cells
        have ch := z2.heap
        have cl := z2.lt
        obtain ⟨a0, a1, a2, a3⟩ := (HK0.out w2 HBX2.out).cells
        have ah := (HK0.out w2 HBX2.out).heap
        have al := (HK0.out w2 HBX2.out).lt
        obtain ⟨b0, b1⟩ := (HK1.out w2 HBX2.out).cells
        have bh := (HK1.out w2 HBX2.out).heap
        have bl := (HK1.out w2 HBX2.out).lt
        have e0 := cell_regrown c0
        have e1 := cell_regrown c1
        have f0 := cell_regrown a0
        have f1 := cell_regrown a1
        have g0 := cell_regrown b0
        have g1 := cell_regrown b1
        obtain ⟨K, hK⟩ : ∃ K, kindL pw pv dt = K := ⟨_, rfl⟩
        rw [hK] at GK hT
        obtain ⟨hf0, hf1⟩ := hfd
        clear HNK hny hal z2 hcellp HCS HK0 HK1 HBX hK cx cy
        by_cases hin : 0 ≤ x1 ∧ x1 ≤ Q
        case neg =>
          have HN : Hid (R = false) := HR.out.symm.trans (chsB_not pw pv cs 0 (j + 1) (by
            rw [hT, decide_eq_false (fun q => hin ?_), Bool.false_and]
            cases j with
            | zero => exact ⟨q.1, by omega⟩
            | succ j' =>
              obtain ⟨e, h1, h2, _⟩ := HPREV.out j' rfl
              rw [h1] at q
              omega))
          clear HPREV hT HCP
          have cA : ∀ d os', Calls Tryd.prog 67 #[.int .i64 x1, .int .i64 0, .int .i64 Q] (Sort.grow (redrawn w2 d) os') fun e w'' => e = .returned (.bool false) ∧ ∃ p : Regrown, w'' = Sort.grow (redrawn w2 p.d) p.os := fun d os' => Calls.regrown_of ((l1In_any x1 0 Q _).mono fun e w' ⟨he, hw⟩ => ⟨by rw [he, decide_eq_false hin], by rw [hw]; exact Below.refl _ _⟩)
          have cC : ∀ d os', Calls Tryd.prog 112 #[.int .i64 pw, .int .i64 pv, .slice ya yn yc] (Sort.grow (redrawn w2 d) os') fun e w'' => e = .returned (.int .i64 K) ∧ ∃ p : Regrown, w'' = Sort.grow (redrawn w2 p.d) p.os := fun d os' => Calls.regrown_of (GK.out _ (below_regrown w2 d os'))
          clear GK
          go_wp2_with fail
          refine wp_region_quiet_below (by kernel_rfl) (by kernel_rfl) ?_
          iterate 12 (go_big_quiet_step (exact cA _ _))
          repeat (go_big_quiet_step (exact cC _ _))
          refine wpQuiet_nil ?_
          intro _ hw'
          obtain ⟨⟨dq, osq⟩, hw''⟩ := hw'
          subst hw''
          have HBQ : Hid (Below w.heap.size w (Sort.grow (redrawn w2 dq) osq)) := HB2.out.trans ((below_regrown w2 dq osq).mono HB2.out.size)
          clear HB2
          go_wp2_with fail
          go_ret
          exact ⟨ret_bool HN.out.symm, HBQ.out⟩
        cases j with
        | zero =>
          have hnx : nextL 0 (cs.take 0) = 0 := rfl
          rw [hnx, decide_eq_true (by omega), Bool.true_and] at hT
          clear HPREV HCP hnx
          by_cases hk1 : K = 1
          · subst hk1
            have HN : Hid (chsB pw pv 0 (cs.take (0 + 1)) = true) := hT
            clear hT
            have cA : ∀ d os', Calls Tryd.prog 67 #[.int .i64 x1, .int .i64 0, .int .i64 Q] (Sort.grow (redrawn w2 d) os') fun e w'' => e = .returned (.bool true) ∧ ∃ p : Regrown, w'' = Sort.grow (redrawn w2 p.d) p.os := fun d os' => Calls.regrown_of ((l1In_any x1 0 Q _).mono fun e w' ⟨he, hw⟩ => ⟨by rw [he, decide_eq_true hin], by rw [hw]; exact Below.refl _ _⟩)
            have cC : ∀ d os', Calls Tryd.prog 112 #[.int .i64 pw, .int .i64 pv, .slice ya yn yc] (Sort.grow (redrawn w2 d) os') fun e w'' => e = .returned (.int .i64 1) ∧ ∃ p : Regrown, w'' = Sort.grow (redrawn w2 p.d) p.os := fun d os' => Calls.regrown_of (GK.out _ (below_regrown w2 d os'))
            clear GK
            go_wp2_with fail
            refine wp_region_quiet_below (by kernel_rfl) (by kernel_rfl) ?_
            iterate 12 (go_big_quiet_step (exact cA _ _))
            repeat (go_big_quiet_step (exact cC _ _))
            refine wpQuiet_nil ?_
            intro _ hw'
            obtain ⟨⟨dq, osq⟩, hw''⟩ := hw'
            subst hw''
            have HBQ : Hid (Below w.heap.size w (Sort.grow (redrawn w2 dq) osq)) := HB2.out.trans ((below_regrown w2 dq osq).mono HB2.out.size)
            clear HB2
            go_wp2_with fail
            go_roundw
            case rel => exact ⟨0 + 1, by omega, by first | go_num | (congr 1; omega) | rfl, HN, HBQ, by first | exact HBX2.out.trans ((below_regrown w2 dq osq).mono (by have := HBX2.out.size; omega))⟩
            case measure => simp [intOf]; omega
          · have hkb : (K == 1) = false := beq_eq_false_iff_ne.2 hk1
            have hkn : (K != 1) = true := bne_iff_ne.2 hk1
            rw [hkb] at hT
            have HN : Hid (R = false) := HR.out.symm.trans (chsB_not pw pv cs 0 (0 + 1) hT)
            clear hT hkb
            have cA : ∀ d os', Calls Tryd.prog 67 #[.int .i64 x1, .int .i64 0, .int .i64 Q] (Sort.grow (redrawn w2 d) os') fun e w'' => e = .returned (.bool true) ∧ ∃ p : Regrown, w'' = Sort.grow (redrawn w2 p.d) p.os := fun d os' => Calls.regrown_of ((l1In_any x1 0 Q _).mono fun e w' ⟨he, hw⟩ => ⟨by rw [he, decide_eq_true hin], by rw [hw]; exact Below.refl _ _⟩)
            have cC : ∀ d os', Calls Tryd.prog 112 #[.int .i64 pw, .int .i64 pv, .slice ya yn yc] (Sort.grow (redrawn w2 d) os') fun e w'' => e = .returned (.int .i64 K) ∧ ∃ p : Regrown, w'' = Sort.grow (redrawn w2 p.d) p.os := fun d os' => Calls.regrown_of (GK.out _ (below_regrown w2 d os'))
            clear GK
            go_wp2_with fail
            refine wp_region_quiet_below (by kernel_rfl) (by kernel_rfl) ?_
            iterate 12 (go_big_quiet_step (exact cA _ _))
            repeat (go_big_quiet_step (exact cC _ _))
            refine wpQuiet_nil ?_
            intro _ hw'
            obtain ⟨⟨dq, osq⟩, hw''⟩ := hw'
            subst hw''
            have HBQ : Hid (Below w.heap.size w (Sort.grow (redrawn w2 dq) osq)) := HB2.out.trans ((below_regrown w2 dq osq).mono HB2.out.size)
            clear HB2
            go_wp2_with fail
            go_ret
            exact ⟨ret_bool HN.out.symm, HBQ.out⟩
        | succ j' =>
          obtain ⟨e, h1, h2, h4, h3⟩ := HPREV.out j' rfl
          have hcp := HCP.out _ _ h3
          have p0 := cell_regrown hcp
          obtain ⟨ev, et⟩ := e
          simp only at h1 h2 h4 hcp p0 h3
          have hjm : ((j' + 1 : Nat) : Int) - 1 = (j' : Int) := by omega
          have hjw : IntKind.i64.wrap (((j' + 1 : Nat) : Int) - 1) = (j' : Int) := by rw [hjm]; exact IntWalk.i64_in _ ⟨by omega, by omega⟩
          have hjp : (((j' + 1 : Nat) : Int) > 0) = True := by first | (simp; omega) | simp
          clear HPREV HCP h3
          by_cases hord : ev < x1
          · rw [h1, decide_eq_true (by omega), Bool.true_and] at hT
            have hge : decide (ev ≥ x1) = false := decide_eq_false (by omega)
            by_cases hk1 : K = 1
            · subst hk1
              have HN : Hid (chsB pw pv 0 (cs.take (j' + 1 + 1)) = true) := hT
              clear hT
              have cA : ∀ d os', Calls Tryd.prog 67 #[.int .i64 x1, .int .i64 0, .int .i64 Q] (Sort.grow (redrawn w2 d) os') fun e w'' => e = .returned (.bool true) ∧ ∃ p : Regrown, w'' = Sort.grow (redrawn w2 p.d) p.os := fun d os' => Calls.regrown_of ((l1In_any x1 0 Q _).mono fun e w' ⟨he, hw⟩ => ⟨by rw [he, decide_eq_true hin], by rw [hw]; exact Below.refl _ _⟩)
              have cC : ∀ d os', Calls Tryd.prog 112 #[.int .i64 pw, .int .i64 pv, .slice ya yn yc] (Sort.grow (redrawn w2 d) os') fun e w'' => e = .returned (.int .i64 1) ∧ ∃ p : Regrown, w'' = Sort.grow (redrawn w2 p.d) p.os := fun d os' => Calls.regrown_of (GK.out _ (below_regrown w2 d os'))
              clear GK
              go_wp2_with fail
              refine wp_region_quiet_below (by kernel_rfl) (by kernel_rfl) ?_
              iterate 12 (go_big_quiet_step (exact cA _ _))
              repeat (go_big_quiet_step (exact cC _ _))
              refine wpQuiet_nil ?_
              intro _ hw'
              obtain ⟨⟨dq, osq⟩, hw''⟩ := hw'
              subst hw''
              have HBQ : Hid (Below w.heap.size w (Sort.grow (redrawn w2 dq) osq)) := HB2.out.trans ((below_regrown w2 dq osq).mono HB2.out.size)
              clear HB2
              go_wp2_with fail
              go_roundw
              case rel => exact ⟨(j' + 1) + 1, by omega, by first | go_num | (congr 1; omega) | rfl, HN, HBQ, by first | exact HBX2.out.trans ((below_regrown w2 dq osq).mono (by have := HBX2.out.size; omega))⟩
              case measure => simp [intOf]; omega
            · have hkb : (K == 1) = false := beq_eq_false_iff_ne.2 hk1
              have hkn : (K != 1) = true := bne_iff_ne.2 hk1
              rw [hkb] at hT
              have HN : Hid (R = false) := HR.out.symm.trans (chsB_not pw pv cs 0 (j' + 1 + 1) hT)
              clear hT hkb
              have cA : ∀ d os', Calls Tryd.prog 67 #[.int .i64 x1, .int .i64 0, .int .i64 Q] (Sort.grow (redrawn w2 d) os') fun e w'' => e = .returned (.bool true) ∧ ∃ p : Regrown, w'' = Sort.grow (redrawn w2 p.d) p.os := fun d os' => Calls.regrown_of ((l1In_any x1 0 Q _).mono fun e w' ⟨he, hw⟩ => ⟨by rw [he, decide_eq_true hin], by rw [hw]; exact Below.refl _ _⟩)
              have cC : ∀ d os', Calls Tryd.prog 112 #[.int .i64 pw, .int .i64 pv, .slice ya yn yc] (Sort.grow (redrawn w2 d) os') fun e w'' => e = .returned (.int .i64 K) ∧ ∃ p : Regrown, w'' = Sort.grow (redrawn w2 p.d) p.os := fun d os' => Calls.regrown_of (GK.out _ (below_regrown w2 d os'))
              clear GK
              go_wp2_with fail
              refine wp_region_quiet_below (by kernel_rfl) (by kernel_rfl) ?_
              iterate 12 (go_big_quiet_step (exact cA _ _))
              repeat (go_big_quiet_step (exact cC _ _))
              refine wpQuiet_nil ?_
              intro _ hw'
              obtain ⟨⟨dq, osq⟩, hw''⟩ := hw'
              subst hw''
              have HBQ : Hid (Below w.heap.size w (Sort.grow (redrawn w2 dq) osq)) := HB2.out.trans ((below_regrown w2 dq osq).mono HB2.out.size)
              clear HB2
              go_wp2_with fail
              go_ret
              exact ⟨ret_bool HN.out.symm, HBQ.out⟩
          · rw [h1, decide_eq_false (by omega), Bool.false_and] at hT
            have hge : decide (ev ≥ x1) = true := decide_eq_true (by omega)
            have HN : Hid (R = false) := HR.out.symm.trans (chsB_not pw pv cs 0 (j' + 1 + 1) hT)
            clear hT
            have cA : ∀ d os', Calls Tryd.prog 67 #[.int .i64 x1, .int .i64 0, .int .i64 Q] (Sort.grow (redrawn w2 d) os') fun e w'' => e = .returned (.bool true) ∧ ∃ p : Regrown, w'' = Sort.grow (redrawn w2 p.d) p.os := fun d os' => Calls.regrown_of ((l1In_any x1 0 Q _).mono fun e w' ⟨he, hw⟩ => ⟨by rw [he, decide_eq_true hin], by rw [hw]; exact Below.refl _ _⟩)
            have cC : ∀ d os', Calls Tryd.prog 112 #[.int .i64 pw, .int .i64 pv, .slice ya yn yc] (Sort.grow (redrawn w2 d) os') fun e w'' => e = .returned (.int .i64 K) ∧ ∃ p : Regrown, w'' = Sort.grow (redrawn w2 p.d) p.os := fun d os' => Calls.regrown_of (GK.out _ (below_regrown w2 d os'))
            clear GK
            go_wp2_with fail
            refine wp_region_quiet_below (by kernel_rfl) (by kernel_rfl) ?_
            iterate 12 (go_big_quiet_step (exact cA _ _))
            repeat (go_big_quiet_step (exact cC _ _))
            refine wpQuiet_nil ?_
            intro _ hw'
            obtain ⟨⟨dq, osq⟩, hw''⟩ := hw'
            subst hw''
            have HBQ : Hid (Below w.heap.size w (Sort.grow (redrawn w2 dq) osq)) := HB2.out.trans ((below_regrown w2 dq osq).mono HB2.out.size)
            clear HB2
            go_wp2_with fail
            go_ret
            exact ⟨ret_bool HN.out.symm, HBQ.out⟩
      · obtain rfl : j = cs.length := by omega
        have HN : Hid (R = true) := by
          have h1 := HA.out
          rw [List.take_length] at h1
          exact HR.out.symm.trans h1
        clear HA HCS HK0 HK1
        go_wp2_with fail
        go_ret
        exact ⟨ret_bool HN.out.symm, HB.out⟩
end Go.Proofs.YtjbolpfilgkbfaaDoor

namespace Go.Proofs.YtjbolpfilgkbfaaDoor
open Go Go.RowKit
open M
set_option linter.unusedVariables false

def smallP (p : Pg) : Bool := goodP p && decide (p.1 * p.2.1 ≤ 5)
set_option maxRecDepth 100000 in
set_option maxHeartbeats 2000000 in
theorem sGoodProg_any (v : Value) (p : Pg) (w : World) (h : AtProg w v p) :
    Calls Tryd.prog 20 #[v] w fun e w' => e = .returned (.bool (goodP p)) ∧ Below w.heap.size w w' := by
  have HP : Hid (∀ w1 : World, Below w.heap.size w w1 → AtProg w1 v p) := fun w1 hb => h.below hb
  obtain ⟨⟨hfw0, hfw1⟩, ⟨hfv0, hfv1⟩, s, c, rfl, hst, hcm⟩ := h
  have HAS : Hid (∀ w1 : World, Below w.heap.size w w1 → Calls Tryd.prog 66 #[.agg #[.int .i64 p.1, .int .i64 p.2.1, s, c], s] w1 fun e w' => e = .returned (.bool (kindL p.1 p.2.1 p.2.2.1 == 2)) ∧ Below w1.heap.size w1 w') := fun w1 hb => asks_any _ s p p.2.2.1 w1 (HP.out w1 hb) (hst.below hb)
  obtain ⟨sa, sc, rfl⟩ := hst.shape
  obtain ⟨ca, cc, rfl, hcc⟩ := hcm.opened
  have hcl := hcm.1
  have HCS : Hid (∀ w1 : World, Below w.heap.size w w1 → ∀ (i : Nat) (d : Cm), p.2.2.2[i]? = some d → ∃ b off : Nat, ca = some ⟨b, off, none⟩ ∧ ∃ x y : Value, w1.cell? ⟨b, off + i * 2, none⟩ = some x ∧ w1.cell? ⟨b, off + i * 2 + 1, none⟩ = some y ∧ CmV w1 d x y) := fun w1 hb i d hi => by
    obtain ⟨b, off, e, hlt, x, y, h3, h4, h5⟩ := hcc i d hi
    exact ⟨b, off, e, x, y, by rw [hb.cell (p := ⟨b, off + i * 2, none⟩) hlt]; exact h3, by rw [hb.cell (p := ⟨b, off + i * 2 + 1, none⟩) hlt]; exact h4, cmV_frame _ _ _ _ _ h5 hb⟩
  have hR0 : goodP p = ((kindL p.1 p.2.1 p.2.2.1 == 2) && (decide (1 ≤ p.2.2.2.length ∧ p.2.2.2.length ≤ 6) && p.2.2.2.all (cmB p.1 p.2.1))) := rfl
  have HR : Hid _ := hR0
  have hkin := fun h => @kind_in p.1 p.2.1 p.2.2.1 h
  have GCM : Hid (1 ≤ p.2.1 → p.2.1 ≤ 4 → ∀ (w1 : World) (x y : Value) (d : Cm), Below w.heap.size w w1 → CmV w1 d x y → Calls Tryd.prog 68 #[.agg #[.int .i64 p.1, .int .i64 p.2.1, .slice sa p.2.2.1.length sc, .slice ca p.2.2.2.length cc], .agg #[x, y]] w1 fun e w' => e = .returned (.bool (cmB p.1 p.2.1 d)) ∧ Below w1.heap.size w1 w') := fun h1 h2 w1 x y d hb hd => sCommand_any _ x y p d h1 h2 w1 (HP.out w1 hb) hd
  have HB0 : Hid (Below w.heap.size w (w.alloc (.cells #[.int .i64 p.1, .int .i64 p.2.1, .slice sa p.2.2.1.length sc, .slice ca p.2.2.2.length cc] 27))) := (Below.refl _ _).alloc (Nat.le_refl _) _
  have x0 := box4_alloc w 27 (.int .i64 p.1) (.int .i64 p.2.1) (.slice sa p.2.2.1.length sc) (.slice ca p.2.2.2.length cc)
  have HX0 : Hid _ := x0
  clear x0 hcm hcc hst hR0 HP
  generalize goodP p = GP at *
  cases hk : (kindL p.1 p.2.1 p.2.2.1 == 2) with
  | false =>
    rw [hk] at HAS
    have HN : Hid (GP = false) := by
      show GP = false
      rw [HR.out, hk, Bool.false_and]
    clear hk HR HCS hkin GCM HX0
    generalize p.2.2.1.length = sn at *
    generalize p.2.2.2.length = cn at *
    generalize p.1 = pw at *
    generalize p.2.1 = pv at *
    go_enter Tryd.func20, Tryd.ntmps20
    go_wp2_with fail
    refine (HAS.out _ HB0.out).mono ?_
    rintro e w1 ⟨rfl, hs⟩
    have HB1 : Hid (Below w.heap.size w w1) := Below.step HB0.out HB0.out.size hs
    clear hs
    go_wp2_with fail
    go_ret
    exact ⟨ret_bool HN.out.symm, HB1.out⟩
  | true =>
    rw [hk] at HAS
    obtain ⟨_, _, hv1, hv4⟩ := hkin (by have := beq_iff_eq.1 hk; omega)
    have GC : Hid _ := GCM.out hv1 hv4
    have HR2 : Hid (GP = (decide (1 ≤ p.2.2.2.length ∧ p.2.2.2.length ≤ 6) && p.2.2.2.all (cmB p.1 p.2.1))) := by
      show GP = _
      rw [HR.out, hk, Bool.true_and]
    clear hk HR hkin GCM
    generalize hcs : p.2.2.2 = cs at *
    generalize p.2.2.1.length = sn at *
    generalize p.1 = pw at *
    generalize p.2.1 = pv at *
    clear hcs
    by_cases hcn : 1 ≤ (cs.length : Int) ∧ (cs.length : Int) ≤ 6
    case neg =>
      have HN : Hid (GP = false) := by
        show GP = false
        rw [HR2.out, decide_eq_false (by omega), Bool.false_and]
      clear HR2 HCS GC
      generalize cs.length = cn at *
      go_enter Tryd.func20, Tryd.ntmps20
      go_wp2_with fail
      refine (HAS.out _ HB0.out).mono ?_
      generalize w.alloc (.cells #[.int .i64 pw, .int .i64 pv, .slice sa sn sc, .slice ca cn cc] 27) = w0 at *
      rintro e w1 ⟨rfl, hs⟩
      have HB1 : Hid (Below w.heap.size w w1) := Below.step HB0.out HB0.out.size hs
      have x1 := HX0.out.below hs HX0.out.lt
      obtain ⟨a0, a1, a2, a3⟩ := x1.cells
      have ah := x1.heap
      have al := x1.lt
      have g := l1In_any (cn : Int) 1 6 w1
      rw [decide_eq_false hcn] at g
      clear hs x1 HX0
      go_wp2_with fail
      refine g.mono ?_
      rintro e w2 ⟨rfl, rfl⟩
      clear g
      go_wp2_with fail
      go_ret
      exact ⟨ret_bool HN.out.symm, HB1.out⟩
    have HR3 : Hid (GP = cs.all (cmB pw pv)) := by
      show GP = _
      rw [HR2.out, decide_eq_true (by omega), Bool.true_and]
    clear HR2
    go_enter Tryd.func20, Tryd.ntmps20
    go_wp2_with fail
    refine (HAS.out _ HB0.out).mono ?_
    generalize w.alloc (.cells #[.int .i64 pw, .int .i64 pv, .slice sa sn sc, .slice ca cs.length cc] 27) = w0 at *
    rintro e w1 ⟨rfl, hs⟩
    have HB1 : Hid (Below w.heap.size w w1) := Below.step HB0.out HB0.out.size hs
    have x1 := HX0.out.below hs HX0.out.lt
    have hs1 := x1.lt
    have HXP : Hid (∀ w3, Below (w.heap.size + 1) w1 w3 → Box4 w3 w.heap.size 27 (.int .i64 pw) (.int .i64 pv) (.slice sa sn sc) (.slice ca cs.length cc)) := fun w3 hb3 => x1.below hb3 (by omega)
    obtain ⟨a0, a1, a2, a3⟩ := x1.cells
    have ah := x1.heap
    have al := x1.lt
    have g := l1In_any (cs.length : Int) 1 6 w1
    rw [decide_eq_true hcn] at g
    have HBX1 : Hid (Below (w.heap.size + 1) w1 w1) := Below.refl _ _
    obtain ⟨hcn1, hcn6⟩ := hcn
    clear hs x1 HX0 HAS HB0
    go_wp2_with fail
    refine g.mono ?_
    rintro e w2 ⟨rfl, hw2⟩
    subst hw2
    clear g
    go_wp2_with fail
    go_loopw [20] (fun i wr => ∃ j : Nat, j ≤ cs.length ∧ i = .int .i64 j ∧ Hid ((cs.take j).all (cmB pw pv) = true) ∧ Hid (Below w.heap.size w wr) ∧ Hid (Below (w.heap.size + 1) w2 wr)) (fun i _ => cs.length - (intOf i).toNat)
    case atStart => exact ⟨0, by omega, rfl, rfl, HB1, HBX1⟩
    case round =>
      obtain ⟨j, hj, rfl, HA, HB, HBX⟩ := hrel
      clear HB1 HBX1 a0 a1 a2 a3 ah al
      by_cases hlt : j < cs.length
      · obtain ⟨d, hd⟩ : ∃ d, cs[j]? = some d := ⟨cs[j], List.getElem?_eq_getElem hlt⟩
        obtain ⟨b, off, rfl, x, y, cx, cy, hV⟩ := HCS.out wr HB.out j d hd
        have HD : Hid (cs[j]? = some d) := hd
        have hal := (Below.refl wr.heap.size wr).alloc (Nat.le_refl _) (.cells #[x, y] 102)
        have HB3 : Hid (Below w.heap.size w (wr.alloc (.cells #[x, y] 102))) := HB.out.alloc HB.out.size _
        have HBX3 : Hid (Below (w.heap.size + 1) w2 (wr.alloc (.cells #[x, y] 102))) := HBX.out.alloc (by have := HBX.out.size; omega) _
        have g := GC.out _ x y d HB3.out (cmV_frame _ _ _ _ _ hV hal)
        obtain ⟨a0, a1, a2, a3⟩ := (HXP.out _ HBX3.out).cells
        have ah := (HXP.out _ HBX3.out).heap
        have al := (HXP.out _ HBX3.out).lt
        obtain ⟨hV1, hV2⟩ := hV
        obtain ⟨xa, xc, rfl⟩ := hV1.shape
        obtain ⟨ya, yc, rfl⟩ := hV2.shape
        generalize hxn : d.1.length = xn at *
        generalize hyn : d.2.length = yn at *
        clear hV1 hV2 hal hd HCS GC HXP HB HBX hxn hyn
        cases hp : cmB pw pv d with
        | true =>
          rw [hp] at g
          have HN : Hid ((cs.take (j + 1)).all (cmB pw pv) = true) := allTake HD.out HA.out hp
          clear hp HD HA
          go_wp2_with fail
          refine g.mono ?_
          rintro e w4 ⟨rfl, hs⟩
          have HB4 : Hid (Below w.heap.size w w4) := HB3.out.trans (hs.mono HB3.out.size)
          have HBX4 : Hid (Below (w.heap.size + 1) w2 w4) := HBX3.out.trans (hs.mono (by have := HBX3.out.size; omega))
          clear g hs a0 a1 a2 a3 ah al
          go_wp2_with fail
          go_roundw
          case rel => exact ⟨j + 1, by omega, by go_num, HN, HB4, HBX4⟩
          case measure => simp [intOf]; omega
        | false =>
          rw [hp] at g
          have HN : Hid (GP = false) := HR3.out.trans (allNot HD.out hp)
          clear hp HD HA
          go_wp2_with fail
          refine g.mono ?_
          rintro e w4 ⟨rfl, hs⟩
          have HB4 : Hid (Below w.heap.size w w4) := HB3.out.trans (hs.mono HB3.out.size)
          clear g hs
          go_wp2_with fail
          go_ret
          exact ⟨ret_bool HN.out.symm, HB4.out⟩
      · obtain rfl : j = cs.length := by omega
        have HN : Hid (GP = true) := by
          have h1 := HA.out
          rw [List.take_length] at h1
          exact HR3.out.trans h1
        clear HA HCS GC HXP
        go_wp2_with fail
        go_ret
        exact ⟨ret_bool HN.out.symm, HB.out⟩
set_option maxRecDepth 100000 in
theorem sSmall_any (v : Value) (p : Pg) (w : World) (h : AtProg w v p) :
    Calls Tryd.prog 85 #[v] w fun e w' => e = .returned (.bool (smallP p)) ∧ Below w.heap.size w w' := by
  have HG : Hid (∀ w1 : World, Below w.heap.size w w1 → Calls Tryd.prog 20 #[v] w1 fun e w' => e = .returned (.bool (goodP p)) ∧ Below w1.heap.size w1 w') := fun w1 hb => sGoodProg_any v p w1 (h.below hb)
  have hparts := @goodP_parts p
  obtain ⟨sa, sn, sc, ca, cn, cc, rfl⟩ := h.shape
  have HB0 : Hid (Below w.heap.size w (w.alloc (.cells #[.int .i64 p.1, .int .i64 p.2.1, .slice sa sn sc, .slice ca cn cc] 27))) := (Below.refl _ _).alloc (Nat.le_refl _) _
  have x0 := box4_alloc w 27 (.int .i64 p.1) (.int .i64 p.2.1) (.slice sa sn sc) (.slice ca cn cc)
  have HX0 : Hid _ := x0
  unfold smallP
  clear x0 h
  cases hg : goodP p with
  | false =>
    rw [hg] at HG
    rw [Bool.false_and]
    clear hparts hg HX0
    generalize p.1 = pw at *
    generalize p.2.1 = pv at *
    go_enter Tryd.func85, Tryd.ntmps85
    go_wp2_with fail
    refine (HG.out _ HB0.out).mono ?_
    rintro e w1 ⟨rfl, hs⟩
    have HB1 : Hid (Below w.heap.size w w1) := Below.step HB0.out HB0.out.size hs
    clear hs
    go_wp2_with fail
    go_ret
    exact ⟨rfl, HB1.out⟩
  | true =>
    rw [hg] at HG
    rw [Bool.true_and]
    obtain ⟨_, q0, q1, q2, q3, _⟩ := hparts hg
    clear hparts hg
    generalize p.1 = pw at *
    generalize p.2.1 = pv at *
    have hm0 : 1 ≤ pw * pv := Int.le_trans (by omega : (1 : Int) ≤ 1 * 1) (Int.mul_le_mul q0 q2 (by omega) (by omega))
    have hm1 : pw * pv ≤ 256 := Int.le_trans (Int.mul_le_mul q1 q3 (by omega) (by omega)) (by omega)
    obtain ⟨M, hM⟩ : ∃ M : Int, pw * pv = M := ⟨_, rfl⟩
    rw [hM] at hm0 hm1 ⊢
    go_enter Tryd.func85, Tryd.ntmps85
    go_wp2_with fail
    refine (HG.out _ HB0.out).mono ?_
    generalize w.alloc (.cells #[.int .i64 pw, .int .i64 pv, .slice sa sn sc, .slice ca cn cc] 27) = w0 at *
    rintro e w1 ⟨rfl, hs⟩
    have HB1 : Hid (Below w.heap.size w w1) := Below.step HB0.out HB0.out.size hs
    have x1 := HX0.out.below hs HX0.out.lt
    obtain ⟨a0, a1, a2, a3⟩ := x1.cells
    have ah := x1.heap
    have al := x1.lt
    clear hs x1 HX0
    go_wp2_with fail
    go_ret
    exact ⟨rfl, HB1.out⟩
set_option maxRecDepth 100000 in
theorem sIsSmall_any (v : Value) (p : Pg) (w : World) (h : AtProg w v p) :
    Calls Tryd.prog 41 #[v] w fun e w' => e = .returned (.tuple #[.bool (smallP p), .bool (goodP p)]) ∧ Below w.heap.size w w' := by
  have HG : Hid (∀ w1 : World, Below w.heap.size w w1 → Calls Tryd.prog 20 #[v] w1 fun e w' => e = .returned (.bool (goodP p)) ∧ Below w1.heap.size w1 w') := fun w1 hb => sGoodProg_any v p w1 (h.below hb)
  have HS : Hid (∀ w1 : World, Below w.heap.size w w1 → Calls Tryd.prog 85 #[v] w1 fun e w' => e = .returned (.bool (smallP p)) ∧ Below w1.heap.size w1 w') := fun w1 hb => sSmall_any v p w1 (h.below hb)
  obtain ⟨sa, sn, sc, ca, cn, cc, rfl⟩ := h.shape
  have HB0 : Hid (Below w.heap.size w (w.alloc (.cells #[.int .i64 p.1, .int .i64 p.2.1, .slice sa sn sc, .slice ca cn cc] 27))) := (Below.refl _ _).alloc (Nat.le_refl _) _
  have x0 := box4_alloc w 27 (.int .i64 p.1) (.int .i64 p.2.1) (.slice sa sn sc) (.slice ca cn cc)
  have HX0 : Hid _ := x0
  have hsm : goodP p = false → smallP p = false := fun hg => by unfold smallP; rw [hg, Bool.false_and]
  clear x0 h
  cases hg : goodP p with
  | false =>
    rw [hg] at HG
    rw [hsm hg]
    clear hg HX0 hsm HS
    generalize p.1 = pw at *
    generalize p.2.1 = pv at *
    go_enter Tryd.func41, Tryd.ntmps41
    go_wp2_with fail
    refine (HG.out _ HB0.out).mono ?_
    rintro e w1 ⟨rfl, hs⟩
    have HB1 : Hid (Below w.heap.size w w1) := Below.step HB0.out HB0.out.size hs
    clear hs
    go_wp2_with fail
    go_ret2
    exact ⟨rfl, HB1.out⟩
  | true =>
    rw [hg] at HG
    clear hg hsm
    generalize smallP p = SM at *
    generalize p.1 = pw at *
    generalize p.2.1 = pv at *
    go_enter Tryd.func41, Tryd.ntmps41
    go_wp2_with fail
    refine (HG.out _ HB0.out).mono ?_
    generalize w.alloc (.cells #[.int .i64 pw, .int .i64 pv, .slice sa sn sc, .slice ca cn cc] 27) = w0 at *
    rintro e w1 ⟨rfl, hs⟩
    have HB1 : Hid (Below w.heap.size w w1) := Below.step HB0.out HB0.out.size hs
    have x1 := HX0.out.below hs HX0.out.lt
    obtain ⟨a0, a1, a2, a3⟩ := x1.cells
    have ah := x1.heap
    have al := x1.lt
    clear hs x1 HX0
    go_wp2_with fail
    refine (HS.out _ HB1.out).mono ?_
    rintro e w2 ⟨rfl, hs⟩
    have HB2 : Hid (Below w.heap.size w w2) := HB1.out.trans (hs.mono HB1.out.size)
    clear hs
    go_wp2_with fail
    go_ret2
    exact ⟨rfl, HB2.out⟩
end Go.Proofs.YtjbolpfilgkbfaaDoor

namespace Go.Proofs.YtjbolpfilgkbfaaDoor
open Go Go.RowKit
open M
set_option linter.unusedVariables false

set_option maxRecDepth 100000 in
set_option maxHeartbeats 2000000 in
theorem sState_any (v sv : Value) (p : Pg) (st : List Int) (hok : StOk st) (w : World) (h : AtProg w v p) (hs : StAt w sv st) :
    Calls Tryd.prog 64 #[v, sv] w fun e w' => e = .returned (.bool (stateP p st)) ∧ Below w.heap.size w w' := by
  obtain ⟨⟨hfw0, hfw1⟩, ⟨hfv0, hfv1⟩, _⟩ := id h
  obtain ⟨sa, sn, sc, ca, cn, cc, rfl⟩ := h.shape
  have HB0 : Hid (Below w.heap.size w (w.alloc (.cells #[.int .i64 p.1, .int .i64 p.2.1, .slice sa sn sc, .slice ca cn cc] 27))) := (Below.refl _ _).alloc (Nat.le_refl _) _
  have g := l2Words_any p.1 sv st hok _ (hs.below HB0.out)
  obtain ⟨ta, tc, rfl⟩ := hs.shape
  have hl := hok.1
  have hS : stateP p st = (decide ((st.length : Int) = p.2.1) && st.all (goodB p.1)) := rfl
  rw [hS]
  clear h hs hS hok
  generalize st.all (goodB p.1) = GB at *
  generalize st.length = n at *
  generalize p.1 = pw at *
  generalize p.2.1 = pv at *
  by_cases he : (n : Int) = pv
  · rw [decide_eq_true he, Bool.true_and]
    go_enter Tryd.func64, Tryd.ntmps64
    go_wp2_with fail
    refine g.mono ?_
    rintro e w1 ⟨rfl, rfl⟩
    clear g
    go_wp2_with fail
    go_ret
    exact ⟨rfl, HB0.out⟩
  · rw [decide_eq_false he, Bool.false_and]
    clear g
    go_enter Tryd.func64, Tryd.ntmps64
    go_wp2_with fail
    go_ret
    exact ⟨rfl, HB0.out⟩
set_option maxRecDepth 100000 in
set_option maxHeartbeats 2000000 in
theorem sHolds_any (v tv sv : Value) (p : Pg) (t : List Nd) (st : List Int) (hok : StOk st) (hsaid : saidV p.1 t st = true) (w : World) (h : AtProg w v p) (ht : NodesAt w tv t) (hs : StAt w sv st) :
    Calls Tryd.prog 75 #[v, tv, sv] w fun e w' => e = .returned (.bool (holdsL p.1 t st)) ∧ Below w.heap.size w w' := by
  obtain ⟨sa, sn, sc, ca, cn, cc, rfl⟩ := h.shape
  have HB0 : Hid (Below w.heap.size w (w.alloc (.cells #[.int .i64 p.1, .int .i64 p.2.1, .slice sa sn sc, .slice ca cn cc] 27))) := (Below.refl _ _).alloc (Nat.le_refl _) _
  have htl : 1 ≤ t.length ∧ t.length ≤ 48 := by
    obtain ⟨_, _, _, _, h1, h2, _⟩ := valueL_root hsaid
    exact ⟨h1, h2⟩
  have hwr : IntKind.i64.wrap ((t.length : Int) - 1) = (t.length : Int) - 1 := IntWalk.i64_in _ ⟨by omega, by omega⟩
  have g := l2Value_said p.1 tv sv t st hok hsaid _ (ht.below HB0.out) (hs.below HB0.out) _ rfl
  obtain ⟨ta, tc, rfl⟩ := ht.shape
  obtain ⟨ua, uc, rfl⟩ := hs.shape
  have hH : holdsL p.1 t st = (valueL p.1 t st == 1) := rfl
  rw [hH]
  clear h ht hs hH hok hsaid
  generalize valueL p.1 t st = V at *
  generalize t.length = n at *
  generalize st.length = m at *
  generalize p.1 = pw at *
  generalize p.2.1 = pv at *
  go_enter Tryd.func75, Tryd.ntmps75
  go_wp2_with fail
  refine g.mono ?_
  rintro e w1 ⟨rfl, hs⟩
  have HB1 : Hid (Below w.heap.size w w1) := Below.step HB0.out HB0.out.size hs
  clear g hs
  go_wp2_with fail
  go_ret
  exact ⟨rfl, HB1.out⟩
end Go.Proofs.YtjbolpfilgkbfaaDoor

namespace Go.Proofs.YtjbolpfilgkbfaaDoor
open Go Go.RowKit
open M
set_option linter.unusedVariables false

def noP (p : Pg) (st : List Int) : Int := if (smallP p && stateP p st) = true then noL p.1.toNat st else 0
theorem drop_at {st : List Int} {j : Nat} {x : Int} (h : st[j]? = some x) : st.drop j = x :: st.drop (j + 1) := by
  obtain ⟨hl, hx⟩ := List.getElem?_eq_some_iff.1 h
  rw [List.drop_eq_getElem_cons hl, hx]
theorem cell_same {w w' : World} {a : Addr} (h : w'.heap = w.heap) : w'.cell? a = w.cell? a := by
  unfold World.cell?
  rw [h]
theorem wrap64_in (x : Int) (h0 : 0 ≤ x) (h1 : x ≤ 9223372036854775807) : wrap64 x = x := by
  unfold wrap64
  omega
set_option maxRecDepth 100000 in
set_option maxHeartbeats 2000000 in
theorem sNo_any (v sv : Value) (p : Pg) (k : Nat) (hk1 : 1 ≤ k) (hk5 : k ≤ 5) (hp1 : p.1 = k) (st : List Int) (hlen : (st.length : Int) = p.2.1) (h4 : st.length ≤ 4) (hst : ∀ s ∈ st, 0 ≤ s ∧ s < 2 ^ k) (w : World) (h : AtProg w v p) (hs : StAt w sv st) :
    Calls Tryd.prog 86 #[v, sv] w fun e w' => e = .returned (.int .i64 (noL k st)) ∧ Below w.heap.size w w' := by
  obtain ⟨sa, sn, sc, ca, cn, cc, rfl⟩ := h.shape
  have hb0 : Below w.heap.size w (w.alloc (.cells #[.int .i64 p.1, .int .i64 p.2.1, .slice sa sn sc, .slice ca cn cc] 27)) := (Below.refl _ _).alloc (Nat.le_refl _) _
  have HB0 : Hid _ := hb0
  have x0 := box4_alloc w 27 (.int .i64 p.1) (.int .i64 p.2.1) (.slice sa sn sc) (.slice ca cn cc)
  obtain ⟨ua, uc, rfl⟩ := hs.shape
  have HC : Hid (∀ (j : Nat) (s : Int), st[j]? = some s → ∃ b off : Nat, ua = some ⟨b, off, none⟩ ∧ (w.alloc (.cells #[.int .i64 p.1, .int .i64 p.2.1, .slice sa sn sc, .slice ca cn cc] 27)).cell? ⟨b, off + j, none⟩ = some (.int .u64 s)) := by
    intro j s hj
    rcases hs with ⟨rfl, _⟩ | ⟨b, off, cap, e, hlt, hc⟩
    · simp at hj
    · injection e with e1 _ _
      exact ⟨b, off, e1, by rw [hb0.cell (p := ⟨b, off + j, none⟩) hlt]; exact hc j s hj⟩
  have HI : Hid (∀ j : Nat, j ≤ st.length → 0 ≤ noL k (st.drop j) ∧ noL k (st.drop j) < 2 ^ 20) := by
    intro j hj
    obtain ⟨a, b⟩ := noL_in k (st.drop j) (fun s hs => hst s (List.mem_of_mem_drop hs))
    refine ⟨a, Int.lt_of_lt_of_le b ?_⟩
    have hl : k * (st.drop j).length ≤ 20 := Nat.le_trans (Nat.mul_le_mul hk5 (by rw [List.length_drop]; omega : (st.drop j).length ≤ 4)) (by omega)
    rw [pw_int, pw_int]
    exact pw_mono _ _ hl
  have HS : Hid (∀ (j : Nat) (x : Int), st[j]? = some x → noL k (st.drop j) = x + 2 ^ k * noL k (st.drop (j + 1))) := fun j x hx => by
    rw [drop_at hx]
    rfl
  have HX0 : Hid (Box4 (w.alloc (.cells #[.int .i64 p.1, .int .i64 p.2.1, .slice sa sn sc, .slice ca cn cc] 27)) w.heap.size 27 (.int .i64 p.1) (.int .i64 p.2.1) (.slice sa sn sc) (.slice ca cn cc)) := x0
  obtain ⟨a0, a1, a2, a3⟩ := x0.cells
  have ah := x0.heap
  have al := x0.lt
  clear hs h hb0 x0
  rw [hp1, ← hlen] at *
  have HSV : Hid (∀ (j : Nat) (x : Int), st[j]? = some x → 0 ≤ x ∧ x < 32) := fun j x hx => by
    obtain ⟨a, b⟩ := hst x (List.mem_of_getElem? hx)
    have : (2 : Int) ^ k ≤ 2 ^ 5 := by
      rw [pw_int, pw_int]
      exact pw_mono _ _ hk5
    omega
  have HZ : Hid (Value.int .i64 0 = Value.int .i64 (noL k (st.drop st.length))) := by
    show Value.int .i64 0 = Value.int .i64 (noL k (st.drop st.length))
    rw [List.drop_length]
    rfl
  generalize hn : st.length = n at *
  have HLN : Hid (st.length = n) := hn
  clear hst hn
  have hwv : IntKind.i64.wrap ((n : Int) - 1) = (n : Int) - 1 := IntWalk.i64_in _ ⟨by omega, by omega⟩
  go_enter Tryd.func86, Tryd.ntmps86
  go_wp2_with fail
  go_loopw [5, 6] (fun m i wr => ∃ j : Nat, j ≤ n ∧ i = .int .i64 ((j : Int) - 1) ∧ m = .int .i64 (noL k (st.drop j)) ∧ Hid (wr.heap = (w.alloc (.cells #[.int .i64 k, .int .i64 n, .slice sa sn sc, .slice ca cn cc] 27)).heap) ∧ Hid (Below w.heap.size w wr)) (fun _ i _ => (intOf i + 1).toNat)
  case atStart => exact ⟨n, Nat.le_refl _, rfl, HZ.out, rfl, HB0⟩
  case round =>
    obtain ⟨j, hj, rfl, rfl, HH, HB⟩ := hrel
    clear a0 a1 a2 a3 ah al
    obtain ⟨b0, b1⟩ := HI.out j hj
    by_cases hlt : 1 ≤ j
    · obtain ⟨x, hx⟩ : ∃ x, st[j - 1]? = some x := ⟨_, List.getElem?_eq_getElem (by have := HLN.out; omega)⟩
      obtain ⟨b, off, rfl, cx⟩ := HC.out (j - 1) x hx
      obtain ⟨x0, x1⟩ := HSV.out (j - 1) x hx
      have hs := HS.out (j - 1) x hx
      have hi1 := HI.out (j - 1) (by omega)
      rw [Nat.sub_add_cancel hlt] at hs
      rw [← cell_same HH.out] at cx
      have x1' : Box4 wr w.heap.size 27 (.int .i64 k) (.int .i64 n) (.slice sa sn sc) (.slice ca cn cc) := ⟨by rw [HH.out]; exact HX0.out.heap⟩
      obtain ⟨a0, a1, a2, a3⟩ := x1'.cells
      have ah := x1'.heap
      have al := x1'.lt
      have hp2 := two_pos k
      have e1 : wrap64 (noL k (st.drop j) * 2 ^ k) = noL k (st.drop j) * 2 ^ k := by
        have : 0 ≤ noL k (st.drop j) * 2 ^ k := Int.mul_nonneg b0 (by omega)
        rw [Int.mul_comm] at this ⊢
        exact wrap64_in _ (by omega) (by omega)
      have e2 : wrap64 (noL k (st.drop j) * 2 ^ k + x) = noL k (st.drop (j - 1)) := by
        rw [hs, Int.mul_comm (noL k (st.drop j)) (2 ^ k), Int.add_comm]
        exact wrap64_in _ (by omega) (by omega)
      have E1 : Hid _ := e1
      have E2 : Hid _ := e2
      have HJ : Hid (noL k (st.drop (j - 1)) = noL k (st.drop (j - 1))) := rfl
      clear x1' e1 e2 hs hx hi1 hp2
      go_wp2_with fail
      go_quiet (fail)
      rw [E1.out, E2.out]
      have HB2 : Hid (Below w.heap.size w (wr.drewN nq)) := HB.out.trans (below_drew7 _ _ _)
      go_wp2_with fail
      go_roundw
      case rel => exact ⟨j - 1, by omega, by go_num, rfl, HH, HB2⟩
      case measure => simp [intOf]; omega
    · obtain rfl : j = 0 := by omega
      clear HI HS HC HSV HX0
      go_wp2_with fail
      go_ret
      exact ⟨rfl, HB.out⟩
end Go.Proofs.YtjbolpfilgkbfaaDoor

namespace Go.Proofs.YtjbolpfilgkbfaaDoor
open Go Go.RowKit
open M
set_option linter.unusedVariables false

theorem st_ok {st : List Int} (h : WsOk st) : StOk st := ⟨h.2, h.1⟩
theorem smallP_open {p : Pg} (h : smallP p = true) : goodP p = true ∧ p.1 * p.2.1 ≤ 5 := by
  unfold smallP at h
  rw [Bool.and_eq_true] at h
  exact ⟨h.1, of_decide_eq_true h.2⟩
set_option maxRecDepth 100000 in
set_option maxHeartbeats 2000000 in
theorem sStateNo_any (v sv : Value) (p : Pg) (st : List Int) (hok : WsOk st) (w : World) (h : AtProg w v p) (hs : StAt w sv st) :
    Calls Tryd.prog 39 #[v, sv] w fun e w' => e = .returned (.tuple #[.int .i64 (noP p st), .bool (smallP p && stateP p st)]) ∧ Below w.heap.size w w' := by
  have HS : Hid (∀ w1 : World, Below w.heap.size w w1 → Calls Tryd.prog 85 #[v] w1 fun e w' => e = .returned (.bool (smallP p)) ∧ Below w1.heap.size w1 w') := fun w1 hb => sSmall_any v p w1 (h.below hb)
  have HT : Hid (∀ w1 : World, Below w.heap.size w w1 → Calls Tryd.prog 64 #[v, sv] w1 fun e w' => e = .returned (.bool (stateP p st)) ∧ Below w1.heap.size w1 w') := fun w1 hb => sState_any v sv p st (st_ok hok) w1 (h.below hb) (hs.below hb)
  have HN : Hid (smallP p = true → stateP p st = true → ∀ w1 : World, Below w.heap.size w w1 → Calls Tryd.prog 86 #[v, sv] w1 fun e w' => e = .returned (.int .i64 (noL p.1.toNat st)) ∧ Below w1.heap.size w1 w') := fun h1 h2 w1 hb => by
    obtain ⟨hg, hm⟩ := smallP_open h1
    obtain ⟨k, u, e1, e2, q1, q2, q3, q4⟩ := goodP_nats hg
    obtain ⟨h3, h4⟩ := stateP_open h2
    have hk5 : k ≤ 5 := by
      rw [e1, e2] at hm
      have : (k : Int) * 1 ≤ (k : Int) * (u : Int) := Int.mul_le_mul_of_nonneg_left (by omega) (by omega)
      omega
    have g := sNo_any v sv p k q1 hk5 e1 st h3 (by omega) (fun s hs => good_two k s (hok.1 s hs).1 (by rw [← e1]; exact h4 s hs)) w1 (h.below hb) (hs.below hb)
    rw [show p.1.toNat = k from by omega]
    exact g
  have hn0 : noP p st = if (smallP p && stateP p st) = true then noL p.1.toNat st else 0 := rfl
  have hfit : smallP p = true → stateP p st = true → True := fun _ _ => trivial
  obtain ⟨sa, sn, sc, ca, cn, cc, rfl⟩ := h.shape
  have HB0 : Hid (Below w.heap.size w (w.alloc (.cells #[.int .i64 p.1, .int .i64 p.2.1, .slice sa sn sc, .slice ca cn cc] 27))) := (Below.refl _ _).alloc (Nat.le_refl _) _
  have x0 := box4_alloc w 27 (.int .i64 p.1) (.int .i64 p.2.1) (.slice sa sn sc) (.slice ca cn cc)
  have HX0 : Hid _ := x0
  obtain ⟨ua, uc, rfl⟩ := hs.shape
  rw [hn0]
  clear h hs hok x0 hn0 hfit
  generalize noL p.1.toNat st = NN at *
  generalize st.length = n at *
  generalize stateP p st = B2 at *
  generalize smallP p = B1 at *
  generalize p.1 = pw at *
  generalize p.2.1 = pv at *
  cases B1 with
  | false =>
    rw [Bool.false_and, if_neg (by decide)]
    clear HN HT HX0
    go_enter Tryd.func39, Tryd.ntmps39
    go_wp2_with fail
    refine (HS.out _ HB0.out).mono ?_
    rintro e w1 ⟨rfl, hs⟩
    have HB1 : Hid (Below w.heap.size w w1) := Below.step HB0.out HB0.out.size hs
    clear hs
    go_wp2_with fail
    go_ret2
    exact ⟨rfl, HB1.out⟩
  | true =>
    cases B2 with
    | false =>
      rw [Bool.and_false, if_neg (by decide)]
      clear HN
      go_enter Tryd.func39, Tryd.ntmps39
      go_wp2_with fail
      refine (HS.out _ HB0.out).mono ?_
      generalize w.alloc (.cells #[.int .i64 pw, .int .i64 pv, .slice sa sn sc, .slice ca cn cc] 27) = w0 at *
      rintro e w1 ⟨rfl, hs⟩
      have HB1 : Hid (Below w.heap.size w w1) := Below.step HB0.out HB0.out.size hs
      have x1 := HX0.out.below hs HX0.out.lt
      obtain ⟨a0, a1, a2, a3⟩ := x1.cells
      have ah := x1.heap
      have al := x1.lt
      clear hs x1 HX0
      go_wp2_with fail
      refine (HT.out _ HB1.out).mono ?_
      rintro e w2 ⟨rfl, hs⟩
      have HB2 : Hid (Below w.heap.size w w2) := HB1.out.trans (hs.mono HB1.out.size)
      clear hs a0 a1 a2 a3 ah al
      go_wp2_with fail
      go_ret2
      exact ⟨rfl, HB2.out⟩
    | true =>
      rw [Bool.and_true, if_pos rfl]
      have HN2 : Hid _ := HN.out rfl rfl
      clear HN
      go_enter Tryd.func39, Tryd.ntmps39
      go_wp2_with fail
      refine (HS.out _ HB0.out).mono ?_
      generalize w.alloc (.cells #[.int .i64 pw, .int .i64 pv, .slice sa sn sc, .slice ca cn cc] 27) = w0 at *
      rintro e w1 ⟨rfl, hs⟩
      have HB1 : Hid (Below w.heap.size w w1) := Below.step HB0.out HB0.out.size hs
      have x1 := HX0.out.below hs HX0.out.lt
      have HX1 : Hid _ := x1
      obtain ⟨a0, a1, a2, a3⟩ := x1.cells
      have ah := x1.heap
      have al := x1.lt
      clear hs x1 HX0
      go_wp2_with fail
      refine (HT.out _ HB1.out).mono ?_
      rintro e w2 ⟨rfl, hs⟩
      have HB2 : Hid (Below w.heap.size w w2) := HB1.out.trans (hs.mono HB1.out.size)
      have x2 := HX1.out.below hs HX1.out.lt
      clear a0 a1 a2 a3 ah al
      obtain ⟨a0, a1, a2, a3⟩ := x2.cells
      have ah := x2.heap
      have al := x2.lt
      clear hs x2 HX1
      go_wp2_with fail
      refine (HN2.out _ HB2.out).mono ?_
      rintro e w3 ⟨rfl, hs⟩
      have HB3 : Hid (Below w.heap.size w w3) := HB2.out.trans (hs.mono HB2.out.size)
      clear hs a0 a1 a2 a3 ah al
      go_wp2_with fail
      go_ret2
      exact ⟨rfl, HB3.out⟩
set_option maxRecDepth 100000 in
set_option maxHeartbeats 2000000 in
theorem sIsStart_any (v sv : Value) (p : Pg) (st : List Int) (hok : WsOk st) (w : World) (h : AtProg w v p) (hs : StAt w sv st) :
    Calls Tryd.prog 28 #[v, sv] w fun e w' => e = .returned (.tuple #[.bool (startP p st), .bool (goodS p st)]) ∧ Below w.heap.size w w' := by
  have HS : Hid (∀ w1 : World, Below w.heap.size w w1 → Calls Tryd.prog 20 #[v] w1 fun e w' => e = .returned (.bool (goodP p)) ∧ Below w1.heap.size w1 w') := fun w1 hb => sGoodProg_any v p w1 (h.below hb)
  have HT : Hid (∀ w1 : World, Below w.heap.size w w1 → Calls Tryd.prog 64 #[v, sv] w1 fun e w' => e = .returned (.bool (stateP p st)) ∧ Below w1.heap.size w1 w') := fun w1 hb => sState_any v sv p st (st_ok hok) w1 (h.below hb) (hs.below hb)
  have HN0 : goodP p = true → stateP p st = true → ∀ (w1 : World) (u : Value), Below w.heap.size w w1 → NodesAt w1 u p.2.2.1 → Calls Tryd.prog 75 #[v, u, sv] w1 fun e w' => e = .returned (.bool (holdsL p.1 p.2.2.1 st)) ∧ Below w1.heap.size w1 w' := fun h1 h2 w1 u hb hu => by
    obtain ⟨hk, _⟩ := goodP_parts h1
    exact sHolds_any v u sv p p.2.2.1 st (st_ok hok) (said_of h2 (by omega)) w1 (h.below hb) hu (hs.below hb)
  have hn0 : startP p st = (goodP p && stateP p st && holdsL p.1 p.2.2.1 st) := rfl
  have hg0 : goodS p st = (goodP p && stateP p st) := rfl
  obtain ⟨_, _, s', c', e', hns, _⟩ := id h
  obtain ⟨sa, sn, sc, ca, cn, cc, rfl⟩ := h.shape
  have e2 : s' = .slice sa sn sc := by
    injection e' with e'
    simp only [Array.mk.injEq, List.cons.injEq] at e'
    exact e'.2.2.1.symm
  rw [e2] at hns
  clear e' e2
  have HN : Hid (goodP p = true → stateP p st = true → ∀ (w1 : World), Below w.heap.size w w1 → Calls Tryd.prog 75 #[.agg #[.int .i64 p.1, .int .i64 p.2.1, .slice sa sn sc, .slice ca cn cc], .slice sa sn sc, sv] w1 fun e w' => e = .returned (.bool (holdsL p.1 p.2.2.1 st)) ∧ Below w1.heap.size w1 w') := fun h1 h2 w1 hb => HN0 h1 h2 w1 _ hb (hns.below hb)
  have HB0 : Hid (Below w.heap.size w (w.alloc (.cells #[.int .i64 p.1, .int .i64 p.2.1, .slice sa sn sc, .slice ca cn cc] 27))) := (Below.refl _ _).alloc (Nat.le_refl _) _
  have x0 := box4_alloc w 27 (.int .i64 p.1) (.int .i64 p.2.1) (.slice sa sn sc) (.slice ca cn cc)
  have HX0 : Hid _ := x0
  obtain ⟨ua, uc, rfl⟩ := hs.shape
  rw [hn0, hg0]
  clear h hs hok x0 hn0 hg0 HN0 hns
  generalize holdsL p.1 p.2.2.1 st = NN at *
  generalize st.length = n at *
  generalize stateP p st = B2 at *
  generalize goodP p = B1 at *
  generalize p.1 = pw at *
  generalize p.2.1 = pv at *
  cases B1 with
  | false =>
    rw [Bool.false_and, Bool.false_and]
    clear HN HT HX0
    go_enter Tryd.func28, Tryd.ntmps28
    go_wp2_with fail
    refine (HS.out _ HB0.out).mono ?_
    rintro e w1 ⟨rfl, hs⟩
    have HB1 : Hid (Below w.heap.size w w1) := Below.step HB0.out HB0.out.size hs
    clear hs
    go_wp2_with fail
    go_ret2
    exact ⟨rfl, HB1.out⟩
  | true =>
    cases B2 with
    | false =>
      rw [Bool.and_false, Bool.false_and]
      clear HN
      go_enter Tryd.func28, Tryd.ntmps28
      go_wp2_with fail
      refine (HS.out _ HB0.out).mono ?_
      generalize w.alloc (.cells #[.int .i64 pw, .int .i64 pv, .slice sa sn sc, .slice ca cn cc] 27) = w0 at *
      rintro e w1 ⟨rfl, hs⟩
      have HB1 : Hid (Below w.heap.size w w1) := Below.step HB0.out HB0.out.size hs
      have x1 := HX0.out.below hs HX0.out.lt
      obtain ⟨a0, a1, a2, a3⟩ := x1.cells
      have ah := x1.heap
      have al := x1.lt
      clear hs x1 HX0
      go_wp2_with fail
      refine (HT.out _ HB1.out).mono ?_
      rintro e w2 ⟨rfl, hs⟩
      have HB2 : Hid (Below w.heap.size w w2) := HB1.out.trans (hs.mono HB1.out.size)
      clear hs a0 a1 a2 a3 ah al
      go_wp2_with fail
      go_ret2
      exact ⟨rfl, HB2.out⟩
    | true =>
      rw [Bool.and_true, Bool.true_and]
      have HN2 : Hid _ := HN.out rfl rfl
      clear HN
      go_enter Tryd.func28, Tryd.ntmps28
      go_wp2_with fail
      refine (HS.out _ HB0.out).mono ?_
      generalize w.alloc (.cells #[.int .i64 pw, .int .i64 pv, .slice sa sn sc, .slice ca cn cc] 27) = w0 at *
      rintro e w1 ⟨rfl, hs⟩
      have HB1 : Hid (Below w.heap.size w w1) := Below.step HB0.out HB0.out.size hs
      have x1 := HX0.out.below hs HX0.out.lt
      have HX1 : Hid _ := x1
      obtain ⟨a0, a1, a2, a3⟩ := x1.cells
      have ah := x1.heap
      have al := x1.lt
      clear hs x1 HX0
      go_wp2_with fail
      refine (HT.out _ HB1.out).mono ?_
      rintro e w2 ⟨rfl, hs⟩
      have HB2 : Hid (Below w.heap.size w w2) := HB1.out.trans (hs.mono HB1.out.size)
      have x2 := HX1.out.below hs HX1.out.lt
      clear a0 a1 a2 a3 ah al
      obtain ⟨a0, a1, a2, a3⟩ := x2.cells
      have ah := x2.heap
      have al := x2.lt
      clear hs x2 HX1
      go_wp2_with fail
      refine (HN2.out _ HB2.out).mono ?_
      rintro e w3 ⟨rfl, hs⟩
      have HB3 : Hid (Below w.heap.size w w3) := HB2.out.trans (hs.mono HB2.out.size)
      clear hs a0 a1 a2 a3 ah al
      go_wp2_with fail
      go_ret2
      exact ⟨rfl, HB3.out⟩
end Go.Proofs.YtjbolpfilgkbfaaDoor

namespace Go.Proofs.YtjbolpfilgkbfaaDoor
open Go Go.RowKit
open M
set_option linter.unusedVariables false

set_option maxRecDepth 100000 in
theorem iGoodProg_any (v : Value) (p : Pg) (ok : PgOk p) (w : World) (hT : Tab w) (h : AtProg w v p) :
    Calls Tryd.prog 19 #[v] w fun e w' => e = .returned (.bool (goodP p)) ∧ Below w.heap.size w w' := by
  obtain ⟨sa, sn, sc, ca, cn, cc, rfl⟩ := h.shape
  have HB0 : Hid (Below w.heap.size w (w.alloc (.cells #[.int .i64 p.1, .int .i64 p.2.1, .slice sa sn sc, .slice ca cn cc] 27))) := (Below.refl _ _).alloc (Nat.le_refl _) _
  have g := rootsOf_any _ p ok _ (hT.below HB0.out hT.some) (h.below HB0.out)
  clear h hT ok
  generalize hgp : goodP p = GP at *
  have HGP : Hid _ := hgp
  clear hgp
  have HO : Hid (∀ (w0 : World) e w', RootsOut w0 p e w' → ((GP = true ∧ ∃ P : Nat, e = .returned (ptr P)) ∨ (GP = false ∧ e = .returned (.pointer none))) ∧ Below w0.heap.size w0 w') := fun w0 e w' ho => by
    obtain ⟨h1, h2⟩ := ho
    refine ⟨?_, h2⟩
    rcases h1 with ⟨a, P, x, y, b, _⟩ | ⟨a, b⟩
    · exact Or.inl ⟨HGP.out.symm.trans a, P, b⟩
    · exact Or.inr ⟨HGP.out.symm.trans a, b⟩
  clear HGP
  generalize hro : RootsOut (w.alloc (.cells #[.int .i64 p.1, .int .i64 p.2.1, .slice sa sn sc, .slice ca cn cc] 27)) p = OUT at g
  have HO2 : Hid (∀ e w', OUT e w' → ((GP = true ∧ ∃ P : Nat, e = .returned (ptr P)) ∨ (GP = false ∧ e = .returned (.pointer none))) ∧ Below (w.alloc (.cells #[.int .i64 p.1, .int .i64 p.2.1, .slice sa sn sc, .slice ca cn cc] 27)).heap.size (w.alloc (.cells #[.int .i64 p.1, .int .i64 p.2.1, .slice sa sn sc, .slice ca cn cc] 27)) w') := fun e w' ho => HO.out _ e w' (by rw [hro]; exact ho)
  clear HO hro
  generalize p.1 = pw at *
  generalize p.2.1 = pv at *
  go_enter Tryd.func19, Tryd.ntmps19
  go_wp2_with fail
  refine g.mono ?_
  rintro e w1 ho
  obtain ⟨h1, hs⟩ := HO2.out e w1 ho
  have HB1 : Hid (Below w.heap.size w w1) := Below.step HB0.out HB0.out.size hs
  clear hs ho g HO2 HB0
  rcases h1 with ⟨rfl, P, rfl⟩ | ⟨rfl, rfl⟩
  · go_wp2_with fail
    go_ret
    exact ⟨rfl, HB1.out⟩
  · go_wp2_with fail
    go_ret
    exact ⟨rfl, HB1.out⟩
end Go.Proofs.YtjbolpfilgkbfaaDoor

namespace Go.Proofs.YtjbolpfilgkbfaaDoor
open Go Go.RowKit
open M
set_option linter.unusedVariables false

set_option maxRecDepth 100000 in
theorem bits_any (P : Nat) (pw pv M : Int) (x y : Value) (w : World) (h : Box4 w P 111 (.int .i64 pw) (.int .i64 pv) x y) (hM : pw * pv = M) (h0 : 0 ≤ M) (h1 : M ≤ 100000) :
    Calls Tryd.prog 116 #[ptr P] w fun e w' => e = .returned (.int .i64 M) ∧ ∃ n, w' = w.drewN n := by
  obtain ⟨a0, a1, a2, a3⟩ := h.cells
  have ah := h.heap
  have al := h.lt
  have hMw : IntKind.i64.wrap (pw * pv) = M := by rw [hM]; exact IntWalk.i64_in _ ⟨by omega, by omega⟩
  have hMw2 : IntKind.i64.wrap M = M := IntWalk.i64_in _ ⟨by omega, by omega⟩
  clear h
  go_enter Tryd.func116, Tryd.ntmps116
  go_wp2_with fail
  go_quiet (fail)
  go_wp2_with fail
  go_ret
  exact ⟨rfl, _, rfl⟩

set_option maxRecDepth 100000 in
theorem small_any (P : Nat) (pw pv M : Int) (x y : Value) (w : World) (h : Box4 w P 111 (.int .i64 pw) (.int .i64 pv) x y) (hM : pw * pv = M) (h0 : 0 ≤ M) (h1 : M ≤ 100000) :
    Calls Tryd.prog 83 #[ptr P] w fun e w' => e = .returned (.bool (decide (M ≤ 5))) ∧ Below w.heap.size w w' := by
  have g := bits_any P pw pv M x y w h hM h0 h1
  clear h hM
  go_enter Tryd.func83, Tryd.ntmps83
  go_wp2_with fail
  refine g.mono ?_
  rintro e w1 ⟨rfl, n, hn⟩
  have HB : Hid (Below w.heap.size w w1) := by rw [hn]; exact below_drew7 _ _ _
  clear hn g
  go_wp2_with fail
  go_ret
  exact ⟨rfl, HB.out⟩
set_option maxRecDepth 100000 in
theorem iIsSmall_any (v : Value) (p : Pg) (ok : PgOk p) (w : World) (hT : Tab w) (h : AtProg w v p) :
    Calls Tryd.prog 40 #[v] w fun e w' => e = .returned (.tuple #[.bool (smallP p), .bool (goodP p)]) ∧ Below w.heap.size w w' := by
  obtain ⟨sa, sn, sc, ca, cn, cc, rfl⟩ := h.shape
  have HB0 : Hid (Below w.heap.size w (w.alloc (.cells #[.int .i64 p.1, .int .i64 p.2.1, .slice sa sn sc, .slice ca cn cc] 27))) := (Below.refl _ _).alloc (Nat.le_refl _) _
  have g := rootsOf_any _ p ok _ (hT.below HB0.out hT.some) (h.below HB0.out)
  have hparts := @goodP_parts p
  have hsm : smallP p = (goodP p && decide (p.1 * p.2.1 ≤ 5)) := rfl
  clear h hT ok
  generalize hgp : goodP p = GP at *
  have HGP : Hid _ := hgp
  clear hgp
  have HO : Hid (∀ (w0 : World) e w', RootsOut w0 p e w' → ((GP = true ∧ ∃ (P : Nat) (x y : Value), e = .returned (ptr P) ∧ Box4 w' P 111 (.int .i64 p.1) (.int .i64 p.2.1) x y) ∨ (GP = false ∧ e = .returned (.pointer none))) ∧ Below w0.heap.size w0 w') := fun w0 e w' ho => by
    obtain ⟨h1, h2⟩ := ho
    refine ⟨?_, h2⟩
    rcases h1 with ⟨a, P, x, y, b, _, c⟩ | ⟨a, b⟩
    · exact Or.inl ⟨HGP.out.symm.trans a, P, x, y, b, c⟩
    · exact Or.inr ⟨HGP.out.symm.trans a, b⟩
  clear HGP
  generalize hro : RootsOut (w.alloc (.cells #[.int .i64 p.1, .int .i64 p.2.1, .slice sa sn sc, .slice ca cn cc] 27)) p = OUT at g
  have HO2 : Hid (∀ e w', OUT e w' → ((GP = true ∧ ∃ (P : Nat) (x y : Value), e = .returned (ptr P) ∧ Box4 w' P 111 (.int .i64 p.1) (.int .i64 p.2.1) x y) ∨ (GP = false ∧ e = .returned (.pointer none))) ∧ Below (w.alloc (.cells #[.int .i64 p.1, .int .i64 p.2.1, .slice sa sn sc, .slice ca cn cc] 27)).heap.size (w.alloc (.cells #[.int .i64 p.1, .int .i64 p.2.1, .slice sa sn sc, .slice ca cn cc] 27)) w') := fun e w' ho => HO.out _ e w' (by rw [hro]; exact ho)
  clear HO hro
  have HPT : Hid (GP = true → 1 ≤ p.1 ∧ p.1 ≤ 64 ∧ 1 ≤ p.2.1 ∧ p.2.1 ≤ 4) := fun hg => by
    obtain ⟨_, q0, q1, q2, q3, _⟩ := hparts hg
    exact ⟨q0, q1, q2, q3⟩
  rw [hsm]
  clear hparts hsm
  generalize p.1 = pw at *
  generalize p.2.1 = pv at *
  go_enter Tryd.func40, Tryd.ntmps40
  go_wp2_with fail
  refine g.mono ?_
  rintro e w1 ho
  obtain ⟨h1, hs⟩ := HO2.out e w1 ho
  have HB1 : Hid (Below w.heap.size w w1) := Below.step HB0.out HB0.out.size hs
  clear hs ho g HO2 HB0
  rcases h1 with ⟨rfl, P, x, y, rfl, hbx⟩ | ⟨rfl, rfl⟩
  · obtain ⟨q0, q1, q2, q3⟩ := HPT.out rfl
    have hm0 : 1 ≤ pw * pv := Int.le_trans (by omega : (1 : Int) ≤ 1 * 1) (Int.mul_le_mul q0 q2 (by omega) (by omega))
    have hm1 : pw * pv ≤ 256 := Int.le_trans (Int.mul_le_mul q1 q3 (by omega) (by omega)) (by omega)
    obtain ⟨M, hM⟩ : ∃ M : Int, pw * pv = M := ⟨_, rfl⟩
    have gs := small_any P pw pv M x y w1 hbx hM (by omega) (by omega)
    have HM : Hid (pw * pv = M) := hM
    clear hbx HPT hM hm0 hm1
    go_wp2_with fail
    refine gs.mono ?_
    rintro e w2 ⟨rfl, hs⟩
    have HB2 : Hid (Below w.heap.size w w2) := HB1.out.trans (hs.mono HB1.out.size)
    clear hs gs
    go_wp2_with fail
    go_ret2
    exact ⟨by rw [HM.out]; rfl, HB2.out⟩
  · clear HPT
    go_wp2_with fail
    go_ret2
    exact ⟨rfl, HB1.out⟩
end Go.Proofs.YtjbolpfilgkbfaaDoor

namespace Go.Proofs.YtjbolpfilgkbfaaDoor
open Go Go.RowKit
open M
set_option linter.unusedVariables false

theorem ns_pos {t : List Nd} (h : NsOk t) : ∀ x ∈ t, 0 ≤ x.2 := fun x hx => (h.1 x hx).2.2.1
theorem Rooted.old {w w' : World} {B : Nat} {p : Pg} {P : Nat} (h : Rooted w (fun k => B ≤ k ∧ k < w.heap.size) p P) (hb : Below w.heap.size w w') : Rooted w' (Old w') p P :=
  Rooted.frame h hb.size (fun k hk => Nat.lt_of_lt_of_le hk.2 hb.size) (fun k hk => hb.block k hk.2)
theorem Rooted.below {w w' : World} {p : Pg} {P : Nat} (h : Rooted w (Old w) p P) (hb : Below w.heap.size w w') : Rooted w' (Old w') p P :=
  Rooted.frame h hb.size (fun k hk => Nat.lt_of_lt_of_le hk hb.size) (fun k hk => hb.block k hk)
set_option maxRecDepth 100000 in
set_option maxHeartbeats 2000000 in
theorem isStart_any {k vars : Nat} {st : List Int} (hw : WordsIn k vars st) (p : Pg) (hp1 : p.1 = k) (hp2 : p.2.1 = vars) (hpos : ∀ x ∈ p.2.2.1, 0 ≤ x.2) (P : Nat) (w : World) (hT : Tab w) (hR : Rooted w (Old w) p P) :
    Calls Tryd.prog 74 #[ptr P, aggS st] w fun e w' => e = .returned (.bool (holdsL p.1 p.2.2.1 st)) ∧ Below w.heap.size w w' := by
  unfold aggS
  have HB0 : Hid (Below w.heap.size w (w.alloc (.cells #[.int .u64 (padW st 0), .int .u64 (padW st 1), .int .u64 (padW st 2), .int .u64 (padW st 3)] 90))) := (Below.refl _ _).alloc (Nat.le_refl _) _
  have y0 := box4_alloc w 90 (.int .u64 (padW st 0)) (.int .u64 (padW st 1)) (.int .u64 (padW st 2)) (.int .u64 (padW st 3))
  have HBD : Hid (Below w.heap.size w (w.alloc (.cells #[.int .u64 (padW st 0), .int .u64 (padW st 1), .int .u64 (padW st 2), .int .u64 (padW st 3)] 90)).drew) := HB0.out.drew
  obtain ⟨_, x, y, hx2, hrx, _⟩ := hR.below HBD.out
  obtain ⟨_, x', y', hx0, _, _⟩ := hR
  have hx1 := hx0.below HB0.out hx0.lt
  have hxe := hx0.below HBD.out hx0.lt
  have he := hxe.heap.symm.trans hx2.heap
  simp only [Option.some.injEq, Obj.cells.injEq, Array.mk.injEq, List.cons.injEq, and_true, true_and] at he
  obtain ⟨rfl, rfl⟩ := he
  rw [hp1, hp2] at hx1 hx2 hrx
  rw [hp1]
  have GC : Hid (Calls Tryd.prog 107 #[ptr P, x', .agg #[.int .u64 (padW st 0), .int .u64 (padW st 1), .int .u64 (padW st 2), .int .u64 (padW st 3)]] _ _) := holds_any hpos hw P x' y' x' _ (hT.below HBD.out hT.some) hx2 hrx
  obtain ⟨p0, p1, p2, p3⟩ := hx1.cells
  have ph := hx1.heap
  have pl := hx1.lt
  obtain ⟨q0, q1, q2, q3⟩ := y0.cells
  have qh := y0.heap
  have ql := y0.lt
  have h4 : (Tryd.prog.info? 90).map (·.size) = some 4 := by kernel_rfl
  clear hx0 hx1 hx2 hxe hrx y0 hT hpos hw
  generalize holdsL k p.2.2.1 st = V at *
  generalize padW st 0 = x0 at *
  generalize padW st 1 = x1 at *
  generalize padW st 2 = x2 at *
  generalize padW st 3 = x3 at *
  go_enter Tryd.func74, Tryd.ntmps74
  go_wp2_with fail
  go_region_with (go_at_call 107; refine Calls.mono GC.out ?_; rintro e w1 ⟨rfl, hs⟩; have HB1 : Hid (Below w.heap.size w w1) := Below.step HBD.out HBD.out.size hs; clear hs)
  all_goals
    go_wp2_with fail
    go_ret
    exact ⟨rfl, HB1.out⟩
end Go.Proofs.YtjbolpfilgkbfaaDoor

namespace Go.Proofs.YtjbolpfilgkbfaaDoor
open Go Go.RowKit
open M
set_option linter.unusedVariables false

set_option maxRecDepth 100000 in
set_option maxHeartbeats 2000000 in
theorem iIsStart_any (v sv : Value) (p : Pg) (ok : PgOk p) (st : List Int) (hst : WsOk st) (w : World) (hT : Tab w) (h : AtProg w v p) (hs : StAt w sv st) :
    Calls Tryd.prog 27 #[v, sv] w fun e w' => e = .returned (.tuple #[.bool (startP p st), .bool (goodS p st)]) ∧ Below w.heap.size w w' := by
  obtain ⟨sa, sn, sc, ca, cn, cc, rfl⟩ := h.shape
  have HB0 : Hid (Below w.heap.size w (w.alloc (.cells #[.int .i64 p.1, .int .i64 p.2.1, .slice sa sn sc, .slice ca cn cc] 27))) := (Below.refl _ _).alloc (Nat.le_refl _) _
  have g := rootsWith_any _ sv p ok st hst.1 hst.2 _ (hT.below HB0.out hT.some) (h.below HB0.out) (hs.below HB0.out)
  obtain ⟨ua, uc, rfl⟩ := hs.shape
  have h4 : (Tryd.prog.info? 90).map (·.size) = some 4 := by kernel_rfl
  have HT : Hid (Tab w) := hT
  have HOK : Hid (PgOk p) := ok
  have HST : Hid (WsOk st) := hst
  clear h hs hT ok hst
  go_enter Tryd.func27, Tryd.ntmps27
  go_wp2_with fail
  refine g.mono ?_
  generalize w.alloc (.cells #[.int .i64 p.1, .int .i64 p.2.1, .slice sa sn sc, .slice ca cn cc] 27) = w0 at *
  rintro e w1 ⟨ho, hb1⟩
  have HB1 : Hid (Below w.heap.size w w1) := Below.step HB0.out HB0.out.size hb1
  clear g
  rcases ho with ⟨hg, P, rfl, hroot⟩ | ⟨hg, rfl⟩
  · obtain ⟨hgp, k, vars, hp1, hp2, hw⟩ := goodS_open (fun s hs => (HST.out.1 s hs).1) hg
    have hb2 : Below w1.heap.size w1 (w1.alloc (.cells #[.int .u64 (padW st 0), .int .u64 (padW st 1), .int .u64 (padW st 2), .int .u64 (padW st 3)] 90)) := (Below.refl _ _).alloc (Nat.le_refl _) _
    have HB2 : Hid _ := HB1.out.trans (hb2.mono HB1.out.size)
    have hr2 := Rooted.old hroot hb2
    have y2 := box4_alloc w1 90 (.int .u64 (padW st 0)) (.int .u64 (padW st 1)) (.int .u64 (padW st 2)) (.int .u64 (padW st 3))
    have ht2 := HT.out.below HB2.out HT.out.some
    have HG : Hid (goodS p st = true) := hg
    have gs := isStart_any hw p hp1 hp2 (ns_pos HOK.out.2.2.1) P _ ht2 hr2
    unfold aggS at *
    obtain ⟨q0, q1, q2, q3⟩ := y2.cells
    have qh := y2.heap
    have ql := y2.lt
    clear hroot hb1 hb2 hr2 y2 ht2 hg hgp hw hp1 hp2 HT HOK HST
    have hR : startP p st = holdsL p.1 p.2.2.1 st := by
      unfold startP
      rw [HG.out, Bool.true_and]
    have HE : Hid (Value.tuple #[.bool (startP p st), .bool (goodS p st)] = .tuple #[.bool (holdsL p.1 p.2.2.1 st), .bool true]) := by
      show Value.tuple #[.bool (startP p st), .bool (goodS p st)] = .tuple #[.bool (holdsL p.1 p.2.2.1 st), .bool true]
      rw [HG.out, hR]
    clear hR
    generalize holdsL p.1 p.2.2.1 st = V at *
    generalize padW st 0 = x0 at *
    generalize padW st 1 = x1 at *
    generalize padW st 2 = x2 at *
    generalize padW st 3 = x3 at *
    go_wp2_with fail
    refine gs.mono ?_
    rintro e w3 ⟨rfl, hs3⟩
    have HB3 : Hid (Below w.heap.size w w3) := HB2.out.trans (hs3.mono HB2.out.size)
    clear gs hs3
    go_wp2_with fail
    go_ret2
    exact ⟨by rw [HE.out]; rfl, HB3.out⟩
  · have hR : startP p st = false := by
      unfold startP
      rw [hg, Bool.false_and]
    have HE : Hid (Value.tuple #[.bool (startP p st), .bool (goodS p st)] = .tuple #[.bool false, .bool false]) := by
      show Value.tuple #[.bool (startP p st), .bool (goodS p st)] = .tuple #[.bool false, .bool false]
      rw [hg, hR]
    clear hR hg hb1 HT HOK HST
    go_wp2_with fail
    go_ret2
    exact ⟨by rw [HE.out]; rfl, HB1.out.alloc HB1.out.size _⟩
set_option maxRecDepth 100000 in
set_option maxHeartbeats 2000000 in
theorem iStateNo_any (v sv : Value) (p : Pg) (ok : PgOk p) (st : List Int) (hst : WsOk st) (w : World) (hT : Tab w) (h : AtProg w v p) (hs : StAt w sv st) :
    Calls Tryd.prog 38 #[v, sv] w fun e w' => e = .returned (.tuple #[.int .i64 (noP p st), .bool (smallP p && stateP p st)]) ∧ Below w.heap.size w w' := by
  obtain ⟨sa, sn, sc, ca, cn, cc, rfl⟩ := h.shape
  have HB0 : Hid (Below w.heap.size w (w.alloc (.cells #[.int .i64 p.1, .int .i64 p.2.1, .slice sa sn sc, .slice ca cn cc] 27))) := (Below.refl _ _).alloc (Nat.le_refl _) _
  have g := rootsWith_any _ sv p ok st hst.1 hst.2 _ (hT.below HB0.out hT.some) (h.below HB0.out) (hs.below HB0.out)
  obtain ⟨ua, uc, rfl⟩ := hs.shape
  have h4 : (Tryd.prog.info? 90).map (·.size) = some 4 := by kernel_rfl
  have HT : Hid (Tab w) := hT
  have HOK : Hid (PgOk p) := ok
  have HST : Hid (WsOk st) := hst
  clear h hs hT ok hst
  go_enter Tryd.func38, Tryd.ntmps38
  go_wp2_with fail
  refine g.mono ?_
  generalize w.alloc (.cells #[.int .i64 p.1, .int .i64 p.2.1, .slice sa sn sc, .slice ca cn cc] 27) = w0 at *
  rintro e w1 ⟨ho, hb1⟩
  have HB1 : Hid (Below w.heap.size w w1) := Below.step HB0.out HB0.out.size hb1
  clear g
  rcases ho with ⟨hg, P, rfl, hroot⟩ | ⟨hg, rfl⟩
  · obtain ⟨hgp, k, vars, hp1, hp2, hw⟩ := goodS_open (fun s hs => (HST.out.1 s hs).1) hg
    have hb2 : Below w1.heap.size w1 (w1.alloc (.cells #[.int .u64 (padW st 0), .int .u64 (padW st 1), .int .u64 (padW st 2), .int .u64 (padW st 3)] 90)) := (Below.refl _ _).alloc (Nat.le_refl _) _
    have HB2 : Hid _ := HB1.out.trans (hb2.mono HB1.out.size)
    have hr2 := Rooted.old hroot hb2
    have y2 := box4_alloc w1 90 (.int .u64 (padW st 0)) (.int .u64 (padW st 1)) (.int .u64 (padW st 2)) (.int .u64 (padW st 3))
    have ht2 := HT.out.below HB2.out HT.out.some
    have HG : Hid (goodS p st = true) := hg
    have hsm : smallP p = decide (p.1 * p.2.1 ≤ 5) := by
      unfold smallP
      rw [hgp, Bool.true_and]
    have hst : stateP p st = true := by
      unfold goodS at hg
      rw [Bool.and_eq_true] at hg
      exact hg.2
    obtain ⟨_, x, y, hx2, _, _⟩ := id hr2
    rw [hp1, hp2] at hx2
    obtain ⟨hk1, hk64, hv1, hv4, _⟩ := id hw
    have hn0 : noP p st = if (smallP p && stateP p st) = true then noL p.1.toNat st else 0 := rfl
    have hkt : ((k : Int)).toNat = k := by omega
    have hE : Value.tuple #[.int .i64 (noP p st), .bool (smallP p && stateP p st)] = .tuple #[.int .i64 (if decide ((k : Int) * (vars : Int) ≤ 5) = true then noL k st else 0), .bool (decide ((k : Int) * (vars : Int) ≤ 5))] := by
      rw [hn0, hst, Bool.and_true, hsm, hp1, hp2, hkt]
    have hm0 : 0 ≤ (k : Int) * (vars : Int) := Int.mul_nonneg (by omega) (by omega)
    have hm1 : (k : Int) * (vars : Int) ≤ 64 * 4 := Int.mul_le_mul (by omega) (by omega) (by omega) (by omega)
    have gsm := small_any P k vars _ x y _ hx2 rfl hm0 (by omega)
    have HX2 : Hid _ := hx2
    have HW : Hid _ := hw
    have hk5 : (k : Int) * (vars : Int) ≤ 5 → k ≤ 5 := fun h => by
      have : (k : Int) * 1 ≤ (k : Int) * (vars : Int) := Int.mul_le_mul_of_nonneg_left (by omega) (by omega)
      omega
    have HK5 : Hid _ := hk5
    obtain ⟨M, hM⟩ : ∃ M : Int, (k : Int) * (vars : Int) = M := ⟨_, rfl⟩
    rw [hM] at gsm HK5 hm0 hm1 hE
    have HY2 : Hid _ := y2
    unfold aggS at *
    obtain ⟨q0, q1, q2, q3⟩ := y2.cells
    have qh := y2.heap
    have ql := y2.lt
    clear hroot hb1 hb2 hr2 y2 ht2 hg hgp hw hp1 hp2 HT HOK HST hsm hst hn0 hx2 hk5 hM hkt
    have HE : Hid _ := hE
    clear hE
    go_wp2_with fail
    refine gsm.mono ?_
    rintro e w3 ⟨rfl, hs3⟩
    have HB3 : Hid (Below w.heap.size w w3) := HB2.out.trans (hs3.mono HB2.out.size)
    have y3 := HY2.out.below hs3 HY2.out.lt
    have x3 := HX2.out.below hs3 HX2.out.lt
    clear gsm q0 q1 q2 q3 qh ql
    obtain ⟨q0, q1, q2, q3⟩ := y3.cells
    have qh := y3.heap
    have ql := y3.lt
    by_cases h5 : M ≤ 5
    · have gn := number_any (HK5.out h5) HW.out P x y w3 x3
      unfold aggS at gn
      rw [decide_eq_true h5, if_pos rfl] at HE
      rw [decide_eq_true h5]
      clear hs3 y3 x3
      generalize noL k st = NN at *
      go_wp2_with fail
      refine gn.mono ?_
      rintro e w4 ⟨rfl, hs4⟩
      have HB4 : Hid (Below w.heap.size w w4) := HB3.out.trans (hs4.mono HB3.out.size)
      clear gn hs4
      go_wp2_with fail
      go_ret2
      exact ⟨by rw [HE.out]; rfl, HB4.out⟩
    · rw [decide_eq_false h5, if_neg (by decide)] at HE
      rw [decide_eq_false h5]
      clear hs3 y3 x3
      go_wp2_with fail
      go_ret2
      exact ⟨by rw [HE.out]; rfl, HB3.out⟩
  · have hR : (smallP p && stateP p st) = false := by
      unfold goodS at hg
      cases hgp : goodP p with
      | false =>
        unfold smallP
        rw [hgp, Bool.false_and, Bool.false_and]
      | true =>
        rw [hgp, Bool.true_and] at hg
        rw [hg, Bool.and_false]
    have hn0 : noP p st = if (smallP p && stateP p st) = true then noL p.1.toNat st else 0 := rfl
    have HE : Hid (Value.tuple #[.int .i64 (noP p st), .bool (smallP p && stateP p st)] = .tuple #[.int .i64 0, .bool false]) := by
      show Value.tuple #[.int .i64 (noP p st), .bool (smallP p && stateP p st)] = .tuple #[.int .i64 0, .bool false]
      rw [hn0, hR, if_neg (by decide)]
    clear hR hg hb1 HT HOK HST hn0
    go_wp2_with fail
    go_ret2
    exact ⟨by rw [HE.out]; rfl, HB1.out.alloc HB1.out.size _⟩
end Go.Proofs.YtjbolpfilgkbfaaDoor

namespace Go.Proofs.YtjbolpfilgkbfaaDoor
open Go Go.RowKit
open M
set_option linter.unusedVariables false

/-- rows of nodes and of changes may have changed, between two blocks; where a change's nodes lie has not -/
structure PTouch (lo hi : Nat) (w w' : World) : Prop where
  os : w'.os = w.os
  tape : w'.tape = w.tape
  output : w'.output = w.output
  size : w.heap.size ≤ w'.heap.size
  block : ∀ i, i < w.heap.size → w'.heap[i]? = w.heap[i]? ∨ (lo ≤ i ∧ i < hi ∧ ∃ (cs cs' : Array Value) (e : TypeId), w.heap[i]? = some (.cells cs e (0, 0)) ∧ w'.heap[i]? = some (.cells cs' e (0, 0)) ∧ cs'.size = cs.size ∧ (e = 159 ∨ (e = 122 ∧ ∀ j : Nat, cs'[j * 2 + 1]? = cs[j * 2 + 1]?)))
theorem PTouch.refl (lo hi : Nat) (w : World) : PTouch lo hi w w := ⟨rfl, rfl, rfl, Nat.le_refl _, fun _ _ => Or.inl rfl⟩
theorem PTouch.trans {lo hi : Nat} {u v w : World} (h : PTouch lo hi u v) (k : PTouch lo hi v w) : PTouch lo hi u w := by
  refine ⟨k.os.trans h.os, k.tape.trans h.tape, k.output.trans h.output, Nat.le_trans h.size k.size, fun i hi' => ?_⟩
  rcases h.block i hi' with e1 | ⟨h1, h2, cs, cs', e, a1, a2, a3, a4⟩
  · rcases k.block i (Nat.lt_of_lt_of_le hi' h.size) with e2 | ⟨k1, k2, ds, ds', f, b1, b2, b3, b4⟩
    · exact Or.inl (e2.trans e1)
    · exact Or.inr ⟨k1, k2, ds, ds', f, by rw [← e1]; exact b1, b2, b3, b4⟩
  · rcases k.block i (Nat.lt_of_lt_of_le hi' h.size) with e2 | ⟨k1, k2, ds, ds', f, b1, b2, b3, b4⟩
    · exact Or.inr ⟨h1, h2, cs, cs', e, a1, by rw [e2]; exact a2, a3, a4⟩
    · rw [a2] at b1
      have b1 := Option.some.inj b1
      injection b1 with c1 c2 c3
      subst c1 c2
      refine Or.inr ⟨h1, h2, cs, ds', e, a1, b2, b3.trans a3, ?_⟩
      rcases a4 with a4 | ⟨a4, a5⟩
      · exact Or.inl a4
      · rcases b4 with b4 | ⟨_, b5⟩
        · exact Or.inl b4
        · exact Or.inr ⟨a4, fun j => (b5 j).trans (a5 j)⟩
theorem PTouch.touch {lo hi : Nat} {w w' : World} (h : PTouch lo hi w w') : Touch lo hi w w' :=
  ⟨h.os, h.tape, h.output, h.size, fun i hi' hr => by
    rcases h.block i hi' with e | ⟨h1, h2, _⟩
    · exact e
    · omega⟩
/-- a row of nodes of that many, whatever they are -/
def NRow (w : World) (lo hi : Nat) (v : Value) (n : Nat) : Prop := ∃ xs, RowIn w lo hi 159 2 v n xs
theorem NRow.touched {w w' : World} {lo hi : Nat} {v : Value} {n : Nat} (h : NRow w lo hi v n) (k : PTouch lo hi w w') : NRow w' lo hi v n := by
  obtain ⟨xs, ⟨h1, h2⟩, h3, h4⟩ := h
  have h5 := Nat.le_trans h4 k.size
  rcases h2 with h2 | ⟨g, cap, cur, hv, hB, hh, q1, q2, q3, q4⟩
  · exact ⟨xs, ⟨h1, Or.inl h2⟩, h3, h5⟩
  · have hlt := (Array.getElem?_eq_some_iff.1 hh).1
    rcases k.block g hlt with e | ⟨_, _, cs, cs', e, a1, a2, a3, _⟩
    · exact ⟨xs, ⟨h1, Or.inr ⟨g, cap, cur, hv, hB, by rw [e]; exact hh, q1, q2, q3, q4⟩⟩, h3, h5⟩
    · rw [hh] at a1
      have a1 := Option.some.inj a1
      injection a1 with c1 c2 c3
      subst c1 c2
      refine ⟨cs'.toList.take (n * 2), ⟨?_, Or.inr ⟨g, cap, cs', hv, hB, a2, q1, q2, by rw [a3]; exact q3, rfl⟩⟩, h3, h5⟩
      rw [List.length_take, Array.length_toList, a3, q3]
      have : n * 2 ≤ cap * 2 := Nat.mul_le_mul_right 2 q1
      omega
theorem ptouch_row {w w' : World} {lo hi : Nat} {v : Value} {n : Nat} {xs ys : List Value} (h : RowIn w lo hi 159 2 v n xs) (h' : w'.ownsRow lo 159 2 v n ys) (g : w.grownBy w' v.ownBlock) : PTouch lo hi w w' := by
  refine ⟨g.os, g.tape, g.output, g.size, fun i hi' => ?_⟩
  by_cases e : some i = v.ownBlock
  · obtain ⟨⟨h1, h2⟩, h3, h4⟩ := h
    rcases h2 with ⟨rfl, _⟩ | ⟨b, cap, cur, rfl, hB, hh, q1, q2, q3, q4⟩
    · simp [Value.ownBlock] at e
    · have e2 : i = b := by simpa [Value.ownBlock] using e
      subst e2
      rcases h'.2 with ⟨e3, _⟩ | ⟨b', cap', cur', e3, hB', hh', r1, r2, r3, r4⟩
      · cases e3
      · injection e3 with e4 e5 e6
        injection e4 with e4
        injection e4 with e4
        subst e4 e6
        exact Or.inr ⟨hB, h3 _ rfl, cur, cur', _, hh, hh', by rw [q3, r3], Or.inl rfl⟩
  · exact Or.inl (g.block i hi' e)
theorem markNodes_weak (v : Value) (n : Nat) (lo hi : Nat) (k : Int) (hn : n ≤ 1048576) (hk0 : 0 ≤ k) (hk : k ≤ 200000000000) (w : World) (h : NRow w lo hi v n) :
    Calls Tryd.prog 98 #[v, .int .i64 k] w fun e w' => e = .returned (.int .i64 (k + 2 * n)) ∧ PTouch lo hi w w' := by
  obtain ⟨xs, hx⟩ := h
  refine (markNodeS_any v lo n _ xs k (by omega) hk0 (by omega) w hx.1).mono ?_
  rintro e w' ⟨he, ho, hg⟩
  exact ⟨he, ptouch_row hx ho hg⟩
/-- a row of changes, whatever they are, with rows of nodes of that many -/
def ChRow (w : World) (lo hi : Nat) (v : Value) (cs : List Ch) : Prop :=
  (cs = [] ∧ v = .slice none 0 0) ∨ ∃ (g cap : Nat) (cur : Array Value), v = .slice (some ⟨g, 0, none⟩) cs.length cap ∧ lo ≤ g ∧ g < hi ∧ w.heap[g]? = some (.cells cur 122 (0, 0)) ∧ cs.length * 2 ≤ cur.size ∧ ∀ (i : Nat) (c : Ch), cs[i]? = some c → ∃ y, cur[i * 2 + 1]? = some y ∧ NRow w lo hi y c.2.length
theorem ChRow.touched {w w' : World} {lo hi : Nat} {v : Value} {cs : List Ch} (h : ChRow w lo hi v cs) (k : PTouch lo hi w w') : ChRow w' lo hi v cs := by
  rcases h with h | ⟨g, cap, cur, hv, hB, hi', hh, hl, hc⟩
  · exact Or.inl h
  · have hlt := (Array.getElem?_eq_some_iff.1 hh).1
    rcases k.block g hlt with e | ⟨_, _, ds, ds', e, a1, a2, a3, a4⟩
    · refine Or.inr ⟨g, cap, cur, hv, hB, hi', by rw [e]; exact hh, hl, fun i c hi2 => ?_⟩
      obtain ⟨y, y1, y2⟩ := hc i c hi2
      exact ⟨y, y1, y2.touched k⟩
    · rw [hh] at a1
      have a1 := Option.some.inj a1
      injection a1 with c1 c2 c3
      subst c1 c2
      have a5 : ∀ j : Nat, ds'[j * 2 + 1]? = cur[j * 2 + 1]? := by
        rcases a4 with a4 | ⟨_, a4⟩
        · exact absurd a4 (by decide)
        · exact a4
      refine Or.inr ⟨g, cap, ds', hv, hB, hi', a2, by rw [a3]; exact hl, fun i c hi2 => ?_⟩
      obtain ⟨y, y1, y2⟩ := hc i c hi2
      exact ⟨y, by rw [a5]; exact y1, y2.touched k⟩
def CmRow (w : World) (lo hi : Nat) (v : Value) (cs : List Cm) : Prop :=
  (cs = [] ∧ v = .slice none 0 0) ∨ ∃ (g cap : Nat) (cur : Array Value), v = .slice (some ⟨g, 0, none⟩) cs.length cap ∧ lo ≤ g ∧ g < hi ∧ w.heap[g]? = some (.cells cur 102 (0, 0)) ∧ cs.length * 2 ≤ cur.size ∧ ∀ (i : Nat) (c : Cm), cs[i]? = some c → ∃ x y, cur[i * 2]? = some x ∧ cur[i * 2 + 1]? = some y ∧ NRow w lo hi x c.1.length ∧ ChRow w lo hi y c.2
theorem CmRow.touched {w w' : World} {lo hi : Nat} {v : Value} {cs : List Cm} (h : CmRow w lo hi v cs) (k : PTouch lo hi w w') : CmRow w' lo hi v cs := by
  rcases h with h | ⟨g, cap, cur, hv, hB, hi', hh, hl, hc⟩
  · exact Or.inl h
  · have hlt := (Array.getElem?_eq_some_iff.1 hh).1
    rcases k.block g hlt with e | ⟨_, _, ds, ds', e, a1, a2, a3, a4⟩
    · refine Or.inr ⟨g, cap, cur, hv, hB, hi', by rw [e]; exact hh, hl, fun i c hi2 => ?_⟩
      obtain ⟨x, y, x1, y1, x2, y2⟩ := hc i c hi2
      exact ⟨x, y, x1, y1, x2.touched k, y2.touched k⟩
    · rw [hh] at a1
      have a1 := Option.some.inj a1
      injection a1 with c1 c2 c3
      subst c1 c2
      rcases a4 with a4 | ⟨a4, _⟩ <;> exact absurd a4 (by decide)
theorem chRow_of {w : World} {lo hi : Nat} {v : Value} {cs : List Ch} (h : OwnPs 122 OwnChV w lo hi v cs) : ChRow w lo hi v cs := by
  obtain ⟨ps, hpl, ⟨hr, h3, h4⟩, hp⟩ := h
  have hr' := hr
  rcases hr.2 with ⟨h1, h2⟩ | ⟨g, cap, cur, rfl, hg, hh, q1, q2, q3, q4⟩
  · exact Or.inl ⟨List.length_eq_zero_iff.1 h2, h1⟩
  · have hsz : cs.length * 2 ≤ cur.size := by
      rw [q3]
      exact Nat.mul_le_mul_right 2 q1
    refine Or.inr ⟨g, cap, cur, rfl, hg, h3 g rfl, hh, hsz, fun i c hi => ?_⟩
    have hic := (List.getElem?_eq_some_iff.1 hi).1
    obtain ⟨p, hq⟩ : ∃ p, ps[i]? = some p := ⟨ps[i]'(by omega), List.getElem?_eq_getElem (by omega)⟩
    obtain ⟨f0, f1⟩ := flatP_at ps i p hq
    have hv := (hp i c p hi hq).2
    refine ⟨p.2, ?_, _, hv⟩
    have h5 := hr'.cellAt (i * 2 + 1) (by omega)
    rw [f1] at h5
    rw [← cell_heap hh]
    exact h5
theorem cmRow_of {w : World} {lo hi : Nat} {v : Value} {cs : List Cm} (h : OwnPs 102 OwnCmV w lo hi v cs) : CmRow w lo hi v cs := by
  obtain ⟨ps, hpl, ⟨hr, h3, h4⟩, hp⟩ := h
  have hr' := hr
  rcases hr.2 with ⟨h1, h2⟩ | ⟨g, cap, cur, rfl, hg, hh, q1, q2, q3, q4⟩
  · exact Or.inl ⟨List.length_eq_zero_iff.1 h2, h1⟩
  · have hsz : cs.length * 2 ≤ cur.size := by
      rw [q3]
      exact Nat.mul_le_mul_right 2 q1
    refine Or.inr ⟨g, cap, cur, rfl, hg, h3 g rfl, hh, hsz, fun i c hi => ?_⟩
    have hic := (List.getElem?_eq_some_iff.1 hi).1
    obtain ⟨p, hq⟩ : ∃ p, ps[i]? = some p := ⟨ps[i]'(by omega), List.getElem?_eq_getElem (by omega)⟩
    obtain ⟨f0, f1⟩ := flatP_at ps i p hq
    obtain ⟨hv1, hv2⟩ := hp i c p hi hq
    have h5 := hr'.cellAt (i * 2) (by omega)
    have h6 := hr'.cellAt (i * 2 + 1) (by omega)
    rw [f0] at h5
    rw [f1] at h6
    exact ⟨p.1, p.2, by rw [← cell_heap hh]; exact h5, by rw [← cell_heap hh]; exact h6, ⟨_, hv1⟩, chRow_of hv2⟩
def lenCh (c : Ch) : Nat := 1 + 2 * c.2.length
def lenChs (cs : List Ch) : Nat := sumBy lenCh cs
def lenCm (c : Cm) : Nat := 2 * c.1.length + lenChs c.2
def lenCms (cs : List Cm) : Nat := sumBy lenCm cs
def lenPg (p : Pg) : Nat := 2 * p.2.2.1.length + lenCms p.2.2.2
theorem lenChs_le : ∀ cs : List Ch, lenChs cs ≤ 2 * sChs cs
  | [] => Nat.zero_le _
  | c :: r => by
    have ih := lenChs_le r
    unfold sChs lenChs at *
    simp only [sumBy, List.length_cons, lenCh, sCh] at *
    omega
theorem lenCms_le : ∀ cs : List Cm, lenCms cs ≤ 2 * sCms cs
  | [] => Nat.zero_le _
  | c :: r => by
    have ih := lenCms_le r
    have h2 := lenChs_le c.2
    unfold sCms lenCms at *
    simp only [sumBy, List.length_cons, lenCm, sCm] at *
    omega
theorem lenPg_le (p : Pg) : lenPg p ≤ 2 * sPg p := by
  have := lenCms_le p.2.2.2
  unfold lenPg sPg
  omega
set_option maxRecDepth 100000 in
set_option maxHeartbeats 2000000 in
theorem markChanges_weak (v : Value) (cs : List Ch) (lo hi : Nat) (k : Int) (hs : sChs cs ≤ 1048576) (hk0 : 0 ≤ k) (hk : k ≤ 150000000000) (w : World) (h : ChRow w lo hi v cs) :
    Calls Tryd.prog 124 #[v, .int .i64 k] w fun e w' => e = .returned (.int .i64 (k + lenChs cs)) ∧ PTouch lo hi w w' := by
  have hle := lenChs_le cs
  have hcl : cs.length ≤ 1048576 := by unfold sChs at hs; omega
  have HR : Hid (∀ w1 : World, PTouch lo hi w w1 → ChRow w1 lo hi v cs) := fun w1 k => h.touched k
  have HM : Hid (∀ (w1 : World) (y : Value) (c : Ch) (q : Int), c ∈ cs → 0 ≤ q → q ≤ 200000000000 → NRow w1 lo hi y c.2.length → Calls Tryd.prog 98 #[y, .int .i64 q] w1 fun e w' => e = .returned (.int .i64 (q + 2 * c.2.length)) ∧ PTouch lo hi w1 w') := fun w1 y c q hc h0 h1 hr => markNodes_weak y _ lo hi q (by have := sumBy_mem sCh cs c hc; unfold sChs at hs; unfold sCh at this hs; omega) h0 h1 w1 hr
  have hlb : ∀ j : Nat, lenChs (cs.take j) ≤ lenChs cs := fun j => sumBy_take lenCh cs j
  have hsn : ∀ (j : Nat) (c : Ch), cs[j]? = some c → lenChs (cs.take (j + 1)) = lenChs (cs.take j) + (1 + 2 * c.2.length) := fun j c hc => sumBy_snoc lenCh cs j c hc
  have HLB : Hid _ := hlb
  have HSN : Hid _ := hsn
  obtain ⟨a, cap, rfl⟩ : ∃ a cap, v = .slice a cs.length cap := by
    rcases h with ⟨rfl, rfl⟩ | ⟨g, cap, _, rfl, _⟩
    · exact ⟨none, 0, rfl⟩
    · exact ⟨_, cap, rfl⟩
  clear h hlb hsn
  go_enter Tryd.func124, Tryd.ntmps124
  go_wp2_with fail
  go_loopw [1, 5] (fun m i wr => ∃ j : Nat, j ≤ cs.length ∧ i = .int .i64 j ∧ m = .int .i64 (k + lenChs (cs.take j)) ∧ Hid (PTouch lo hi w wr)) (fun _ i _ => cs.length - (intOf i).toNat)
  case atStart => exact ⟨0, by omega, rfl, by simp [lenChs, sumBy], PTouch.refl _ _ _⟩
  case round =>
    obtain ⟨j, hj, rfl, rfl, HP⟩ := hrel
    have hb := HLB.out j
    by_cases hlt : j < cs.length
    · obtain ⟨c, hc⟩ : ∃ c, cs[j]? = some c := ⟨cs[j], List.getElem?_eq_getElem hlt⟩
      have hsn := HSN.out j c hc
      have hb2 := HLB.out (j + 1)
      rcases HR.out wr HP.out with ⟨e, _⟩ | ⟨g, cap', cur, e1, hB, hi', hh, hl, hcc⟩
      · subst e
        simp at hlt
      injection e1 with e1 _ e3
      subst e1 e3
      obtain ⟨y, y1, y2⟩ := hcc j c hc
      obtain ⟨xo, x1⟩ : ∃ xo, cur[j * 2]? = some xo := ⟨_, Array.getElem?_eq_getElem (by omega)⟩
      have c0 : wr.cell? ⟨g, j * 2, none⟩ = some xo := (cell_heap hh).trans x1
      have c1 : wr.cell? ⟨g, j * 2 + 1, none⟩ = some y := (cell_heap hh).trans y1
      have f0 : wr.frozen? ⟨g, j * 2, none⟩ = false := by
        unfold World.frozen?
        simp only [hh]
        simp
      have hw0 : (wr.setCell ⟨g, j * 2, none⟩ (.int .i64 (k + lenChs (cs.take j)))).heap[g]? = some (.cells (cur.setIfInBounds (j * 2) (.int .i64 (k + lenChs (cs.take j)))) 122 (0, 0)) := heap_set hh
      have hp1 : PTouch lo hi wr (wr.setCell ⟨g, j * 2, none⟩ (.int .i64 (k + lenChs (cs.take j)))) := by
        refine ⟨rfl, rfl, rfl, by rw [size_set]; omega, fun i hi2 => ?_⟩
        by_cases e : i = g
        · subst e
          refine Or.inr ⟨hB, hi', cur, _, _, hh, hw0, by simp, Or.inr ⟨rfl, fun q => ?_⟩⟩
          rw [Array.getElem?_setIfInBounds_ne (by omega)]
        · exact Or.inl (Below.heap_setCell _ _ _ _ e)
      have hgl : g < wr.heap.size := (Array.getElem?_eq_some_iff.1 hh).1
      have c2 : (wr.setCell ⟨g, j * 2, none⟩ (.int .i64 (k + lenChs (cs.take j)))).cell? ⟨g, j * 2 + 1, none⟩ = some y := by
        rw [cell_heap hw0, Array.getElem?_setIfInBounds_ne (by omega)]
        exact y1
      have y3 := y2.touched hp1
      have gm := HM.out _ y c (k + lenChs (cs.take j) + 1) (List.mem_of_getElem? hc) (by omega) (by omega) y3
      have HP2 : Hid _ := HP.out.trans hp1
      have hfin : k + (lenChs (cs.take j) : Int) + 1 + 2 * (c.2.length : Int) = k + (lenChs (cs.take (j + 1)) : Int) := by omega
      rw [hfin] at gm
      obtain ⟨ya, yn, yc, rfl⟩ : ∃ ya yn yc, y = .slice ya yn yc := by
        obtain ⟨xs, hx⟩ := y2
        obtain ⟨a', c', e⟩ := own_shape hx.1
        exact ⟨_, _, _, e⟩
      clear hcc hh hw0 hp1 x1 y1 y2 y3 hl hsn hfin HP HR HM HLB HSN
      obtain ⟨L1, hL1⟩ : ∃ L1 : Int, k + (lenChs (cs.take (j + 1)) : Int) = L1 := ⟨_, rfl⟩
      have HL1 : Hid _ := hL1
      rw [hL1] at gm
      clear hL1
      have hq0 : 0 ≤ (lenChs (cs.take j) : Int) ∧ (lenChs (cs.take j) : Int) ≤ 4194304 := ⟨by omega, by omega⟩
      generalize (lenChs (cs.take j) : Int) = L0 at *
      obtain ⟨hq1, hq2⟩ := hq0
      go_wp2_with fail
      refine gm.mono ?_
      rintro e w2 ⟨rfl, hp2⟩
      have HP3 : Hid _ := HP2.out.trans hp2
      clear gm hp2 c0 c1 c2 f0
      go_wp2_with fail
      go_roundw
      case rel => exact ⟨j + 1, by omega, by go_num, by rw [HL1.out], HP3⟩
      case measure => simp [intOf]; omega
    · obtain rfl : j = cs.length := by omega
      rw [List.take_length] at *
      clear HR HM
      go_wp2_with fail
      go_ret
      exact ⟨rfl, HP.out⟩
set_option maxRecDepth 100000 in
set_option maxHeartbeats 2000000 in
theorem markCommands_weak (v : Value) (cs : List Cm) (lo hi : Nat) (k : Int) (hs : sCms cs ≤ 1048576) (hk0 : 0 ≤ k) (hk : k ≤ 120000000000) (w : World) (h : CmRow w lo hi v cs) :
    Calls Tryd.prog 99 #[v, .int .i64 k] w fun e w' => e = .returned (.int .i64 (k + lenCms cs)) ∧ PTouch lo hi w w' := by
  have hle := lenCms_le cs
  have hcl : cs.length ≤ 1048576 := by unfold sCms at hs; omega
  have hmem : ∀ c ∈ cs, c.1.length ≤ 1048576 ∧ sChs c.2 ≤ 1048576 := fun c hc => by
    have := sumBy_mem sCm cs c hc
    unfold sCms at hs
    unfold sCm at this hs
    omega
  have HR : Hid (∀ w1 : World, PTouch lo hi w w1 → CmRow w1 lo hi v cs) := fun w1 k => h.touched k
  have HM : Hid (∀ (w1 : World) (y : Value) (c : Cm) (q : Int), c ∈ cs → 0 ≤ q → q ≤ 150000000000 → NRow w1 lo hi y c.1.length → Calls Tryd.prog 98 #[y, .int .i64 q] w1 fun e w' => e = .returned (.int .i64 (q + 2 * c.1.length)) ∧ PTouch lo hi w1 w') := fun w1 y c q hc h0 h1 hr => markNodes_weak y _ lo hi q (hmem c hc).1 h0 (by omega) w1 hr
  have HK : Hid (∀ (w1 : World) (y : Value) (c : Cm) (q : Int), c ∈ cs → 0 ≤ q → q ≤ 150000000000 → ChRow w1 lo hi y c.2 → Calls Tryd.prog 124 #[y, .int .i64 q] w1 fun e w' => e = .returned (.int .i64 (q + lenChs c.2)) ∧ PTouch lo hi w1 w') := fun w1 y c q hc h0 h1 hr => markChanges_weak y _ lo hi q (hmem c hc).2 h0 h1 w1 hr
  have HLB : Hid (∀ j : Nat, lenCms (cs.take j) ≤ lenCms cs) := fun j => sumBy_take lenCm cs j
  have HSN : Hid (∀ (j : Nat) (c : Cm), cs[j]? = some c → lenCms (cs.take (j + 1)) = lenCms (cs.take j) + (2 * c.1.length + lenChs c.2)) := fun j c hc => sumBy_snoc lenCm cs j c hc
  obtain ⟨a, cap, rfl⟩ : ∃ a cap, v = .slice a cs.length cap := by
    rcases h with ⟨rfl, rfl⟩ | ⟨g, cap, _, rfl, _⟩
    · exact ⟨none, 0, rfl⟩
    · exact ⟨_, cap, rfl⟩
  clear h hmem
  go_enter Tryd.func99, Tryd.ntmps99
  go_wp2_with fail
  go_loopw [1, 5] (fun m i wr => ∃ j : Nat, j ≤ cs.length ∧ i = .int .i64 j ∧ m = .int .i64 (k + lenCms (cs.take j)) ∧ Hid (PTouch lo hi w wr)) (fun _ i _ => cs.length - (intOf i).toNat)
  case atStart => exact ⟨0, by omega, rfl, by simp [lenCms, sumBy], PTouch.refl _ _ _⟩
  case round =>
    obtain ⟨j, hj, rfl, rfl, HP⟩ := hrel
    have hb := HLB.out j
    by_cases hlt : j < cs.length
    · obtain ⟨c, hc⟩ : ∃ c, cs[j]? = some c := ⟨cs[j], List.getElem?_eq_getElem hlt⟩
      have hsn := HSN.out j c hc
      have hb2 := HLB.out (j + 1)
      rcases HR.out wr HP.out with ⟨e, _⟩ | ⟨g, cap', cur, e1, hB, hi', hh, hl, hcc⟩
      · subst e
        simp at hlt
      injection e1 with e1 _ e3
      subst e1 e3
      obtain ⟨x, y, x1, y1, x2, y2⟩ := hcc j c hc
      have c0 : wr.cell? ⟨g, j * 2, none⟩ = some x := (cell_heap hh).trans x1
      have c1 : wr.cell? ⟨g, j * 2 + 1, none⟩ = some y := (cell_heap hh).trans y1
      have hgl : g < wr.heap.size := (Array.getElem?_eq_some_iff.1 hh).1
      have HH : Hid (wr.heap[g]? = some (.cells cur 102 (0, 0))) := hh
      have HY1 : Hid (cur[j * 2 + 1]? = some y) := y1
      have HY2 : Hid (ChRow wr lo hi y c.2) := y2
      have HC : Hid (c ∈ cs) := List.mem_of_getElem? hc
      have g1 := HM.out _ x c (k + lenCms (cs.take j)) HC.out (by omega) (by omega) x2
      obtain ⟨xa, xn, xc, rfl⟩ : ∃ xa xn xc, x = .slice xa xn xc := by
        obtain ⟨xs, hx⟩ := x2
        obtain ⟨a', c', e⟩ := own_shape hx.1
        exact ⟨_, _, _, e⟩
      obtain ⟨ya, yn, yc, rfl⟩ : ∃ ya yn yc, y = .slice ya yn yc := by
        rcases y2 with ⟨_, rfl⟩ | ⟨_, _, _, rfl, _⟩ <;> exact ⟨_, _, _, rfl⟩
      have HQ : Hid (0 ≤ k + (lenCms (cs.take j) : Int) + 2 * (c.1.length : Int) ∧ k + (lenCms (cs.take j) : Int) + 2 * (c.1.length : Int) ≤ 150000000000) := ⟨by omega, by omega⟩
      have HF : Hid (k + (lenCms (cs.take j) : Int) + 2 * (c.1.length : Int) + (lenChs c.2 : Int) = k + (lenCms (cs.take (j + 1)) : Int)) := by
        show k + (lenCms (cs.take j) : Int) + 2 * (c.1.length : Int) + (lenChs c.2 : Int) = k + (lenCms (cs.take (j + 1)) : Int)
        omega
      clear hcc hh x1 y1 x2 y2 hl hsn HR HM HLB HSN hc
      go_wp2_with fail
      refine g1.mono ?_
      rintro e w2 ⟨rfl, hp2⟩
      have HP2 : Hid _ := HP.out.trans hp2
      have hh2 : w2.heap[g]? = some (.cells cur 102 (0, 0)) := by
        rcases hp2.block g hgl with e | ⟨_, _, ds, ds', e, a1, a2, a3, a4⟩
        · rw [e]
          exact HH.out
        · rw [HH.out] at a1
          have a1 := Option.some.inj a1
          injection a1 with c1 c2 c3
          subst c2
          rcases a4 with a4 | ⟨a4, _⟩ <;> exact absurd a4 (by decide)
      have c1' : w2.cell? ⟨g, j * 2 + 1, none⟩ = some (.slice ya yn yc) := (cell_heap hh2).trans HY1.out
      have g2 := HK.out _ _ c _ HC.out HQ.out.1 HQ.out.2 (HY2.out.touched hp2)
      rw [HF.out] at g2
      have hgl2 : g < w2.heap.size := (Array.getElem?_eq_some_iff.1 hh2).1
      clear g1 hp2 c0 c1 hh2 HP HK HH HY1 HY2 HC HQ HF
      obtain ⟨L1, hL1⟩ : ∃ L1 : Int, k + (lenCms (cs.take (j + 1)) : Int) = L1 := ⟨_, rfl⟩
      have HL1 : Hid _ := hL1
      rw [hL1] at g2
      clear hL1
      go_wp2_with fail
      refine g2.mono ?_
      rintro e w3 ⟨rfl, hp3⟩
      have HP3 : Hid _ := HP2.out.trans hp3
      clear g2 hp3 c1'
      go_wp2_with fail
      go_roundw
      case rel => exact ⟨j + 1, by omega, by go_num, by rw [HL1.out], HP3⟩
      case measure => simp [intOf]; omega
    · obtain rfl : j = cs.length := by omega
      rw [List.take_length] at *
      clear HR HM HK
      go_wp2_with fail
      go_ret
      exact ⟨rfl, HP.out⟩
/-- a program whose rows may be marked -/
def MarkProg (w : World) (lo hi : Nat) (v : Value) (p : Pg) (k : Int) : Prop := hi ≤ w.heap.size
theorem MarkProg.same {w w' : World} {lo hi : Nat} {v : Value} {p : Pg} {k : Int} (h : MarkProg w lo hi v p k) (hs : w.heap.size ≤ w'.heap.size) (hb : ∀ i, lo ≤ i → i < hi → w'.heap[i]? = w.heap[i]?) : MarkProg w' lo hi v p k := Nat.le_trans h hs
theorem MarkProg.hi {w : World} {lo hi : Nat} {v : Value} {p : Pg} {k : Int} (h : MarkProg w lo hi v p k) : hi ≤ w.heap.size := h
set_option maxRecDepth 100000 in
theorem markProgram_any (v : Value) (p : Pg) (lo hi : Nat) (k : Int) (hs : sPg p ≤ 1048576) (hk0 : 0 ≤ k) (hk : k ≤ 100000000000) (w : World) (h : OwnProg w lo hi v p) :
    Calls Tryd.prog 51 #[v, .int .i64 k] w fun e w' => e = .returned (.int .i64 (k + lenPg p)) ∧ MarkProg w' lo hi v p k ∧ Touch lo hi w w' := by
  obtain ⟨s, c, rfl, h1, h2⟩ := h
  have hsz : p.2.2.1.length ≤ 1048576 ∧ sCms p.2.2.2 ≤ 1048576 := by
    unfold sPg at hs
    omega
  have hhi := h2.hi
  obtain ⟨sa, sn, sc, rfl⟩ := h1.shape
  obtain ⟨ca, cc, rfl⟩ := h2.shape
  have hb0 : Below w.heap.size w (w.alloc (.cells #[.int .i64 p.1, .int .i64 p.2.1, .slice sa sn sc, .slice ca p.2.2.2.length cc] 27)) := (Below.refl _ _).alloc (Nat.le_refl _) _
  have x0 := box4_alloc w 27 (.int .i64 p.1) (.int .i64 p.2.1) (.slice sa sn sc) (.slice ca p.2.2.2.length cc)
  have HT0 : Hid (Touch lo hi w (w.alloc (.cells #[.int .i64 p.1, .int .i64 p.2.1, .slice sa sn sc, .slice ca p.2.2.2.length cc] 27))) := ⟨hb0.os, hb0.tape, hb0.output, hb0.size, fun i hi' _ => hb0.block i hi'⟩
  have hk1 : ∀ i, lo ≤ i → i < hi → (w.alloc (.cells #[.int .i64 p.1, .int .i64 p.2.1, .slice sa sn sc, .slice ca p.2.2.2.length cc] 27)).heap[i]? = w.heap[i]? := fun i _ hi' => hb0.block i (by omega)
  have g1 := markNodes_weak (.slice sa sn sc) p.2.2.1.length lo hi k hsz.1 hk0 (by omega) _ ⟨_, RowIn.same h1 hb0.size hk1⟩
  have HC : Hid (CmRow (w.alloc (.cells #[.int .i64 p.1, .int .i64 p.2.1, .slice sa sn sc, .slice ca p.2.2.2.length cc] 27)) lo hi (.slice ca p.2.2.2.length cc) p.2.2.2) := cmRow_of (h2.frame ownCmV_frame hb0.size hk1 (Nat.le_refl _) (Nat.le_refl _) (Nat.le_trans hhi hb0.size))
  have HK : Hid (∀ w1 : World, CmRow w1 lo hi (.slice ca p.2.2.2.length cc) p.2.2.2 → Calls Tryd.prog 99 #[.slice ca p.2.2.2.length cc, .int .i64 (k + 2 * p.2.2.1.length)] w1 fun e w' => e = .returned (.int .i64 (k + lenPg p)) ∧ PTouch lo hi w1 w') := fun w1 hr => by
    have g := markCommands_weak _ p.2.2.2 lo hi (k + 2 * p.2.2.1.length) hsz.2 (by omega) (by omega) w1 hr
    rw [show k + 2 * (p.2.2.1.length : Int) + (lenCms p.2.2.2 : Int) = k + (lenPg p : Int) from by unfold lenPg; omega] at g
    exact g
  have HX0 : Hid _ := x0
  clear h1 h2 hb0 x0 hk1 hsz hs
  generalize (lenPg p : Int) = LP at *
  generalize hcs : p.2.2.2 = cs at *
  generalize p.2.2.1.length = nl at *
  generalize p.1 = pw at *
  generalize p.2.1 = pv at *
  go_enter Tryd.func51, Tryd.ntmps51
  go_wp2_with fail
  refine g1.mono ?_
  generalize w.alloc (.cells #[.int .i64 pw, .int .i64 pv, .slice sa sn sc, .slice ca cs.length cc] 27) = w0 at *
  rintro e w1 ⟨rfl, hp1⟩
  have x1 : Box4 w1 w.heap.size 27 (.int .i64 pw) (.int .i64 pv) (.slice sa sn sc) (.slice ca cs.length cc) := ⟨by rw [hp1.touch.block _ HX0.out.lt (Or.inr hhi)]; exact HX0.out.heap⟩
  have g2 := HK.out w1 (HC.out.touched hp1)
  have HT1 : Hid _ := HT0.out.trans hp1.touch
  obtain ⟨a0, a1, a2, a3⟩ := x1.cells
  have ah := x1.heap
  have al := x1.lt
  clear g1 hp1 x1 HX0 HK HC HT0
  go_wp2_with fail
  refine g2.mono ?_
  rintro e w2 ⟨rfl, hp2⟩
  have HT2 : Hid _ := HT1.out.trans hp2.touch
  clear g2 hp2 a0 a1 a2 a3 ah al
  go_wp2_with fail
  go_ret
  exact ⟨rfl, Nat.le_trans hhi HT2.out.size, HT2.out⟩
end Go.Proofs.YtjbolpfilgkbfaaDoor

namespace Go.Proofs.YtjbolpfilgkbfaaDoor
open Go Go.RowKit
open M
set_option linter.unusedVariables false

set_option maxRecDepth 100000 in
set_option maxHeartbeats 2000000 in
theorem sEnabledL_any (v sv : Value) (p : Pg) (st : List Int) (hok : WsOk st) (hgs : goodS p st = true) (w : World) (h : AtProg w v p) (hs : StAt w sv st) :
    Calls Tryd.prog 76 #[v, sv] w fun e w' => ∃ u, e = .returned u ∧ OwnInts w' w.heap.size u (enF p.1 st p.2.2.2 0) ∧ Below w.heap.size w w' := by
  have hg2 := hgs
  unfold goodS at hg2
  rw [Bool.and_eq_true] at hg2
  obtain ⟨hgp, hst⟩ := hg2
  obtain ⟨_, _, _, _, _, _, hc6, hcm0⟩ := goodP_parts hgp
  have GH0 : ∀ (w1 : World) (u : Value) (c : Cm), c ∈ p.2.2.2 → Below w.heap.size w w1 → NodesAt w1 u c.1 → Calls Tryd.prog 75 #[v, u, sv] w1 fun e w' => e = .returned (.bool (holdsL p.1 c.1 st)) ∧ Below w1.heap.size w1 w' := fun w1 u c hc hb hu => by
    have h1 := hcm0 c hc
    unfold cmB at h1
    rw [Bool.and_eq_true] at h1
    have h2 := beq_iff_eq.1 h1.1
    exact sHolds_any v u sv p c.1 st (st_ok hok) (said_of hst (by omega)) w1 (h.below hb) hu (hs.below hb)
  obtain ⟨⟨hfw0, hfw1⟩, ⟨hfv0, hfv1⟩, s, c, rfl, hns, hcm⟩ := h
  obtain ⟨sa, sc, rfl⟩ := hns.shape
  obtain ⟨ca, cc, rfl, hcc⟩ := hcm.opened
  have HCS : Hid (∀ w1 : World, Below w.heap.size w w1 → ∀ (i : Nat) (d : Cm), p.2.2.2[i]? = some d → ∃ b off : Nat, ca = some ⟨b, off, none⟩ ∧ ∃ x y : Value, w1.cell? ⟨b, off + i * 2, none⟩ = some x ∧ w1.cell? ⟨b, off + i * 2 + 1, none⟩ = some y ∧ CmV w1 d x y) := fun w1 hb i d hi => by
    obtain ⟨b, off, e, hlt, x, y, h3, h4, h5⟩ := hcc i d hi
    exact ⟨b, off, e, x, y, by rw [hb.cell (p := ⟨b, off + i * 2, none⟩) hlt]; exact h3, by rw [hb.cell (p := ⟨b, off + i * 2 + 1, none⟩) hlt]; exact h4, cmV_frame _ _ _ _ _ h5 hb⟩
  have GH : Hid _ := GH0
  obtain ⟨ua, uc, rfl⟩ := hs.shape
  have HB0 : Hid (Below w.heap.size w (w.alloc (.cells #[.int .i64 p.1, .int .i64 p.2.1, .slice sa p.2.2.1.length sc, .slice ca p.2.2.2.length cc] 27))) := (Below.refl _ _).alloc (Nat.le_refl _) _
  have x0 := box4_alloc w 27 (.int .i64 p.1) (.int .i64 p.2.1) (.slice sa p.2.2.1.length sc) (.slice ca p.2.2.2.length cc)
  have HXP : Hid (∀ w3, Below (w.heap.size + 1) (w.alloc (.cells #[.int .i64 p.1, .int .i64 p.2.1, .slice sa p.2.2.1.length sc, .slice ca p.2.2.2.length cc] 27)) w3 → Box4 w3 w.heap.size 27 (.int .i64 p.1) (.int .i64 p.2.1) (.slice sa p.2.2.1.length sc) (.slice ca p.2.2.2.length cc)) := fun w3 hb3 => x0.below hb3 (by omega)
  have HBX0 : Hid (Below (w.heap.size + 1) (w.alloc (.cells #[.int .i64 p.1, .int .i64 p.2.1, .slice sa p.2.2.1.length sc, .slice ca p.2.2.2.length cc] 27)) (w.alloc (.cells #[.int .i64 p.1, .int .i64 p.2.1, .slice sa p.2.2.1.length sc, .slice ca p.2.2.2.length cc] 27))) := Below.refl _ _
  have hw0z : (w.alloc (.cells #[.int .i64 p.1, .int .i64 p.2.1, .slice sa p.2.2.1.length sc, .slice ca p.2.2.2.length cc] 27)).heap.size = w.heap.size + 1 := World.size_alloc _ _
  obtain ⟨a0, a1, a2, a3⟩ := x0.cells
  have ah := x0.heap
  have al := x0.lt
  obtain ⟨i0, hi, hz0, hz1, hz2⟩ := info_parts infoInt
  clear hcc hcm hns hs hok hgs hst hgp hcm0 GH0 x0
  generalize hcs : p.2.2.2 = cs at *
  generalize p.2.2.1.length = sn at *
  generalize st.length = n at *
  generalize p.1 = pw at *
  generalize p.2.1 = pv at *
  clear hcs
  go_enter Tryd.func76, Tryd.ntmps76
  go_wp2_with fail
  generalize w.alloc (.cells #[.int .i64 pw, .int .i64 pv, .slice sa sn sc, .slice ca cs.length cc] 27) = w0 at *
  go_loopw [5, 11] (fun v i wr => ∃ j : Nat, j ≤ cs.length ∧ i = .int .i64 j ∧ Hid (OwnInts wr (w.heap.size + 1) v (enF pw st (cs.take j) 0)) ∧ Hid (Below w.heap.size w wr) ∧ Hid (Below (w.heap.size + 1) w0 wr)) (fun _ i _ => cs.length - (intOf i).toNat)
  case atStart => exact ⟨0, by omega, rfl, World.ownsRow_nil _ _ _ _, HB0, HBX0⟩
  case round =>
    obtain ⟨j, hj, rfl, HO, HB, HBX⟩ := hrel
    clear HB0 HBX0 a0 a1 a2 a3 ah al
    by_cases hlt : j < cs.length
    · obtain ⟨d, hd⟩ : ∃ d, cs[j]? = some d := ⟨cs[j], List.getElem?_eq_getElem hlt⟩
      obtain ⟨b, off, rfl, x, y, cx, cy, hV⟩ := HCS.out wr HB.out j d hd
      have HD : Hid (cs[j]? = some d) := hd
      have hal := (Below.refl wr.heap.size wr).alloc (Nat.le_refl _) (.cells #[x, y] 102)
      have HB3 : Hid (Below w.heap.size w (wr.alloc (.cells #[x, y] 102))) := HB.out.alloc HB.out.size _
      have HBX3 : Hid (Below (w.heap.size + 1) w0 (wr.alloc (.cells #[x, y] 102))) := HBX.out.alloc (by have := HBX.out.size; omega) _
      have g := GH.out _ x d (List.mem_of_getElem? hd) HB3.out (hV.1.below hal)
      obtain ⟨a0, a1, a2, a3⟩ := (HXP.out _ HBX3.out).cells
      have ah := (HXP.out _ HBX3.out).heap
      have al := (HXP.out _ HBX3.out).lt
      obtain ⟨hV1, hV2⟩ := hV
      obtain ⟨xa, xc, rfl⟩ := hV1.shape
      obtain ⟨ya, yc, rfl⟩ := hV2.shape
      generalize hxn : d.1.length = xn at *
      generalize hyn : d.2.length = yn at *
      have HO3 : Hid (OwnInts (wr.alloc (.cells #[.slice xa xn xc, .slice ya yn yc] 102)) (w.heap.size + 1) u5 (enF pw st (cs.take j) 0)) := World.ownsRow.alloc HO.out _
      have hle : (enF pw st (cs.take j) 0).length ≤ 6 := Nat.le_trans (enF_len pw st _ 0) (by rw [List.length_take]; omega)
      have hszw := HB.out.size
      clear hV1 hV2 hal hd HCS GH HXP HB HBX HO hxn hyn
      cases hp : holdsL pw d.1 st with
      | false =>
        rw [hp] at g
        have HE : Hid (enF pw st (cs.take (j + 1)) 0 = enF pw st (cs.take j) 0) := enF_no HD.out hp
        clear hp HD
        go_wp2_with fail
        refine g.mono ?_
        rintro e w4 ⟨rfl, hs⟩
        have HB4 : Hid (Below w.heap.size w w4) := HB3.out.trans (hs.mono HB3.out.size)
        have HBX4 : Hid (Below (w.heap.size + 1) w0 w4) := HBX3.out.trans (hs.mono (by have := HBX3.out.size; omega))
        have HO4 : Hid (OwnInts w4 (w.heap.size + 1) u5 (enF pw st (cs.take (j + 1)) 0)) := by
          show OwnInts _ _ _ _
          rw [HE.out]
          exact owns_below HO3.out hs
        clear g hs a0 a1 a2 a3 ah al
        go_wp2_with fail
        go_roundw
        case rel => exact ⟨j + 1, by omega, by go_num, HO4, HB4, HBX4⟩
        case measure => simp [intOf]; omega
      | true =>
        rw [hp] at g
        have HE : Hid (enF pw st (cs.take (j + 1)) 0 = enF pw st (cs.take j) 0 ++ [(j : Int)]) := enF_yes HD.out hp
        clear hp HD
        go_wp2_with fail
        refine g.mono ?_
        rintro e w4 ⟨rfl, hs⟩
        have HB4 : Hid (Below w.heap.size w w4) := HB3.out.trans (hs.mono HB3.out.size)
        have HBX4 : Hid (Below (w.heap.size + 1) w0 w4) := HBX3.out.trans (hs.mono (by have := HBX3.out.size; omega))
        have HO4 : Hid (OwnInts w4 (w.heap.size + 1) u5 (enF pw st (cs.take j) 0)) := owns_below HO3.out hs
        have own1 : (w4.alloc (.cells #[.int .i64 j] 3)).ownsRow (w.heap.size + 1) 3 1 u5 (enF pw st (cs.take j) 0).length ((enF pw st (cs.take j) 0).map (Value.int .i64)) := World.ownsRow.alloc HO4.out _
        have cellsN := oneI_cells w4 j
        have hsz4 := HB4.out.size
        have hszx := HBX4.out.size
        clear g hs a0 a1 a2 a3 ah al
        generalize enF pw st (cs.take j) 0 = R at *
        go_wp2_with (at_builtin; refine wpList_append_own _ rfl _ _ 29 rfl (w.heap.size + 1) 3 i0 (.int .i64 0) 1 8 Tryd.underlying29 hi hz0 hz1 hz2 rfl (by decide) _ _ _ rfl own1 ⟨w4.heap.size, 0, none⟩ 1 1 [.int .i64 j] rfl rfl cellsN (ints_one [(j : Int)]) (by unfold maxLen; omega) (by omega) (by simp; omega) ?_)
        intro v7 w7 own7 grow7 _
        have HB7 : Hid (Below w.heap.size w w7) := (HB4.out.alloc HB4.out.size _).grown grow7 (by simp; omega) (fun k hk => by have := (HO4.out.lt k hk).1; omega)
        have HBX7 : Hid (Below (w.heap.size + 1) w0 w7) := (HBX4.out.alloc (by omega) _).grown grow7 (by simp; omega) (fun k hk => (HO4.out.lt k hk).1)
        have HO7 : Hid (OwnInts w7 (w.heap.size + 1) v7 (enF pw st (cs.take (j + 1)) 0)) := by
          show OwnInts _ _ _ _
          rw [HE.out]
          unfold OwnInts
          rw [List.map_append, List.length_append]
          exact own7
        clear own1 own7 grow7 cellsN
        go_wp2_with fail
        go_roundw
        case rel => exact ⟨j + 1, by omega, by go_num, HO7, HB7, HBX7⟩
        case measure => simp [intOf]; omega
    · obtain rfl : j = cs.length := by omega
      have HO2 : Hid (OwnInts wr (w.heap.size + 1) u5 (enF pw st cs 0)) := by
        have h1 := HO.out
        rw [List.take_length] at h1
        exact h1
      clear HO HCS GH HXP
      go_wp2_with fail
      go_ret
      exact ⟨_, rfl, own_weaken HO2.out (Nat.le_succ _), HB.out⟩
end Go.Proofs.YtjbolpfilgkbfaaDoor

namespace Go.Proofs.YtjbolpfilgkbfaaDoor
open Go Go.RowKit
open M
set_option linter.unusedVariables false

theorem ownIS_nil (w : World) (lo : Nat) (h : lo ≤ w.heap.size) : OwnIS w lo w.heap.size (.slice none 0 0) [] := rowIn_of (World.ownsRow_nil _ _ _ _)
set_option maxRecDepth 100000 in
set_option maxHeartbeats 2000000 in
theorem sEnabled_any (v sv : Value) (p : Pg) (st : List Int) (hok : WsOk st) (w : World) (h : AtProg w v p) (hs : StAt w sv st) :
    Calls Tryd.prog 29 #[v, sv] w fun e w' => ∃ r0, e = .returned (.tuple #[r0, .bool (goodS p st)]) ∧ OwnIS w' w.heap.size w'.heap.size r0 (enP p st) ∧ Below w.heap.size w w' := by
  have HS : Hid (∀ w1 : World, Below w.heap.size w w1 → Calls Tryd.prog 20 #[v] w1 fun e w' => e = .returned (.bool (goodP p)) ∧ Below w1.heap.size w1 w') := fun w1 hb => sGoodProg_any v p w1 (h.below hb)
  have HT : Hid (∀ w1 : World, Below w.heap.size w w1 → Calls Tryd.prog 64 #[v, sv] w1 fun e w' => e = .returned (.bool (stateP p st)) ∧ Below w1.heap.size w1 w') := fun w1 hb => sState_any v sv p st (st_ok hok) w1 (h.below hb) (hs.below hb)
  have HN : Hid (goodP p = true → stateP p st = true → ∀ (w1 : World), Below w.heap.size w w1 → Calls Tryd.prog 76 #[v, sv] w1 fun e w' => ∃ u, e = .returned u ∧ OwnInts w' w1.heap.size u (enF p.1 st p.2.2.2 0) ∧ Below w1.heap.size w1 w') := fun h1 h2 w1 hb => sEnabledL_any v sv p st hok (by unfold goodS; rw [h1, h2]; rfl) w1 (h.below hb) (hs.below hb)
  have hn0 : enP p st = if (goodP p && stateP p st) = true then enF p.1 st p.2.2.2 0 else [] := rfl
  have hg0 : goodS p st = (goodP p && stateP p st) := rfl
  obtain ⟨sa, sn, sc, ca, cn, cc, rfl⟩ := h.shape
  have HB0 : Hid (Below w.heap.size w (w.alloc (.cells #[.int .i64 p.1, .int .i64 p.2.1, .slice sa sn sc, .slice ca cn cc] 27))) := (Below.refl _ _).alloc (Nat.le_refl _) _
  have x0 := box4_alloc w 27 (.int .i64 p.1) (.int .i64 p.2.1) (.slice sa sn sc) (.slice ca cn cc)
  have HX0 : Hid _ := x0
  obtain ⟨ua, uc, rfl⟩ := hs.shape
  rw [hn0, hg0]
  clear h hs hok x0 hn0 hg0
  generalize enF p.1 st p.2.2.2 0 = NN at *
  generalize st.length = n at *
  generalize stateP p st = B2 at *
  generalize goodP p = B1 at *
  generalize p.1 = pw at *
  generalize p.2.1 = pv at *
  cases B1 with
  | false =>
    rw [Bool.false_and, if_neg (by decide)]
    clear HN HT HX0
    go_enter Tryd.func29, Tryd.ntmps29
    go_wp2_with fail
    refine (HS.out _ HB0.out).mono ?_
    rintro e w1 ⟨rfl, hs⟩
    have HB1 : Hid (Below w.heap.size w w1) := Below.step HB0.out HB0.out.size hs
    clear hs
    go_wp2_with fail
    go_ret2
    exact ⟨_, rfl, ownIS_nil _ _ HB1.out.size, HB1.out⟩
  | true =>
    cases B2 with
    | false =>
      rw [Bool.and_false, if_neg (by decide)]
      clear HN
      go_enter Tryd.func29, Tryd.ntmps29
      go_wp2_with fail
      refine (HS.out _ HB0.out).mono ?_
      generalize w.alloc (.cells #[.int .i64 pw, .int .i64 pv, .slice sa sn sc, .slice ca cn cc] 27) = w0 at *
      rintro e w1 ⟨rfl, hs⟩
      have HB1 : Hid (Below w.heap.size w w1) := Below.step HB0.out HB0.out.size hs
      have x1 := HX0.out.below hs HX0.out.lt
      obtain ⟨a0, a1, a2, a3⟩ := x1.cells
      have ah := x1.heap
      have al := x1.lt
      clear hs x1 HX0
      go_wp2_with fail
      refine (HT.out _ HB1.out).mono ?_
      rintro e w2 ⟨rfl, hs⟩
      have HB2 : Hid (Below w.heap.size w w2) := HB1.out.trans (hs.mono HB1.out.size)
      clear hs a0 a1 a2 a3 ah al
      go_wp2_with fail
      go_ret2
      exact ⟨_, rfl, ownIS_nil _ _ HB2.out.size, HB2.out⟩
    | true =>
      rw [Bool.and_true, if_pos rfl]
      have HN2 : Hid _ := HN.out rfl rfl
      clear HN
      go_enter Tryd.func29, Tryd.ntmps29
      go_wp2_with fail
      refine (HS.out _ HB0.out).mono ?_
      generalize w.alloc (.cells #[.int .i64 pw, .int .i64 pv, .slice sa sn sc, .slice ca cn cc] 27) = w0 at *
      rintro e w1 ⟨rfl, hs⟩
      have HB1 : Hid (Below w.heap.size w w1) := Below.step HB0.out HB0.out.size hs
      have x1 := HX0.out.below hs HX0.out.lt
      have HX1 : Hid _ := x1
      obtain ⟨a0, a1, a2, a3⟩ := x1.cells
      have ah := x1.heap
      have al := x1.lt
      clear hs x1 HX0
      go_wp2_with fail
      refine (HT.out _ HB1.out).mono ?_
      rintro e w2 ⟨rfl, hs⟩
      have HB2 : Hid (Below w.heap.size w w2) := HB1.out.trans (hs.mono HB1.out.size)
      have x2 := HX1.out.below hs HX1.out.lt
      clear a0 a1 a2 a3 ah al
      obtain ⟨a0, a1, a2, a3⟩ := x2.cells
      have ah := x2.heap
      have al := x2.lt
      clear hs x2 HX1
      go_wp2_with fail
      refine (HN2.out _ HB2.out).mono ?_
      rintro e w3 ⟨u, rfl, ho, hs⟩
      have HB3 : Hid (Below w.heap.size w w3) := HB2.out.trans (hs.mono HB2.out.size)
      have HO : Hid (OwnIS w3 w.heap.size w3.heap.size u NN) := rowIn_of (own_weaken ho HB2.out.size)
      clear ho hs a0 a1 a2 a3 ah al
      go_wp2_with fail
      go_ret2
      exact ⟨_, rfl, HO.out, HB3.out⟩
end Go.Proofs.YtjbolpfilgkbfaaDoor

namespace Go.Proofs.YtjbolpfilgkbfaaDoor
open Go Go.RowKit
open M
set_option linter.unusedVariables false

theorem CrAt.shape {w : World} {S : Nat → Prop} {wide vars : Int} {v : Value} {cs : List Ch} (h : CrAt w S wide vars v cs) : ∃ a n c, v = .slice a n c := by
  rcases h with ⟨_, rfl⟩ | ⟨g, cap, rfl, _⟩ <;> exact ⟨_, _, _, rfl⟩
set_option maxRecDepth 100000 in
set_option maxHeartbeats 2000000 in
theorem enabledIn_any {k vars : Nat} {st : List Int} (hw : WordsIn k vars st) (p : Pg) (hp1 : p.1 = k) (hp2 : p.2.1 = vars) (hpos : ∀ c ∈ p.2.2.2, ∀ x ∈ c.1, 0 ≤ x.2) (hc1 : 1 ≤ p.2.2.2.length) (hc6 : p.2.2.2.length ≤ 6) (P : Nat) (w : World) (hT : Tab w) (hR : Rooted w (Old w) p P) :
    Calls Tryd.prog 69 #[ptr P, aggS st] w fun e w' => ∃ u, e = .returned u ∧ OwnInts w' w.heap.size u (enF p.1 st p.2.2.2 0) ∧ Below w.heap.size w w' := by
  unfold aggS
  have hb0 : Below w.heap.size w (w.alloc (.cells #[.int .u64 (padW st 0), .int .u64 (padW st 1), .int .u64 (padW st 2), .int .u64 (padW st 3)] 90)) := (Below.refl _ _).alloc (Nat.le_refl _) _
  have HB0 : Hid _ := hb0
  have y0 := box4_alloc w 90 (.int .u64 (padW st 0)) (.int .u64 (padW st 1)) (.int .u64 (padW st 2)) (.int .u64 (padW st 3))
  obtain ⟨_, x, y, hx0, _, hcm⟩ := hR
  have GH : Hid (∀ (w1 : World) (z : Value) (c : Cm), c ∈ p.2.2.2 → Below w.heap.size w w1 → RtAt w1 (Old w1) p.1 p.2.1 2 c.1 z → Calls Tryd.prog 107 #[ptr P, z, .agg #[.int .u64 (padW st 0), .int .u64 (padW st 1), .int .u64 (padW st 2), .int .u64 (padW st 3)]] w1 fun e w' => e = .returned (.bool (holdsL p.1 c.1 st)) ∧ Below w1.heap.size w1 w') := fun w1 z c hc hb hz => by
    have hx1 := hx0.below hb hx0.lt
    rw [hp1, hp2] at hx1 hz
    rw [hp1]
    exact holds_any (hpos c hc) hw P x y z w1 (hT.below hb hT.some) hx1 hz
  have hcs : ∀ w1 : World, Below w.heap.size w w1 → CmrAt w1 (Old w1) p.1 p.2.1 y p.2.2.2 := fun w1 hb => hcm.frame hb.size (fun i hi => Nat.lt_of_lt_of_le hi hb.size) (fun i hi => hb.block i hi)
  obtain ⟨g, cap, rfl⟩ : ∃ g cap, y = .slice (some ⟨g, 0, none⟩) p.2.2.2.length cap := by
    rcases hcm with ⟨e, _⟩ | ⟨g, cap, e, _⟩
    · rw [e] at hc1
      simp at hc1
    · exact ⟨g, cap, e⟩
  have HCS : Hid (∀ w1 : World, Below w.heap.size w w1 → ∀ (i : Nat) (d : Cm), p.2.2.2[i]? = some d → ∃ x y : Value, w1.cell? ⟨g, i * 2, none⟩ = some x ∧ w1.cell? ⟨g, i * 2 + 1, none⟩ = some y ∧ CmEl w1 (Old w1) p.1 p.2.1 d x y) := fun w1 hb i d hi => by
    rcases hcs w1 hb with ⟨e, _⟩ | ⟨g', cap', e, _, _, hc⟩
    · rw [e] at hi
      simp at hi
    · injection e with e1 _ _
      injection e1 with e1
      injection e1 with e1
      subst e1
      exact hc i d hi
  have HXP : Hid (∀ w3, Below (w.heap.size + 1) (w.alloc (.cells #[.int .u64 (padW st 0), .int .u64 (padW st 1), .int .u64 (padW st 2), .int .u64 (padW st 3)] 90)) w3 → Box4 w3 w.heap.size 90 (.int .u64 (padW st 0)) (.int .u64 (padW st 1)) (.int .u64 (padW st 2)) (.int .u64 (padW st 3))) := fun w3 hb3 => y0.below hb3 (by omega)
  have HBX0 : Hid (Below (w.heap.size + 1) (w.alloc (.cells #[.int .u64 (padW st 0), .int .u64 (padW st 1), .int .u64 (padW st 2), .int .u64 (padW st 3)] 90)) (w.alloc (.cells #[.int .u64 (padW st 0), .int .u64 (padW st 1), .int .u64 (padW st 2), .int .u64 (padW st 3)] 90))) := Below.refl _ _
  have hx1 := hx0.below hb0 hx0.lt
  obtain ⟨p0, p1, p2, p3⟩ := hx1.cells
  have ph := hx1.heap
  have pl := hx1.lt
  obtain ⟨i0, hi, hz0, hz1, hz2⟩ := info_parts infoInt
  have h4 : (Tryd.prog.info? 90).map (·.size) = some 4 := by kernel_rfl
  have hw0z : (w.alloc (.cells #[.int .u64 (padW st 0), .int .u64 (padW st 1), .int .u64 (padW st 2), .int .u64 (padW st 3)] 90)).heap.size = w.heap.size + 1 := World.size_alloc _ _
  clear hx0 hx1 hcm hcs hw hT hpos y0 hb0
  generalize hcsx : p.2.2.2 = cs at *
  generalize p.1 = pw at *
  generalize p.2.1 = pv at *
  generalize padW st 0 = x0 at *
  generalize padW st 1 = x1 at *
  generalize padW st 2 = x2 at *
  generalize padW st 3 = x3 at *
  clear hcsx
  go_enter Tryd.func69, Tryd.ntmps69
  go_wp2_with fail
  generalize w.alloc (.cells #[.int .u64 x0, .int .u64 x1, .int .u64 x2, .int .u64 x3] 90) = w0 at *
  go_loopw [5, 13] (fun v i wr => ∃ j : Nat, j ≤ cs.length ∧ i = .int .i64 j ∧ Hid (OwnInts wr (w.heap.size + 1) v (enF pw st (cs.take j) 0)) ∧ Hid (Below w.heap.size w wr) ∧ Hid (Below (w.heap.size + 1) w0 wr)) (fun _ i _ => cs.length - (intOf i).toNat)
  case atStart => exact ⟨0, by omega, rfl, World.ownsRow_nil _ _ _ _, HB0, HBX0⟩
  case round =>
    obtain ⟨j, hj, rfl, HO, HB, HBX⟩ := hrel
    clear HB0 HBX0 p0 p1 p2 p3 ph pl
    by_cases hlt : j < cs.length
    · obtain ⟨d, hd⟩ : ∃ d, cs[j]? = some d := ⟨cs[j], List.getElem?_eq_getElem hlt⟩
      obtain ⟨x, y, cx, cy, hV⟩ := HCS.out wr HB.out j d hd
      have HD : Hid (cs[j]? = some d) := hd
      have hal := (Below.refl wr.heap.size wr).alloc (Nat.le_refl _) (.cells #[x, y] 108)
      have HB3 : Hid (Below w.heap.size w (wr.alloc (.cells #[x, y] 108))) := HB.out.alloc HB.out.size _
      have HBX3 : Hid (Below (w.heap.size + 1) w0 (wr.alloc (.cells #[x, y] 108))) := HBX.out.alloc (by have := HBX.out.size; omega) _
      have g := GH.out _ x d (List.mem_of_getElem? hd) HB3.out (hV.1.frame (fun i hi => Nat.lt_of_lt_of_le hi hal.size) (fun i hi => hal.block i hi))
      obtain ⟨a0, a1, a2, a3⟩ := (HXP.out _ HBX3.out).cells
      have ah := (HXP.out _ HBX3.out).heap
      have al := (HXP.out _ HBX3.out).lt
      obtain ⟨hV1, hV2⟩ := hV
      obtain ⟨_, xb, rfl, _⟩ := hV1
      obtain ⟨ya, yn, yc, rfl⟩ := hV2.shape
      have HO3 : Hid (OwnInts (wr.alloc (.cells #[ptr xb, .slice ya yn yc] 108)) (w.heap.size + 1) u5 (enF pw st (cs.take j) 0)) := World.ownsRow.alloc HO.out _
      have hle : (enF pw st (cs.take j) 0).length ≤ 6 := Nat.le_trans (enF_len pw st _ 0) (by rw [List.length_take]; omega)
      have hszw := HB.out.size
      clear hV2 hal hd HCS GH HXP HB HBX HO
      cases hp : holdsL pw d.1 st with
      | false =>
        rw [hp] at g
        have HE : Hid (enF pw st (cs.take (j + 1)) 0 = enF pw st (cs.take j) 0) := enF_no HD.out hp
        clear hp HD
        go_wp2_with fail
        refine g.mono ?_
        rintro e w4 ⟨rfl, hs⟩
        have HB4 : Hid (Below w.heap.size w w4) := HB3.out.trans (hs.mono HB3.out.size)
        have HBX4 : Hid (Below (w.heap.size + 1) w0 w4) := HBX3.out.trans (hs.mono (by have := HBX3.out.size; omega))
        have HO4 : Hid (OwnInts w4 (w.heap.size + 1) u5 (enF pw st (cs.take (j + 1)) 0)) := by
          show OwnInts _ _ _ _
          rw [HE.out]
          exact owns_below HO3.out hs
        clear g hs a0 a1 a2 a3 ah al
        go_wp2_with fail
        go_roundw
        case rel => exact ⟨j + 1, by omega, by go_num, HO4, HB4, HBX4⟩
        case measure => simp [intOf]; omega
      | true =>
        rw [hp] at g
        have HE : Hid (enF pw st (cs.take (j + 1)) 0 = enF pw st (cs.take j) 0 ++ [(j : Int)]) := enF_yes HD.out hp
        clear hp HD
        go_wp2_with fail
        refine g.mono ?_
        rintro e w4 ⟨rfl, hs⟩
        have HB4 : Hid (Below w.heap.size w w4) := HB3.out.trans (hs.mono HB3.out.size)
        have HBX4 : Hid (Below (w.heap.size + 1) w0 w4) := HBX3.out.trans (hs.mono (by have := HBX3.out.size; omega))
        have HO4 : Hid (OwnInts w4 (w.heap.size + 1) u5 (enF pw st (cs.take j) 0)) := owns_below HO3.out hs
        have own1 : (w4.alloc (.cells #[.int .i64 j] 3)).ownsRow (w.heap.size + 1) 3 1 u5 (enF pw st (cs.take j) 0).length ((enF pw st (cs.take j) 0).map (Value.int .i64)) := World.ownsRow.alloc HO4.out _
        have cellsN := oneI_cells w4 j
        have hsz4 := HB4.out.size
        have hszx := HBX4.out.size
        clear g hs a0 a1 a2 a3 ah al
        generalize enF pw st (cs.take j) 0 = R at *
        go_wp2_with (at_builtin; refine wpList_append_own _ rfl _ _ 29 rfl (w.heap.size + 1) 3 i0 (.int .i64 0) 1 8 Tryd.underlying29 hi hz0 hz1 hz2 rfl (by decide) _ _ _ rfl own1 ⟨w4.heap.size, 0, none⟩ 1 1 [.int .i64 j] rfl rfl cellsN (ints_one [(j : Int)]) (by unfold maxLen; omega) (by omega) (by simp; omega) ?_)
        intro v7 w7 own7 grow7 _
        have HB7 : Hid (Below w.heap.size w w7) := (HB4.out.alloc HB4.out.size _).grown grow7 (by simp; omega) (fun k hk => by have := (HO4.out.lt k hk).1; omega)
        have HBX7 : Hid (Below (w.heap.size + 1) w0 w7) := (HBX4.out.alloc (by omega) _).grown grow7 (by simp; omega) (fun k hk => (HO4.out.lt k hk).1)
        have HO7 : Hid (OwnInts w7 (w.heap.size + 1) v7 (enF pw st (cs.take (j + 1)) 0)) := by
          show OwnInts _ _ _ _
          rw [HE.out]
          unfold OwnInts
          rw [List.map_append, List.length_append]
          exact own7
        clear own1 own7 grow7 cellsN
        go_wp2_with fail
        go_roundw
        case rel => exact ⟨j + 1, by omega, by go_num, HO7, HB7, HBX7⟩
        case measure => simp [intOf]; omega
    · obtain rfl : j = cs.length := by omega
      have HO2 : Hid (OwnInts wr (w.heap.size + 1) u5 (enF pw st cs 0)) := by
        have h1 := HO.out
        rw [List.take_length] at h1
        exact h1
      clear HO HCS GH HXP
      go_wp2_with fail
      go_ret
      exact ⟨_, rfl, own_weaken HO2.out (Nat.le_succ _), HB.out⟩
end Go.Proofs.YtjbolpfilgkbfaaDoor
