/-
  Rows that calls within a region that draws its order have answered.
  The program's cutAt: a lasso cut out of a word.
  The program's goodLetters, GoodLasso, goodAt.
  The model's cuts of a word: l9First, l1Own.
  The model's l9Suffix.
  The program's LetterAt, UnrollOf, ifGood, TurnLoop, SuffixOf.
  The model's LetterAt, UnrollOf.
  The model's SuffixOf.
  A lasso that a call within a region has answered.
  The program's LeastLasso.
  The model's l9Same and SameWord.
-/
import Derived.Test.YthamdefkcjfjpaaLasso
import Derived.Test.YthamdefkcjfjpaaIntSS
import Derived.Test.YthamdefkcjfjpaaInv9
import Derived.Laws.Rows
import Derived.Test.YthamdefkcjfjpaaIBetw
import Derived.Test.YthamdefkcjfjpaaSLasso
import Derived.Test.YthamdefkcjfjpaaPut
import Derived.Test.YthamdefkcjfjpaaILeast2
import Derived.Test.YthamdefkcjfjpaaEqu9
namespace Go.Proofs.Ythamdefkcjfjpaa
open Go Go.RowKit
open M
set_option linter.unusedVariables false
set_option linter.unusedSimpArgs false

/-- a row that a call has answered, laid from B on -/
def Rw (B : Nat) (w : World) (s : Value) (xs : List Int) : Prop := ∃ lo hi, B ≤ lo ∧ OwnOI w lo hi s xs
/-- a second one, apart from the first -/
def Rw2 (B : Nat) (w : World) (s1 s : Value) (xs : List Int) : Prop := ∃ lo hi, B ≤ lo ∧ OwnOI w lo hi s xs ∧ Ap3 s1 s
theorem Rw.below {B : Nat} {w w' : World} {s : Value} {xs : List Int} (h : Rw B w s xs) (hb : Below w.heap.size w w') : Rw B w' s xs := by
  obtain ⟨lo, hi, h0, h1⟩ := h
  exact ⟨lo, hi, h0, OffIn.belowR h1 hb h1.1⟩
theorem Rw2.below {B : Nat} {w w' : World} {s1 s : Value} {xs : List Int} (h : Rw2 B w s1 s xs) (hb : Below w.heap.size w w') : Rw2 B w' s1 s xs := by
  obtain ⟨lo, hi, h0, h1, h2⟩ := h
  exact ⟨lo, hi, h0, OffIn.belowR h1 hb h1.1, h2⟩
theorem Rw.shape {B : Nat} {w : World} {s : Value} {xs : List Int} (h : Rw B w s xs) : ∃ a n c, s = .slice a n c := by
  obtain ⟨lo, hi, h0, h1⟩ := h
  exact h1.shape
theorem Rw2.shape {B : Nat} {w : World} {s1 s : Value} {xs : List Int} (h : Rw2 B w s1 s xs) : ∃ a n c, s = .slice a n c := by
  obtain ⟨lo, hi, h0, h1, _⟩ := h
  exact h1.shape
theorem Rw.reads {B : Nat} {w : World} {s : Value} {xs : List Int} (h : Rw B w s xs) (ok : xs.length ≤ 1048576) : IntsAt w s xs := by
  obtain ⟨lo, hi, h0, h1⟩ := h
  exact h1.reads ok
theorem Rw2.rw {B : Nat} {w : World} {s1 s : Value} {xs : List Int} (h : Rw2 B w s1 s xs) : Rw B w s xs := by
  obtain ⟨lo, hi, h0, h1, _⟩ := h
  exact ⟨lo, hi, h0, h1⟩
theorem rw_of {B : Nat} {w w' : World} {s : Value} {xs : List Int} (hB : B ≤ w.heap.size) (h : OwnOI w' w.heap.size w'.heap.size s xs) : Rw B w' s xs := ⟨_, _, hB, h⟩
theorem rw2_of {B : Nat} {w w' : World} {s1 s : Value} {xs ys : List Int} (hB : B ≤ w.heap.size) (h1 : Rw B w s1 ys) (h : OwnOI w' w.heap.size w'.heap.size s xs) : Rw2 B w' s1 s xs := by
  obtain ⟨lo, hi, h0, h2⟩ := h1
  exact ⟨_, _, hB, h, ap3_of h2 h (Or.inl h2.1)⟩
theorem own_of2 {w : World} {B : Nat} {v : Value} {t : List Int} (h : OwnInts2 w B v t) : OwnOI w B w.heap.size v t := offIn_of h
theorem ownLa_rw {B : Nat} {w : World} {g o : Value} {xs ys : List Int} (h1 : Rw B w g xs) (h2 : Rw2 B w g o ys) : OwnLa w B w.heap.size (.agg #[g, o]) (xs, ys) := by
  obtain ⟨lo, hi, a0, a1⟩ := h1
  obtain ⟨lo2, hi2, b0, b1, b2⟩ := h2
  exact ⟨g, o, rfl, OffIn.weak a1 a0 a1.1 (Nat.le_refl _), OffIn.weak b1 b0 b1.1 (Nat.le_refl _), b2⟩
theorem OwnLa.setO {w : World} {lo hi b o : Nat} {v x : Value} {l : La} (h : OwnLa w lo hi v l) (hb : b < lo ∨ hi ≤ b) : OwnLa (w.setCell ⟨b, o, none⟩ x) lo hi v l := by
  obtain ⟨g, p, hv, h1, h2, h3⟩ := h
  exact ⟨g, p, hv, OffIn.set h1 hb, OffIn.set h2 hb, h3⟩
theorem size_set (w : World) (b o : Nat) (x : Value) : (w.setCell ⟨b, o, none⟩ x).heap.size = w.heap.size := by simp [World.setCell]
def cutL (l : La) (a t r : Nat) : La := (unrL l a (t - a), unrL l t r)
theorem results_la {P : Program} {fn : Func} {p u : Tmp} {ty : TypeId} (h : fn.results = #[.cell p ty, .tmp u]) (tmps : Array Value) (w : World) (g : Nat) (t : TypeId) (cs : Array Value) (fr : Nat × Nat) (d : TypeDesc)
    (hp : tmps.getD p undef = .pointer (some ⟨g, 0, none⟩)) (hg : w.heap[g]? = some (.cells cs t fr))
    (hu : P.underlying ty = some d) (hd : (match d with | .struct _ | .array _ _ => true | _ => false) = true) (hi : (P.info? ty).map (·.size) = some cs.size) :
    (results fn tmps).run P w = .ok (.tuple #[.agg cs, tmps.getD u undef]) w := by
  have hp' : tmps[p]?.getD undef = .pointer (some ⟨g, 0, none⟩) := by simpa using hp
  simp [results, h, hp', asAddr, run_loadVar_row w g t ty cs fr d hg hu hd hi]
end Go.Proofs.Ythamdefkcjfjpaa

namespace Go.Proofs.Ythamdefkcjfjpaa
open Go Go.RowKit
open M
set_option linter.unusedVariables false
set_option linter.unusedSimpArgs false

structure RegCut (W w' : World) (B Y : Nat) (ga : Option Addr) (gn gc : Nat) (oa : Option Addr) (on oc a t r T : Nat) (xs ys : List Int) (l0 l1 l2 l3 l4 l5 l6 l7 l8 l9 l10 l11 : Bool) (s0 s1 s2 s3 s4 s5 s6 s7 s8 s9 s10 : Value) : Prop where
  (bel : l11 = false → Below W.heap.size W w')
  (all : l11 = true → l0 = true ∧ l1 = true ∧ l2 = true ∧ l3 = true ∧ l4 = true ∧ l5 = true ∧ l6 = true ∧ l7 = true ∧ l8 = true ∧ l9 = true ∧ l10 = true)
  (fin : l11 = true → ∃ w4 : World, Below W.heap.size W w4 ∧ w' = ((w4.setCell ⟨Y, 0, none⟩ s3).setCell ⟨Y, 1, none⟩ s9) ∧ Rw B w4 s3 xs ∧ Rw2 B w4 s3 s9 ys)
  (d0 : l0 = true → s0 = .agg #[.slice ga gn gc, .slice oa on oc] ∧ True)
  (d1 : l1 = true → s1 = .int .i64 a ∧ True)
  (d2 : l2 = true → s2 = .int .i64 t ∧ True)
  (d3 : l3 = true → (l11 = false → Rw B w' s3 xs) ∧ l0 = true ∧ l1 = true ∧ l2 = true)
  (d4 : l4 = true → s4 = .agg #[.slice ga gn gc, .slice oa on oc] ∧ True)
  (d5 : l5 = true → s5 = .int .i64 t ∧ True)
  (d6 : l6 = true → s6 = .int .i64 t ∧ True)
  (d7 : l7 = true → s7 = .int .i64 r ∧ True)
  (d8 : l8 = true → s8 = .int .i64 T ∧ l6 = true ∧ l7 = true)
  (d9 : l9 = true → (l11 = false → Rw2 B w' s3 s9 ys) ∧ l3 = true ∧ l4 = true ∧ l5 = true ∧ l8 = true)
  (d10 : l10 = true → s10 = .agg #[s3, s9] ∧ l3 = true ∧ l9 = true)
set_option maxRecDepth 100000 in
set_option maxHeartbeats 8000000 in
theorem cutAt_any (v : Value) (l : La) (hg : goodLa l = true) (a t r : Nat) (hab : a ≤ t) (hb : t + r ≤ 1100) (w : World) (h : AtLa w v l) :
    Calls Try.prog 50 #[v, .int .i64 a, .int .i64 t, .int .i64 r] w fun e w' => ∃ u, e = .returned u ∧ OwnLa w' w.heap.size w'.heap.size u (cutL l a t r) ∧ Below w.heap.size w w' := by
  have GB : Hid (∀ (x y : Nat), x ≤ y → y ≤ 1100 → ∀ w1 : World, Below w.heap.size w w1 → Calls Try.prog 47 #[v, .int .i64 x, .int .i64 y] w1 fun e w' => ∃ r, e = .returned r ∧ OwnOI w' w1.heap.size w'.heap.size r (unrL l x (y - x)) ∧ Below w1.heap.size w1 w') := fun x y hx hy w1 hb => between_any v l hg x y hx hy w1 (h.below hb)
  obtain ⟨ga, gn, gc, oa, on, oc, rfl⟩ := h.shape
  obtain ⟨w0, hw0⟩ : ∃ w0, (w.alloc (.cells #[.slice ga gn gc, .slice oa on oc] 26)).alloc (.cells #[.slice none 0 0, .slice none 0 0] 26) = w0 := ⟨_, rfl⟩
  have HB0 : Hid (Below w.heap.size w w0) := by
    show Below _ _ _
    rw [← hw0]
    exact ((Below.refl _ _).alloc (Nat.le_refl _) _).alloc (by rw [World.size_alloc]; omega) _
  have x0 := (box2_alloc w 26 (.slice ga gn gc) (.slice oa on oc)).alloc (.cells #[.slice none 0 0, .slice none 0 0] 26)
  have y0 := box2_alloc (w.alloc (.cells #[.slice ga gn gc, .slice oa on oc] 26)) 26 (.slice none 0 0) (.slice none 0 0)
  simp only [World.size_alloc] at y0
  have hz0 : w0.heap.size = w.heap.size + 2 := by rw [← hw0, World.size_alloc, World.size_alloc]
  rw [hw0] at x0 y0
  have HXP : Hid (∀ w3, Below w0.drew.heap.size w0.drew w3 → Box2 w3 w.heap.size 26 (.slice ga gn gc) (.slice oa on oc)) := fun w3 hb3 => Box2.below (w := w0.drew) ⟨x0.heap⟩ hb3 (by show _ < w0.heap.size; omega)
  have HYP : Hid (∀ w3, Below w0.drew.heap.size w0.drew w3 → Box2 w3 (w.heap.size + 1) 26 (.slice none 0 0) (.slice none 0 0)) := fun w3 hb3 => Box2.below (w := w0.drew) ⟨y0.heap⟩ hb3 (by show _ < w0.heap.size; omega)
  have HBW : Hid (∀ w3, Below w0.drew.heap.size w0.drew w3 → Below w.heap.size w w3) := fun w3 hb3 => HB0.out.drew.trans (hb3.mono (by show w.heap.size ≤ w0.heap.size; omega))
  obtain ⟨T, hT0⟩ : ∃ T : Nat, t + r = T := ⟨_, rfl⟩
  have hTi : (t : Int) + (r : Int) = (T : Int) := by omega
  have hTw : IntKind.i64.wrap ((t : Int) + (r : Int)) = (T : Int) := by rw [hTi]; exact IntWalk.i64_in _ ⟨by omega, by omega⟩
  have hTw2 : IntKind.i64.wrap (T : Int) = (T : Int) := IntWalk.i64_in _ ⟨by omega, by omega⟩
  have hT1 : t ≤ T := by omega
  have hT2 : T ≤ 1100 := by omega
  have hta : t ≤ 1100 := by omega
  have HTR : Hid (T - t = r) := by show T - t = r; omega
  have HW0 : Hid _ := hw0
  have HCL : Hid (cutL l a t r = (unrL l a (t - a), unrL l t (T - t))) := by
    show cutL l a t r = _
    rw [HTR.out]
    rfl
  clear h x0 y0 hT0 hw0 hg
  go_enter Try.func50, Try.ntmps50
  go_wp2_with fail
  rw [HW0.out]
  refine wp_region_any (by kernel_rfl) ?_
  change wpAny _ _ _ _ _ _ _ (World.drew _)
  refine wpAny_invN (fun lb9 ac9 w' => ∃ (l0 l1 l2 l3 l4 l5 l6 l7 l8 l9 l10 l11 : Bool) (s0 s1 s2 s3 s4 s5 s6 s7 s8 s9 s10 : Value), lb9 = #[l0, l1, l2, l3, l4, l5, l6, l7, l8, l9, l10, l11] ∧ ac9 = { tmps := #[.agg #[.slice ga gn gc, .slice oa on oc], .int .i64 a, .int .i64 t, .int .i64 r, .pointer (some ⟨w.heap.size, 0, none⟩), undef, undef, undef, .pointer (some ⟨w.heap.size + 1, 0, none⟩), s0, s1, s2, s3, s4, s5, s6, s7, s8, s9, s10], defers := [] } ∧ RegCut w0.drew w' w0.drew.heap.size (w.heap.size + 1) ga gn gc oa on oc a t r T (unrL l a (t - a)) (unrL l t (T - t)) l0 l1 l2 l3 l4 l5 l6 l7 l8 l9 l10 l11 s0 s1 s2 s3 s4 s5 s6 s7 s8 s9 s10) ?done ?step 12 _ _ _ ⟨false, false, false, false, false, false, false, false, false, false, false, false, _, _, _, _, _, _, _, _, _, _, _, rfl, rfl, ?init⟩ (by decide)
  case init => exact { bel := fun _ => Below.refl _ _, all := fun e => (by cases e), fin := fun e => (by cases e), d0 := fun e => (by cases e), d1 := fun e => (by cases e), d2 := fun e => (by cases e), d3 := fun e => (by cases e), d4 := fun e => (by cases e), d5 := fun e => (by cases e), d6 := fun e => (by cases e), d7 := fun e => (by cases e), d8 := fun e => (by cases e), d9 := fun e => (by cases e), d10 := fun e => (by cases e) }
  case step =>
    rintro lb9 ac9 w3 ⟨l0, l1, l2, l3, l4, l5, l6, l7, l8, l9, l10, l11, s0, s1, s2, s3, s4, s5, s6, s7, s8, s9, s10, rfl, rfl, h⟩
    intro q hq
    have hlt9 := ready_ltN hq
    match q, hq, hlt9 with
    | 0, hq, _ =>
      have hr := ready_depN hq rfl
      have hme : l0 = false := hr.1
      have hT : l11 = false := by
        cases hc9 : l11 with
        | false => rfl
        | true => exact absurd (h.all hc9).1 (by rw [hme]; decide)
      have hbel := h.bel hT
      have x3 := HXP.out w3 hbel
      obtain ⟨c0, c1⟩ := x3.cells
      have ch := x3.heap
      have cl := x3.lt
      clear hr hq
      refine wpOp_runN rfl rfl (fun K hK => ?_)
      go_simp
      refine hK _ _ ⟨true, l1, l2, l3, l4, l5, l6, l7, l8, l9, l10, l11, _, _, _, _, _, _, _, _, _, _, _, rfl, rfl, ?_⟩
      exact { bel := h.bel, all := fun e => (by rw [hT] at e; cases e), fin := fun e => (by rw [hT] at e; cases e), d0 := fun _ => ⟨rfl, trivial⟩, d1 := h.d1, d2 := h.d2, d3 := fun e => absurd (h.d3 e).2.1 (by rw [hme]; decide), d4 := h.d4, d5 := h.d5, d6 := h.d6, d7 := h.d7, d8 := h.d8, d9 := h.d9, d10 := h.d10 }
    | 1, hq, _ =>
      have hr := ready_depN hq rfl
      have hme : l1 = false := hr.1
      have hT : l11 = false := by
        cases hc9 : l11 with
        | false => rfl
        | true => exact absurd (h.all hc9).2.1 (by rw [hme]; decide)
      have hbel := h.bel hT
      clear hr hq
      refine wpOp_runN rfl rfl (fun K hK => ?_)
      go_simp
      refine hK _ _ ⟨l0, true, l2, l3, l4, l5, l6, l7, l8, l9, l10, l11, _, _, _, _, _, _, _, _, _, _, _, rfl, rfl, ?_⟩
      exact { bel := h.bel, all := fun e => (by rw [hT] at e; cases e), fin := fun e => (by rw [hT] at e; cases e), d0 := h.d0, d1 := fun _ => ⟨rfl, trivial⟩, d2 := h.d2, d3 := fun e => absurd (h.d3 e).2.2.1 (by rw [hme]; decide), d4 := h.d4, d5 := h.d5, d6 := h.d6, d7 := h.d7, d8 := h.d8, d9 := h.d9, d10 := h.d10 }
    | 2, hq, _ =>
      have hr := ready_depN hq rfl
      have hme : l2 = false := hr.1
      have hT : l11 = false := by
        cases hc9 : l11 with
        | false => rfl
        | true => exact absurd (h.all hc9).2.2.1 (by rw [hme]; decide)
      have hbel := h.bel hT
      clear hr hq
      refine wpOp_runN rfl rfl (fun K hK => ?_)
      go_simp
      refine hK _ _ ⟨l0, l1, true, l3, l4, l5, l6, l7, l8, l9, l10, l11, _, _, _, _, _, _, _, _, _, _, _, rfl, rfl, ?_⟩
      exact { bel := h.bel, all := fun e => (by rw [hT] at e; cases e), fin := fun e => (by rw [hT] at e; cases e), d0 := h.d0, d1 := h.d1, d2 := fun _ => ⟨rfl, trivial⟩, d3 := fun e => absurd (h.d3 e).2.2.2 (by rw [hme]; decide), d4 := h.d4, d5 := h.d5, d6 := h.d6, d7 := h.d7, d8 := h.d8, d9 := h.d9, d10 := h.d10 }
    | 3, hq, _ =>
      have hr := ready_depN hq rfl
      have hme : l3 = false := hr.1
      have e0 : l0 = true := hr.2 ⟨0, .data⟩ (by simp) (by kernel_rfl)
      have e1 : l1 = true := hr.2 ⟨1, .data⟩ (by simp) (by kernel_rfl)
      have e2 : l2 = true := hr.2 ⟨2, .data⟩ (by simp) (by kernel_rfl)
      have hT : l11 = false := by
        cases hc9 : l11 with
        | false => rfl
        | true => exact absurd (h.all hc9).2.2.2.1 (by rw [hme]; decide)
      have hbel := h.bel hT
      obtain rfl := (h.d0 e0).1
      obtain rfl := (h.d1 e1).1
      obtain rfl := (h.d2 e2).1
      clear hr hq
      refine wpOp_runN rfl rfl (fun K hK => ?_)
      go_simp
      go_at_call 47
      refine Calls.mono (GB.out _ _ (hab) (by omega) w3 (HBW.out w3 hbel)) ?_
      rintro e w4 ⟨r, rfl, ho, hs4⟩
      have hbel4 := hbel.trans (hs4.mono hbel.size)
      have hnew := rw_of hbel.size ho
      refine hK _ _ ⟨l0, l1, l2, true, l4, l5, l6, l7, l8, l9, l10, l11, _, _, _, _, _, _, _, _, _, _, _, rfl, rfl, ?_⟩
      exact { bel := fun _ => hbel4, all := fun e => (by rw [hT] at e; cases e), fin := fun e => (by rw [hT] at e; cases e), d0 := h.d0, d1 := h.d1, d2 := h.d2, d3 := fun _ => ⟨fun _ => hnew, e0, e1, e2⟩, d4 := h.d4, d5 := h.d5, d6 := h.d6, d7 := h.d7, d8 := h.d8, d9 := fun e => absurd (h.d9 e).2.1 (by rw [hme]; decide), d10 := fun e => absurd (h.d10 e).2.1 (by rw [hme]; decide) }
    | 4, hq, _ =>
      have hr := ready_depN hq rfl
      have hme : l4 = false := hr.1
      have hT : l11 = false := by
        cases hc9 : l11 with
        | false => rfl
        | true => exact absurd (h.all hc9).2.2.2.2.1 (by rw [hme]; decide)
      have hbel := h.bel hT
      have x3 := HXP.out w3 hbel
      obtain ⟨c0, c1⟩ := x3.cells
      have ch := x3.heap
      have cl := x3.lt
      clear hr hq
      refine wpOp_runN rfl rfl (fun K hK => ?_)
      go_simp
      refine hK _ _ ⟨l0, l1, l2, l3, true, l5, l6, l7, l8, l9, l10, l11, _, _, _, _, _, _, _, _, _, _, _, rfl, rfl, ?_⟩
      exact { bel := h.bel, all := fun e => (by rw [hT] at e; cases e), fin := fun e => (by rw [hT] at e; cases e), d0 := h.d0, d1 := h.d1, d2 := h.d2, d3 := h.d3, d4 := fun _ => ⟨rfl, trivial⟩, d5 := h.d5, d6 := h.d6, d7 := h.d7, d8 := h.d8, d9 := fun e => absurd (h.d9 e).2.2.1 (by rw [hme]; decide), d10 := h.d10 }
    | 5, hq, _ =>
      have hr := ready_depN hq rfl
      have hme : l5 = false := hr.1
      have hT : l11 = false := by
        cases hc9 : l11 with
        | false => rfl
        | true => exact absurd (h.all hc9).2.2.2.2.2.1 (by rw [hme]; decide)
      have hbel := h.bel hT
      clear hr hq
      refine wpOp_runN rfl rfl (fun K hK => ?_)
      go_simp
      refine hK _ _ ⟨l0, l1, l2, l3, l4, true, l6, l7, l8, l9, l10, l11, _, _, _, _, _, _, _, _, _, _, _, rfl, rfl, ?_⟩
      exact { bel := h.bel, all := fun e => (by rw [hT] at e; cases e), fin := fun e => (by rw [hT] at e; cases e), d0 := h.d0, d1 := h.d1, d2 := h.d2, d3 := h.d3, d4 := h.d4, d5 := fun _ => ⟨rfl, trivial⟩, d6 := h.d6, d7 := h.d7, d8 := h.d8, d9 := fun e => absurd (h.d9 e).2.2.2.1 (by rw [hme]; decide), d10 := h.d10 }
    | 6, hq, _ =>
      have hr := ready_depN hq rfl
      have hme : l6 = false := hr.1
      have hT : l11 = false := by
        cases hc9 : l11 with
        | false => rfl
        | true => exact absurd (h.all hc9).2.2.2.2.2.2.1 (by rw [hme]; decide)
      have hbel := h.bel hT
      clear hr hq
      refine wpOp_runN rfl rfl (fun K hK => ?_)
      go_simp
      refine hK _ _ ⟨l0, l1, l2, l3, l4, l5, true, l7, l8, l9, l10, l11, _, _, _, _, _, _, _, _, _, _, _, rfl, rfl, ?_⟩
      exact { bel := h.bel, all := fun e => (by rw [hT] at e; cases e), fin := fun e => (by rw [hT] at e; cases e), d0 := h.d0, d1 := h.d1, d2 := h.d2, d3 := h.d3, d4 := h.d4, d5 := h.d5, d6 := fun _ => ⟨rfl, trivial⟩, d7 := h.d7, d8 := fun e => absurd (h.d8 e).2.1 (by rw [hme]; decide), d9 := h.d9, d10 := h.d10 }
    | 7, hq, _ =>
      have hr := ready_depN hq rfl
      have hme : l7 = false := hr.1
      have hT : l11 = false := by
        cases hc9 : l11 with
        | false => rfl
        | true => exact absurd (h.all hc9).2.2.2.2.2.2.2.1 (by rw [hme]; decide)
      have hbel := h.bel hT
      clear hr hq
      refine wpOp_runN rfl rfl (fun K hK => ?_)
      go_simp
      refine hK _ _ ⟨l0, l1, l2, l3, l4, l5, l6, true, l8, l9, l10, l11, _, _, _, _, _, _, _, _, _, _, _, rfl, rfl, ?_⟩
      exact { bel := h.bel, all := fun e => (by rw [hT] at e; cases e), fin := fun e => (by rw [hT] at e; cases e), d0 := h.d0, d1 := h.d1, d2 := h.d2, d3 := h.d3, d4 := h.d4, d5 := h.d5, d6 := h.d6, d7 := fun _ => ⟨rfl, trivial⟩, d8 := fun e => absurd (h.d8 e).2.2 (by rw [hme]; decide), d9 := h.d9, d10 := h.d10 }
    | 8, hq, _ =>
      have hr := ready_depN hq rfl
      have hme : l8 = false := hr.1
      have e6 : l6 = true := hr.2 ⟨6, .data⟩ (by simp) (by kernel_rfl)
      have e7 : l7 = true := hr.2 ⟨7, .data⟩ (by simp) (by kernel_rfl)
      have hT : l11 = false := by
        cases hc9 : l11 with
        | false => rfl
        | true => exact absurd (h.all hc9).2.2.2.2.2.2.2.2.1 (by rw [hme]; decide)
      have hbel := h.bel hT
      obtain rfl := (h.d6 e6).1
      obtain rfl := (h.d7 e7).1
      clear hr hq
      refine wpOp_runN rfl rfl (fun K hK => ?_)
      go_simp
      refine hK _ _ ⟨l0, l1, l2, l3, l4, l5, l6, l7, true, l9, l10, l11, _, _, _, _, _, _, _, _, _, _, _, rfl, rfl, ?_⟩
      exact { bel := h.bel, all := fun e => (by rw [hT] at e; cases e), fin := fun e => (by rw [hT] at e; cases e), d0 := h.d0, d1 := h.d1, d2 := h.d2, d3 := h.d3, d4 := h.d4, d5 := h.d5, d6 := h.d6, d7 := h.d7, d8 := fun _ => ⟨rfl, e6, e7⟩, d9 := fun e => absurd (h.d9 e).2.2.2.2 (by rw [hme]; decide), d10 := h.d10 }
    | 9, hq, _ =>
      have hr := ready_depN hq rfl
      have hme : l9 = false := hr.1
      have e3 : l3 = true := hr.2 ⟨3, .chain⟩ (by simp) (by kernel_rfl)
      have e4 : l4 = true := hr.2 ⟨4, .data⟩ (by simp) (by kernel_rfl)
      have e5 : l5 = true := hr.2 ⟨5, .data⟩ (by simp) (by kernel_rfl)
      have e8 : l8 = true := hr.2 ⟨8, .data⟩ (by simp) (by kernel_rfl)
      have hT : l11 = false := by
        cases hc9 : l11 with
        | false => rfl
        | true => exact absurd (h.all hc9).2.2.2.2.2.2.2.2.2.1 (by rw [hme]; decide)
      have hbel := h.bel hT
      obtain rfl := (h.d4 e4).1
      obtain rfl := (h.d5 e5).1
      obtain rfl := (h.d8 e8).1
      clear hr hq
      refine wpOp_runN rfl rfl (fun K hK => ?_)
      go_simp
      go_at_call 47
      refine Calls.mono (GB.out _ _ (hT1) (by omega) w3 (HBW.out w3 hbel)) ?_
      rintro e w4 ⟨r, rfl, ho, hs4⟩
      have hbel4 := hbel.trans (hs4.mono hbel.size)
      have hnew := rw2_of hbel.size ((h.d3 e3).1 hT) ho
      refine hK _ _ ⟨l0, l1, l2, l3, l4, l5, l6, l7, l8, true, l10, l11, _, _, _, _, _, _, _, _, _, _, _, rfl, rfl, ?_⟩
      exact { bel := fun _ => hbel4, all := fun e => (by rw [hT] at e; cases e), fin := fun e => (by rw [hT] at e; cases e), d0 := h.d0, d1 := h.d1, d2 := h.d2, d3 := fun e => ⟨fun hx => ((h.d3 e).1 hx).below hs4, (h.d3 e).2⟩, d4 := h.d4, d5 := h.d5, d6 := h.d6, d7 := h.d7, d8 := h.d8, d9 := fun _ => ⟨fun _ => hnew, e3, e4, e5, e8⟩, d10 := fun e => absurd (h.d10 e).2.2 (by rw [hme]; decide) }
    | 10, hq, _ =>
      have hr := ready_depN hq rfl
      have hme : l10 = false := hr.1
      have e3 : l3 = true := hr.2 ⟨3, .data⟩ (by simp) (by kernel_rfl)
      have e9 : l9 = true := hr.2 ⟨9, .data⟩ (by simp) (by kernel_rfl)
      have hT : l11 = false := by
        cases hc9 : l11 with
        | false => rfl
        | true => exact absurd (h.all hc9).2.2.2.2.2.2.2.2.2.2 (by rw [hme]; decide)
      have hbel := h.bel hT
      obtain ⟨u3a, u3n, u3c, rfl⟩ := ((h.d3 e3).1 hT).shape
      obtain ⟨u9a, u9n, u9c, rfl⟩ := ((h.d9 e9).1 hT).shape
      clear hr hq
      refine wpOp_runN rfl rfl (fun K hK => ?_)
      go_simp
      refine hK _ _ ⟨l0, l1, l2, l3, l4, l5, l6, l7, l8, l9, true, l11, _, _, _, _, _, _, _, _, _, _, _, rfl, rfl, ?_⟩
      exact { bel := h.bel, all := fun e => (by rw [hT] at e; cases e), fin := fun e => (by rw [hT] at e; cases e), d0 := h.d0, d1 := h.d1, d2 := h.d2, d3 := h.d3, d4 := h.d4, d5 := h.d5, d6 := h.d6, d7 := h.d7, d8 := h.d8, d9 := h.d9, d10 := fun _ => ⟨rfl, e3, e9⟩ }
    | 11, hq, _ =>
      have hr := ready_depN hq rfl
      have hme : l11 = false := hr.1
      have e0 : l0 = true := hr.2 ⟨0, .phase⟩ (by simp) (by kernel_rfl)
      have e1 : l1 = true := hr.2 ⟨1, .phase⟩ (by simp) (by kernel_rfl)
      have e2 : l2 = true := hr.2 ⟨2, .phase⟩ (by simp) (by kernel_rfl)
      have e3 : l3 = true := hr.2 ⟨3, .phase⟩ (by simp) (by kernel_rfl)
      have e4 : l4 = true := hr.2 ⟨4, .phase⟩ (by simp) (by kernel_rfl)
      have e5 : l5 = true := hr.2 ⟨5, .phase⟩ (by simp) (by kernel_rfl)
      have e6 : l6 = true := hr.2 ⟨6, .phase⟩ (by simp) (by kernel_rfl)
      have e7 : l7 = true := hr.2 ⟨7, .phase⟩ (by simp) (by kernel_rfl)
      have e8 : l8 = true := hr.2 ⟨8, .phase⟩ (by simp) (by kernel_rfl)
      have e9 : l9 = true := hr.2 ⟨9, .chain⟩ (by simp) (by kernel_rfl)
      have e10 : l10 = true := hr.2 ⟨10, .data⟩ (by simp) (by kernel_rfl)
      have hbel := h.bel hme
      obtain rfl := (h.d0 e0).1
      obtain rfl := (h.d1 e1).1
      obtain rfl := (h.d2 e2).1
      obtain rfl := (h.d4 e4).1
      obtain rfl := (h.d5 e5).1
      obtain rfl := (h.d6 e6).1
      obtain rfl := (h.d7 e7).1
      obtain rfl := (h.d8 e8).1
      obtain rfl := (h.d10 e10).1
      have y3 := HYP.out w3 hbel
      obtain ⟨k0, k1⟩ := y3.cells
      have kh := y3.heap
      have kl := y3.lt
      have kf0 := y3.frozen 0
      have kf1 := y3.frozen 1
      clear hr hq
      have hF3 := (h.d3 e3).1 hme
      have hF9 := (h.d9 e9).1 hme
      refine wpOp_runN rfl rfl (fun K hK => ?_)
      obtain ⟨u3a, u3n, u3c, rfl⟩ := hF3.shape
      obtain ⟨u9a, u9n, u9c, rfl⟩ := hF9.shape
      go_simp
      refine hK _ _ ⟨l0, l1, l2, l3, l4, l5, l6, l7, l8, l9, l10, true, _, _, _, _, _, _, _, _, _, _, _, rfl, rfl, ?_⟩
      exact { bel := fun e => (by cases e), all := fun _ => ⟨e0, e1, e2, e3, e4, e5, e6, e7, e8, e9, e10⟩, fin := fun _ => ⟨w3, hbel, rfl, hF3, hF9⟩, d0 := h.d0, d1 := h.d1, d2 := h.d2, d3 := fun e => ⟨fun e9 => (by cases e9), (h.d3 e).2⟩, d4 := h.d4, d5 := h.d5, d6 := h.d6, d7 := h.d7, d8 := h.d8, d9 := fun e => ⟨fun e9 => (by cases e9), (h.d9 e).2⟩, d10 := h.d10 }
    | k + 12, hq, h18 => exact (Nat.not_lt_of_le (Nat.le_add_left 12 k) h18).elim
  case done =>
    rintro lb9 ac9 w3 ⟨l0, l1, l2, l3, l4, l5, l6, l7, l8, l9, l10, l11, s0, s1, s2, s3, s4, s5, s6, s7, s8, s9, s10, rfl, rfl, h⟩ hr
    cases l0
    · exact (ready_none2N hr 0 rfl rfl rfl).elim
    cases l1
    · exact (ready_none2N hr 1 rfl rfl rfl).elim
    cases l2
    · exact (ready_none2N hr 2 rfl rfl rfl).elim
    cases l3
    · exact (ready_none2N hr 3 rfl rfl rfl).elim
    cases l4
    · exact (ready_none2N hr 4 rfl rfl rfl).elim
    cases l5
    · exact (ready_none2N hr 5 rfl rfl rfl).elim
    cases l6
    · exact (ready_none2N hr 6 rfl rfl rfl).elim
    cases l7
    · exact (ready_none2N hr 7 rfl rfl rfl).elim
    cases l8
    · exact (ready_none2N hr 8 rfl rfl rfl).elim
    cases l9
    · exact (ready_none2N hr 9 rfl rfl rfl).elim
    cases l10
    · exact (ready_none2N hr 10 rfl rfl rfl).elim
    cases l11
    · exact (ready_none2N hr 11 rfl rfl rfl).elim
    obtain rfl := (h.d0 rfl).1
    obtain rfl := (h.d1 rfl).1
    obtain rfl := (h.d2 rfl).1
    obtain rfl := (h.d4 rfl).1
    obtain rfl := (h.d5 rfl).1
    obtain rfl := (h.d6 rfl).1
    obtain rfl := (h.d7 rfl).1
    obtain rfl := (h.d8 rfl).1
    obtain rfl := (h.d10 rfl).1
    obtain ⟨w4, hbel, rfl, hF3, hF9⟩ := h.fin rfl
    clear h hr
    obtain ⟨u3a, u3n, u3c, rfl⟩ := hF3.shape
    obtain ⟨u9a, u9n, u9c, rfl⟩ := hF9.shape
    have y4 := ((HYP.out w4 hbel).set0 (.slice u3a u3n u3c)).set1 (.slice u9a u9n u9c)
    have hsz4 := hbel.size
    change w0.heap.size ≤ w4.heap.size at hsz4
    have hO := ((ownLa_rw hF3 hF9).setO (b := w.heap.size + 1) (o := 0) (x := .slice u3a u3n u3c) (Or.inl (by show _ < w0.heap.size; omega))).setO (b := w.heap.size + 1) (o := 1) (x := .slice u9a u9n u9c) (Or.inl (by show _ < w0.heap.size; omega))
    have HOL : Hid (OwnLa ((w4.setCell ⟨w.heap.size + 1, 0, none⟩ (.slice u3a u3n u3c)).setCell ⟨w.heap.size + 1, 1, none⟩ (.slice u9a u9n u9c)) w.heap.size ((w4.setCell ⟨w.heap.size + 1, 0, none⟩ (.slice u3a u3n u3c)).setCell ⟨w.heap.size + 1, 1, none⟩ (.slice u9a u9n u9c)).heap.size (.agg #[.slice u3a u3n u3c, .slice u9a u9n u9c]) (cutL l a t r)) := by
      show OwnLa _ _ _ _ _
      rw [HCL.out]
      exact hO.weak (by show w.heap.size ≤ w0.heap.size; omega) (by rw [size_set, size_set]; exact Nat.le_refl _) (Nat.le_refl _)
    have HBE : Hid (Below w.heap.size w ((w4.setCell ⟨w.heap.size + 1, 0, none⟩ (.slice u3a u3n u3c)).setCell ⟨w.heap.size + 1, 1, none⟩ (.slice u9a u9n u9c))) := ((HBW.out w4 hbel).setCell (by show w.heap.size ≤ w.heap.size + 1; omega) _).setCell (by show w.heap.size ≤ w.heap.size + 1; omega) _
    have hyh := y4.heap
    clear hO hF3 hF9
    go_wp2_with fail
    refine bodyPost_ret (results_cell_row rfl _ _ (w.heap.size + 1) 26 _ (0, 0) _ rfl hyh Try.underlying26 rfl (by kernel_rfl)) rfl ?_
    exact ⟨_, rfl, HOL.out, HBE.out⟩
end Go.Proofs.Ythamdefkcjfjpaa

namespace Go.Proofs.Ythamdefkcjfjpaa
open Go Go.RowKit
open M
set_option linter.unusedVariables false
set_option linter.unusedSimpArgs false

theorem goodLetter_any (x : Int) (w : World) :
    Calls Try.prog 72 #[.int .i64 x] w fun e w' => e = .returned (.bool (!btw 0 7 x)) ∧ w' = w := by
  by_cases h1 : x < 0
  · have hb : btw 0 7 x = false := decide_eq_false (by omega)
    rw [hb]
    go_enter Try.func72, Try.ntmps72
    go_wp2
    go_ret
    exact ⟨rfl, rfl⟩
  · by_cases h2 : 8 ≤ x
    · have hb : btw 0 7 x = false := decide_eq_false (by omega)
      rw [hb]
      go_enter Try.func72, Try.ntmps72
      go_wp2
      go_ret
      exact ⟨rfl, rfl⟩
    · have hb : btw 0 7 x = true := decide_eq_true (by omega)
      rw [hb]
      go_enter Try.func72, Try.ntmps72
      go_wp2
      go_ret
      exact ⟨rfl, rfl⟩
set_option maxRecDepth 100000 in
set_option maxHeartbeats 2000000 in
theorem indexI_any (v : Value) (t : List Int) (w : World) (h : IntsAt w v t) :
    Calls Try.prog 74 #[v, .func (.func 72) #[] #[]] w fun e w' => ∃ k : Int, e = .returned (.int .i64 k) ∧ (decide (0 ≤ k) = !(t.all (btw 0 7))) ∧ -1 ≤ k ∧ k ≤ 9223372036854775807 ∧ w' = w := by
  have hl := h.1
  obtain ⟨a, cap, rfl, hc⟩ := h.opened
  clear h
  go_enter Try.func74, Try.ntmps74
  go_wp2_with fail
  go_loop [8] (fun i => ∃ j : Nat, j ≤ t.length ∧ i = .int .i64 j ∧ Hid ((t.take j).all (btw 0 7) = true)) (fun i => t.length - (intOf i).toNat)
  case atStart => exact ⟨0, by omega, rfl, rfl⟩
  case round =>
    obtain ⟨j, hj, rfl, HA⟩ := hrel
    by_cases hlt : j < t.length
    · obtain ⟨x, hx⟩ : ∃ x, t[j]? = some x := ⟨t[j], List.getElem?_eq_getElem hlt⟩
      obtain ⟨b, off, rfl, hb, c0⟩ := hc j x hx
      have g := goodLetter_any x w
      have HX : Hid (t[j]? = some x) := hx
      clear hc hx
      rcases Bool.eq_false_or_eq_true (btw 0 7 x) with hp | hp
      · rw [hp] at g
        have HN : Hid ((t.take (j + 1)).all (btw 0 7) = true) := all_take_snoc HX.out HA.out hp
        clear hp
        go_wp2_with fail
        refine g.mono ?_
        rintro e w1 ⟨rfl, rfl⟩
        clear g
        go_wp2_with fail
        go_round
        case rel => exact ⟨j + 1, by omega, by go_num, HN⟩
        case measure => simp [intOf]; omega
      · rw [hp] at g
        have HN : Hid (decide (0 ≤ (j : Int)) = !(t.all (btw 0 7))) := by
          show _ = _
          rw [all_false HX.out hp]
          exact decide_eq_true (by omega)
        clear hp
        go_wp2_with fail
        refine g.mono ?_
        rintro e w1 ⟨rfl, rfl⟩
        clear g
        go_wp2_with fail
        go_ret
        exact ⟨_, rfl, HN.out, by omega, by omega, rfl⟩
    · obtain rfl : j = t.length := by omega
      have HN : Hid (decide (0 ≤ (-1 : Int)) = !(t.all (btw 0 7))) := by
        have h1 := HA.out
        rw [List.take_length] at h1
        show _ = _
        rw [h1]
        rfl
      clear hc HA
      go_wp2_with fail
      go_ret
      exact ⟨_, rfl, HN.out, by omega, by omega, rfl⟩
set_option maxRecDepth 100000 in
theorem containsI_any (v : Value) (t : List Int) (w : World) (h : IntsAt w v t) :
    Calls Try.prog 71 #[v, .func (.func 72) #[] #[]] w fun e w' => e = .returned (.bool (!(t.all (btw 0 7)))) ∧ w' = w := by
  have g := indexI_any v t w h
  obtain ⟨a, cap, rfl⟩ := h.shape
  generalize (!(t.all (btw 0 7))) = B at *
  generalize t.length = n at *
  clear h
  go_enter Try.func71, Try.ntmps71
  go_wp2_with fail
  refine g.mono ?_
  rintro e w1 ⟨k, rfl, hk, hk1, hk2, rfl⟩
  have HK : Hid _ := hk
  clear g hk
  go_wp2_with fail
  go_ret
  exact ⟨ret_bool HK.out, rfl⟩
set_option maxRecDepth 100000 in
theorem goodLetters_any (v : Value) (t : List Int) (w : World) (h : IntsAt w v t) :
    Calls Try.prog 54 #[v] w fun e w' => e = .returned (.bool (t.all (btw 0 7))) ∧ w' = w := by
  have g := containsI_any v t w h
  obtain ⟨a, cap, rfl⟩ := h.shape
  generalize t.all (btw 0 7) = B at *
  generalize t.length = n at *
  clear h
  cases B with
  | false =>
    go_enter Try.func54, Try.ntmps54
    go_wp2_with fail
    refine g.mono ?_
    rintro e w1 ⟨rfl, rfl⟩
    clear g
    go_wp2_with fail
    go_ret
    exact ⟨rfl, rfl⟩
  | true =>
    go_enter Try.func54, Try.ntmps54
    go_wp2_with fail
    refine g.mono ?_
    rintro e w1 ⟨rfl, rfl⟩
    clear g
    go_wp2_with fail
    go_ret
    exact ⟨rfl, rfl⟩
set_option maxRecDepth 100000 in
set_option maxHeartbeats 2000000 in
theorem iGoodLasso_any (v : Value) (l : La) (w : World) (h : AtLa w v l) :
    Calls Try.prog 20 #[v] w fun e w' => e = .returned (.bool (goodLa l)) ∧ Below w.heap.size w w' := by
  obtain ⟨g, o, rfl, h1, h2⟩ := h
  have G1 : Hid (∀ w1 : World, Below w.heap.size w w1 → Calls Try.prog 54 #[g] w1 fun e w' => e = .returned (.bool (l.1.all (btw 0 7))) ∧ w' = w1) := fun w1 hb => goodLetters_any g l.1 w1 (h1.below hb)
  have G2 : Hid (∀ w1 : World, Below w.heap.size w w1 → Calls Try.prog 54 #[o] w1 fun e w' => e = .returned (.bool (l.2.all (btw 0 7))) ∧ w' = w1) := fun w1 hb => goodLetters_any o l.2 w1 (h2.below hb)
  have hl1 := h1.1
  have hl2 := h2.1
  obtain ⟨ga, gc, rfl⟩ := h1.shape
  obtain ⟨oa, oc, rfl⟩ := h2.shape
  have hb0 : Below w.heap.size w (w.alloc (.cells #[.slice ga l.1.length gc, .slice oa l.2.length oc] 26)) := (Below.refl _ _).alloc (Nat.le_refl _) _
  have HB0 : Hid _ := hb0
  have HE : Hid _ := goodLa_def l
  have g1 := G1.out _ hb0
  have g2 := G2.out _ hb0
  clear h1 h2 hb0 G1 G2
  generalize l.1.all (btw 0 7) = A1 at *
  generalize l.2.all (btw 0 7) = A2 at *
  generalize l.1.length = n1 at *
  generalize l.2.length = n2 at *
  by_cases c1 : n1 ≤ 24
  case neg =>
    rw [decide_eq_false c1] at HE
    have HF : Hid (goodLa l = false) := HE.out
    have c1' : 24 < n1 := by omega
    go_enter Try.func20, Try.ntmps20
    go_wp2_with fail
    go_ret
    exact ⟨ret_bool HF.out.symm, HB0.out⟩
  rw [decide_eq_true c1, Bool.true_and] at HE
  by_cases c2 : 1 ≤ n2
  case neg =>
    rw [decide_eq_false (fun h => c2 h.1)] at HE
    have HF : Hid (goodLa l = false) := HE.out
    obtain rfl : n2 = 0 := by omega
    clear c2
    go_enter Try.func20, Try.ntmps20
    go_wp2_with fail
    go_ret
    exact ⟨ret_bool HF.out.symm, HB0.out⟩
  by_cases c3 : n2 ≤ 24
  case neg =>
    rw [decide_eq_false (fun h => c3 h.2)] at HE
    have HF : Hid (goodLa l = false) := HE.out
    have c3' : 24 < n2 := by omega
    go_enter Try.func20, Try.ntmps20
    go_wp2_with fail
    go_ret
    exact ⟨ret_bool HF.out.symm, HB0.out⟩
  rw [decide_eq_true ⟨c2, c3⟩, Bool.true_and] at HE
  cases A1 with
  | false =>
    have HF : Hid (goodLa l = false) := HE.out
    go_enter Try.func20, Try.ntmps20
    go_wp2_with fail
    refine g1.mono ?_
    rintro e w1 ⟨rfl, rfl⟩
    go_wp2_with fail
    go_ret
    exact ⟨ret_bool HF.out.symm, HB0.out⟩
  | true =>
    rw [Bool.true_and] at HE
    go_enter Try.func20, Try.ntmps20
    go_wp2_with fail
    refine g1.mono ?_
    rintro e w1 ⟨rfl, rfl⟩
    go_wp2_with fail
    refine g2.mono ?_
    rintro e w1 ⟨rfl, rfl⟩
    go_wp2_with fail
    go_ret
    exact ⟨ret_bool HE.out.symm, HB0.out⟩
/-- a good lasso and a place -/
def atB (l : La) (k : Int) : Bool := goodLa l && decide (0 ≤ k ∧ k ≤ 1000)
set_option maxRecDepth 100000 in
theorem goodAt_any (v : Value) (l : La) (k : Int) (w : World) (h : AtLa w v l) :
    Calls Try.prog 58 #[v, .int .i64 k] w fun e w' => e = .returned (.bool (atB l k)) ∧ Below w.heap.size w w' := by
  have HG : Hid (∀ w1 : World, Below w.heap.size w w1 → Calls Try.prog 20 #[v] w1 fun e w' => e = .returned (.bool (goodLa l)) ∧ Below w1.heap.size w1 w') := fun w1 hb => iGoodLasso_any v l w1 (h.below hb)
  obtain ⟨ga, gn, gc, oa, on, oc, rfl⟩ := h.shape
  have HB0 : Hid (Below w.heap.size w (w.alloc (.cells #[.slice ga gn gc, .slice oa on oc] 26))) := (Below.refl _ _).alloc (Nat.le_refl _) _
  have g := HG.out _ HB0.out
  have HE : Hid (atB l k = (goodLa l && decide (0 ≤ k ∧ k ≤ 1000))) := rfl
  clear h HG
  rcases Bool.eq_false_or_eq_true (goodLa l) with hg | hg
  · rw [hg] at g HE
    by_cases h1 : 0 ≤ k
    · by_cases h2 : k ≤ 1000
      · rw [decide_eq_true ⟨h1, h2⟩] at HE
        clear hg
        go_enter Try.func58, Try.ntmps58
        go_wp2_with fail
        refine g.mono ?_
        rintro e w1 ⟨rfl, hs⟩
        have HB1 : Hid (Below w.heap.size w w1) := HB0.out.trans (hs.mono HB0.out.size)
        clear g hs
        go_wp2_with fail
        go_ret
        exact ⟨ret_bool HE.out.symm, HB1.out⟩
      · rw [decide_eq_false (fun h => h2 h.2)] at HE
        clear hg
        go_enter Try.func58, Try.ntmps58
        go_wp2_with fail
        refine g.mono ?_
        rintro e w1 ⟨rfl, hs⟩
        have HB1 : Hid (Below w.heap.size w w1) := HB0.out.trans (hs.mono HB0.out.size)
        clear g hs
        go_wp2_with fail
        go_ret
        exact ⟨ret_bool ((decide_eq_false (by omega)).trans HE.out.symm), HB1.out⟩
    · rw [decide_eq_false (fun h => h1 h.1)] at HE
      clear hg
      go_enter Try.func58, Try.ntmps58
      go_wp2_with fail
      refine g.mono ?_
      rintro e w1 ⟨rfl, hs⟩
      have HB1 : Hid (Below w.heap.size w w1) := HB0.out.trans (hs.mono HB0.out.size)
      clear g hs
      go_wp2_with fail
      go_ret
      exact ⟨ret_bool HE.out.symm, HB1.out⟩
  · rw [hg] at g HE
    have HF : Hid (atB l k = false) := HE.out
    clear hg
    go_enter Try.func58, Try.ntmps58
    go_wp2_with fail
    refine g.mono ?_
    rintro e w1 ⟨rfl, hs⟩
    have HB1 : Hid (Below w.heap.size w w1) := HB0.out.trans (hs.mono HB0.out.size)
    clear g hs
    go_wp2_with fail
    go_ret
    exact ⟨ret_bool HF.out.symm, HB1.out⟩
end Go.Proofs.Ythamdefkcjfjpaa

namespace Go.Proofs.Ythamdefkcjfjpaa
open Go Go.RowKit
open M
set_option linter.unusedVariables false
set_option linter.unusedSimpArgs false

theorem own2_lt {w : World} {B : Nat} {v : Value} {t : List Int} (h : OwnInts2 w B v t) (k : Nat) (hk : v.ownBlock = some k) : B ≤ k ∧ k < w.heap.size := own_block h hk
set_option maxRecDepth 100000 in
set_option maxHeartbeats 4000000 in
theorem l9First_any (v : Value) (l : La) (hg : goodLa l = true) (a n : Nat) (ha : a + n ≤ 2000) (w : World) (h : AtLa w v l) :
    Calls Try.prog 52 #[v, .int .i64 a, .int .i64 n] w fun e w' => ∃ u, e = .returned u ∧ OwnInts2 w' w.heap.size u (unrL l a n) ∧ Below w.heap.size w w' := by
  have HAT : Hid (∀ j : Nat, a + j ≤ 2000 → ∀ w1 : World, Below w.heap.size w w1 → Calls Try.prog 61 #[v, .int .i64 ((a : Int) + (j : Int))] w1 fun e w' => e = .returned (.int .i64 (letL l (a + j))) ∧ Below w1.heap.size w1 w') := fun j hj w1 hb => l9At_any v l hg (a + j) hj w1 (h.below hb)
  obtain ⟨ga, gn, gc, oa, on, oc, rfl⟩ := h.shape
  have HB0 : Hid (Below w.heap.size w (w.alloc (.cells #[.slice ga gn gc, .slice oa on oc] 26))) := (Below.refl _ _).alloc (Nat.le_refl _) _
  have x0 := box2_alloc w 26 (.slice ga gn gc) (.slice oa on oc)
  have hw0z : (w.alloc (.cells #[.slice ga gn gc, .slice oa on oc] 26)).heap.size = w.heap.size + 1 := World.size_alloc _ _
  have HXP : Hid (∀ w3, Below (w.heap.size + 1) (w.alloc (.cells #[.slice ga gn gc, .slice oa on oc] 26)) w3 → Box2 w3 w.heap.size 26 (.slice ga gn gc) (.slice oa on oc)) := fun w3 hb3 => x0.below hb3 (by omega)
  have HBX0 : Hid (Below (w.heap.size + 1) (w.alloc (.cells #[.slice ga gn gc, .slice oa on oc] 26)) (w.alloc (.cells #[.slice ga gn gc, .slice oa on oc] 26))) := Below.refl _ _
  obtain ⟨i0, hi, hz0, hz1, hz2⟩ := info_parts infoInt
  clear h x0 hg
  go_enter Try.func52, Try.ntmps52
  go_wp2_with fail
  generalize w.alloc (.cells #[.slice ga gn gc, .slice oa on oc] 26) = w0 at *
  go_loopw [7, 8] (fun v i wr => ∃ j : Nat, j ≤ n ∧ i = .int .i64 ((a : Int) + (j : Int)) ∧ Hid (OwnInts2 wr (w.heap.size + 1) v (unrL l a j)) ∧ Hid (Below w.heap.size w wr) ∧ Hid (Below (w.heap.size + 1) w0 wr)) (fun _ i _ => a + n - (intOf i).toNat)
  case atStart => exact ⟨0, by omega, by simp, World.ownsRow_nil _ _ _ _, HB0, HBX0⟩
  case round =>
    obtain ⟨j, hj, rfl, HO, HB, HBX⟩ := hrel
    clear HB0 HBX0
    obtain ⟨a0, a1⟩ := (HXP.out _ HBX.out).cells
    have ah := (HXP.out _ HBX.out).heap
    have al := (HXP.out _ HBX.out).lt
    by_cases hlt : j < n
    · have g0 := HAT.out j (by omega) wr HB.out
      obtain ⟨q, hq⟩ : ∃ q : Int, (a : Int) + (j : Int) = q := ⟨_, rfl⟩
      have hq0 : 0 ≤ q := by omega
      have hq1 : q < (a : Int) + (n : Int) := by omega
      have HQ : Hid (q = (a : Int) + (j : Int)) := hq.symm
      have HS : Hid (unrL l a (j + 1) = unrL l a j ++ [letL l (a + j)]) := unrL_snoc l a j
      have hll : (unrL l a j).length = j := unrL_len l a j
      rw [hq] at g0 ⊢
      clear hq
      generalize letL l (a + j) = X at *
      go_wp2_with fail
      refine g0.mono ?_
      rintro e w5 ⟨rfl, hs⟩
      have HB5 : Hid (Below w.heap.size w w5) := HB.out.trans (hs.mono HB.out.size)
      have HBX5 : Hid (Below (w.heap.size + 1) w0 w5) := HBX.out.trans (hs.mono (by have := HBX.out.size; omega))
      have HW5 : Hid (OwnInts2 w5 (w.heap.size + 1) u7 (unrL l a j)) := owns_below HO.out hs
      have own1 : (w5.alloc (.cells #[.int .i64 X] 3)).ownsRow (w.heap.size + 1) 3 1 u7 (unrL l a j).length (cellsI (unrL l a j)) := World.ownsRow.alloc HW5.out _
      have cellsN := oneI_cells w5 X
      have hsz5 := HB5.out.size
      have hszx5 := HBX5.out.size
      clear g0 hs a0 a1 ah al HO HB HBX HAT
      go_wp2_with (at_builtin; refine wpList_append_own _ rfl _ _ 24 rfl (w.heap.size + 1) 3 i0 (.int .i64 0) 1 8 Try.underlying24 hi hz0 hz1 hz2 rfl (by decide) _ _ _ rfl own1 ⟨w5.heap.size, 0, none⟩ 1 1 [.int .i64 X] rfl rfl cellsN (ints_one [X]) (by unfold maxLen; omega) (by omega) (by simp; omega) ?_)
      intro v7 w7 own7 grow7 _
      have HB7 : Hid (Below w.heap.size w w7) := (HB5.out.alloc HB5.out.size _).grown grow7 (by simp; omega) (fun k hk => by have := (own2_lt HW5.out k hk).1; omega)
      have HBX7 : Hid (Below (w.heap.size + 1) w0 w7) := (HBX5.out.alloc (by omega) _).grown grow7 (by simp; omega) (fun k hk => (own2_lt HW5.out k hk).1)
      have HO7 : Hid (OwnInts2 w7 (w.heap.size + 1) v7 (unrL l a (j + 1))) := by
        show OwnInts2 _ _ _ _
        rw [HS.out]
        have e1 : (unrL l a j ++ [X]).length = j + 1 := by
          rw [List.length_append, hll]
          rfl
        have e2 : cellsI (unrL l a j ++ [X]) = cellsI (unrL l a j) ++ [.int .i64 X] := by simp [cellsI]
        unfold OwnInts2
        rw [e1, e2]
        exact own7
      clear own1 own7 grow7 cellsN
      have hq2 : q ≤ 2000 := by omega
      have HQ1 : Hid (q + 1 = (a : Int) + ((j + 1 : Nat) : Int)) := by
        have := HQ.out
        show q + 1 = _
        omega
      go_wp2_with fail
      go_roundw
      case rel => exact ⟨j + 1, by omega, by rw [HQ1.out], HO7, HB7, HBX7⟩
      case measure => have := HQ.out; simp [intOf]; omega
    · obtain rfl : j = n := by omega
      clear HAT
      go_wp2_with fail
      go_ret
      exact ⟨_, rfl, HO.out.low (Nat.le_succ _), HB.out⟩
/-- what is appended to a list of one's own: nothing, or a row from anywhere in a block -/
def SrcO (w : World) (v : Value) (n : Nat) (xs : List Value) : Prop := (n = 0 ∧ xs = [] ∧ v = .slice none 0 0) ∨ ∃ (g off cap : Nat), v = .slice (some ⟨g, off, none⟩) n cap ∧ (0 < n → g < w.heap.size) ∧ ∀ (j : Nat) (u : Value), xs[j]? = some u → w.cell? ((⟨g, off, none⟩ : Addr).add j) = some u
theorem add_eq (g off j : Nat) : (⟨g, off, none⟩ : Addr).add j = ⟨g, off + j, none⟩ := by
  unfold Addr.add
  by_cases h0 : j = 0
  · subst h0
    simp
  · simp [h0]
theorem srcO_ints {w : World} {v : Value} {t : List Int} (h1 : IntsAt w v t) (h2 : Sol v) : SrcO w v t.length (cellsI t) := by
  rcases h1.2 with ⟨rfl, a, cap, hv⟩ | ⟨b, off, cap, hv, hlt, hc⟩
  · obtain ⟨a', n', c', e, hz, hb, _⟩ := h2
    rw [hv] at e
    injection e with e1 e2 e3
    subst e1 e2 e3
    cases a with
    | none => exact Or.inl ⟨rfl, rfl, by rw [hv, (hz rfl).2]⟩
    | some ad =>
      obtain ⟨b, off, s⟩ := ad
      have hs := hb _ rfl
      simp only at hs
      subst hs
      exact Or.inr ⟨b, off, cap, hv, fun h0 => absurd h0 (by simp), fun j u hu => by simp [cellsI] at hu⟩
  · refine Or.inr ⟨b, off, cap, hv, fun _ => hlt, fun j u hu => ?_⟩
    rw [add_eq]
    unfold cellsI at hu
    rw [List.getElem?_map, Option.map_eq_some_iff] at hu
    obtain ⟨x, hx, rfl⟩ := hu
    exact hc j x hx
theorem SrcO.below {w w' : World} {v : Value} {n : Nat} {xs : List Value} (h : SrcO w v n xs) (hn : xs.length = n) (hb : Below w.heap.size w w') : SrcO w' v n xs := by
  rcases h with h | ⟨g, off, cap, hv, hg, hc⟩
  · exact Or.inl h
  · refine Or.inr ⟨g, off, cap, hv, fun h0 => Nat.lt_of_lt_of_le (hg h0) hb.size, fun j u hu => ?_⟩
    have hj := (List.getElem?_eq_some_iff.1 hu).1
    have h1 := hc j u hu
    rw [add_eq] at h1 ⊢
    rw [hb.cell (p := ⟨g, off + j, none⟩) (hg (by omega))]
    exact h1
theorem SrcO.drew {w : World} {v : Value} {n : Nat} {xs : List Value} (h : SrcO w v n xs) : SrcO w.drew v n xs := h
theorem wp_append_srcO {P : Program} {o : Oper} {a : Act} {w : World} {K : Act → World → Prop} {Q : Exit → Act → World → Prop} (s x : Operand) (t : TypeId)
    (ho : o.op = .call { callee := .builtin .append, args := #[s, x], argTypes := #[t, t] })
    (base : Nat) (e : TypeId) (i : TypeInfo) (z : Value) (size bytes : Nat) (ht : P.underlying t = some (.slice e)) (hi : P.info? e = some i) (hz : i.zero = some z)
    (hsize : i.size = size) (hby : i.bytes = bytes) (hzs : z.cells.size = size) (hsz : 0 < size)
    (v : Value) (n : Nat) (xs : List Value) (hs : a.eval s = v) (hown : w.ownsRow base e size v n xs)
    (u : Value) (m : Nat) (news : List Value) (hx : a.eval x = u) (hsrc : SrcO w u m news) (hl : news.length = m * size) (h1 : ∀ u ∈ news, u.oneCell' = true)
    (h63 : n + m ≤ maxLen) (hbytes : (n + m) * bytes ≤ 140737488355328) (hbase : base ≤ w.heap.size)
    (h : ∀ v' w', w'.ownsRow base e size v' (n + m) (xs ++ news) → w.grownBy w' v.ownBlock → K (a.put o.dst v') w') : o.wp P a w K Q := by
  rcases hsrc with ⟨rfl, rfl, rfl⟩ | ⟨g, off, cap, rfl, _, hc⟩
  · have hrun := run_append_owned_none (P := P) (w := w) base t o.type e i size ht hi v n xs hown
    unfold Oper.wp
    simp [execOp, ho, resolve, invoke, builtin, hs, hx, hrun, Result.andThen]
    refine h v w ?_ (grown_refl _ _)
    rw [List.append_nil]
    exact hown
  · exact wp_append_own w s x t ho base e i z size bytes ht hi hz hsize hby hzs hsz v n xs hs hown ⟨g, off, none⟩ m cap news hx hl hc h1 h63 hbytes hbase (fun v' w' h2 h3 _ => h v' w' h2 h3)
theorem wpList_append_srcO {P : Program} {ops : Array Oper} {rest : List Oper} {o : Oper} {a : Act} {w : World} {Q : Exit → Act → World → Prop} (hgd : o.guard = none) (s x : Operand) (t : TypeId)
    (ho : o.op = .call { callee := .builtin .append, args := #[s, x], argTypes := #[t, t] })
    (base : Nat) (e : TypeId) (i : TypeInfo) (z : Value) (size bytes : Nat) (ht : P.underlying t = some (.slice e)) (hi : P.info? e = some i) (hz : i.zero = some z)
    (hsize : i.size = size) (hby : i.bytes = bytes) (hzs : z.cells.size = size) (hsz : 0 < size)
    (v : Value) (n : Nat) (xs : List Value) (hs : a.eval s = v) (hown : w.ownsRow base e size v n xs)
    (u : Value) (m : Nat) (news : List Value) (hx : a.eval x = u) (hsrc : SrcO w u m news) (hl : news.length = m * size) (h1 : ∀ u ∈ news, u.oneCell' = true)
    (h63 : n + m ≤ maxLen) (hbytes : (n + m) * bytes ≤ 140737488355328) (hbase : base ≤ w.heap.size)
    (h : ∀ v' w', w'.ownsRow base e size v' (n + m) (xs ++ news) → w.grownBy w' v.ownBlock → wpList P ops Q rest (a.put o.dst v') w') : wpList P ops Q (o :: rest) a w :=
  wpList_plain hgd fun _ hK => wp_append_srcO s x t ho base e i z size bytes ht hi hz hsize hby hzs hsz v n xs hs hown u m news hx hsrc hl h1 h63 hbytes hbase (fun v' w' h2 h3 => hK _ _ (h v' w' h2 h3))
set_option maxRecDepth 100000 in
theorem l1OwnO_any (a : Option Addr) (n cap : Nat) (os : List Int) (hn : os.length = n) (hO : n ≤ 100000) (w : World) (h : SrcO w (.slice a n cap) n (cellsI os)) :
    Calls Try.prog 53 #[.slice a n cap] w fun e w' => ∃ r, e = .returned r ∧ OwnInts2 w' w.heap.size r os ∧ Below w.heap.size w w' := by
  obtain ⟨i0, hif, hz0, hz1, hz2⟩ := info_parts infoInt
  have own0 := own_emptyI w w.heap.size (Nat.le_refl _)
  have hb0 : Below w.heap.size w (w.alloc (.cells #[] 3)) := (Below.refl _ _).alloc (Nat.le_refl _) _
  have sol : (cellsI os).length = n * 1 := by simp [cellsI, hn]
  have h0 := h.below (by omega) hb0
  have HN : Hid (os.length = n) := hn
  clear h hn
  go_enter Try.func53, Try.ntmps53
  go_wp2_with (at_builtin; refine wpList_append_srcO rfl _ _ 24 rfl w.heap.size 3 i0 (.int .i64 0) 1 8 Try.underlying24 hif hz0 hz1 hz2 rfl (by decide) _ _ _ rfl own0 (.slice a n cap) n (cellsI os) rfl h0 sol (ints_one os) (by unfold maxLen; omega) (by omega) hb0.size ?_)
  intro v5 w5 own5 grow5
  have HO : Hid (OwnInts2 w5 w.heap.size v5 os) := by
    show OwnInts2 _ _ _ _
    unfold OwnInts2
    rw [HN.out]
    exact own5
  have HB : Hid (Below w.heap.size w w5) := hb0.grown grow5 hb0.size (fun k hk => (own_block own0 hk).1)
  clear own5 grow5 own0 h0
  go_wp2_with fail
  go_ret
  exact ⟨_, rfl, HO.out, HB.out⟩
end Go.Proofs.Ythamdefkcjfjpaa

namespace Go.Proofs.Ythamdefkcjfjpaa
open Go Go.RowKit
open M
set_option linter.unusedVariables false
set_option linter.unusedSimpArgs false

structure RegSuf (W w' : World) (B X Y : Nat) (ga : Option Addr) (gn gc : Nat) (oa : Option Addr) (on oc k : Nat) (SV : Value) (xs ys : List Int) (l0 l1 l2 l3 l4 l5 l6 l7 l8 l9 : Bool) (s0 s1 s2 s3 s4 s5 s6 s7 s8 : Value) : Prop where
  (bel : l9 = false → Below W.heap.size W w')
  (all : l9 = true → l0 = true ∧ l1 = true ∧ l2 = true ∧ l3 = true ∧ l4 = true ∧ l5 = true ∧ l6 = true ∧ l7 = true ∧ l8 = true)
  (fin : l9 = true → ∃ w4 : World, Below W.heap.size W w4 ∧ w' = ((w4.setCell ⟨Y, 0, none⟩ s4).setCell ⟨Y, 1, none⟩ s7) ∧ Rw B w4 s4 xs ∧ Rw2 B w4 s4 s7 ys)
  (d0 : l0 = true → s0 = .pointer (some ⟨X, 0, none⟩) ∧ True)
  (d1 : l1 = true → s1 = .slice ga gn gc ∧ l0 = true)
  (d2 : l2 = true → s2 = .int .i64 k ∧ True)
  (d3 : l3 = true → s3 = SV ∧ l1 = true ∧ l2 = true)
  (d4 : l4 = true → (l9 = false → Rw B w' s4 xs) ∧ l3 = true)
  (d5 : l5 = true → s5 = .pointer (some ⟨X, 1, none⟩) ∧ True)
  (d6 : l6 = true → s6 = .slice oa on oc ∧ l5 = true)
  (d7 : l7 = true → (l9 = false → Rw2 B w' s4 s7 ys) ∧ l4 = true ∧ l6 = true)
  (d8 : l8 = true → s8 = .agg #[s4, s7] ∧ l4 = true ∧ l7 = true)
set_option maxRecDepth 100000 in
set_option maxHeartbeats 8000000 in
theorem suf_some (oa : Option Addr) (on oc k : Nat) (gb go gn gc : Nat) (asl : Option Addr) (hk : k ≤ gn) (hgn : gn ≤ 24) (hgc : gn ≤ gc) (hasl : (if gc = k then some (⟨gb, go, none⟩ : Addr) else some ⟨gb, go + k, none⟩) = asl) (xs ys : List Int) (w : World)
    (GO1 : Hid (∀ w1 : World, Below w.heap.size w w1 → Calls Try.prog 53 #[.slice asl (gn - k) (gc - k)] w1 fun e w' => ∃ r, e = .returned r ∧ OwnInts2 w' w1.heap.size r xs ∧ Below w1.heap.size w1 w'))
    (GO2 : Hid (∀ w1 : World, Below w.heap.size w w1 → Calls Try.prog 53 #[.slice oa on oc] w1 fun e w' => ∃ r, e = .returned r ∧ OwnInts2 w' w1.heap.size r ys ∧ Below w1.heap.size w1 w')) :
    Calls Try.prog 59 #[.agg #[.slice (some ⟨gb, go, none⟩) gn gc, .slice oa on oc], .int .i64 k] w fun e w' => ∃ u, e = .returned u ∧ OwnLa w' w.heap.size w'.heap.size u (xs, ys) ∧ Below w.heap.size w w' := by
  obtain ⟨w0, hw0⟩ : ∃ w0, (w.alloc (.cells #[.slice (some ⟨gb, go, none⟩) gn gc, .slice oa on oc] 26)).alloc (.cells #[.slice none 0 0, .slice none 0 0] 26) = w0 := ⟨_, rfl⟩
  have HB0 : Hid (Below w.heap.size w w0) := by
    show Below _ _ _
    rw [← hw0]
    exact ((Below.refl _ _).alloc (Nat.le_refl _) _).alloc (by rw [World.size_alloc]; omega) _
  have x0 := (box2_alloc w 26 (.slice (some ⟨gb, go, none⟩) gn gc) (.slice oa on oc)).alloc (.cells #[.slice none 0 0, .slice none 0 0] 26)
  have y0 := box2_alloc (w.alloc (.cells #[.slice (some ⟨gb, go, none⟩) gn gc, .slice oa on oc] 26)) 26 (.slice none 0 0) (.slice none 0 0)
  simp only [World.size_alloc] at y0
  have hz0 : w0.heap.size = w.heap.size + 2 := by rw [← hw0, World.size_alloc, World.size_alloc]
  rw [hw0] at x0 y0
  have HXP : Hid (∀ w3, Below w0.drew.heap.size w0.drew w3 → Box2 w3 w.heap.size 26 (.slice (some ⟨gb, go, none⟩) gn gc) (.slice oa on oc)) := fun w3 hb3 => Box2.below (w := w0.drew) ⟨x0.heap⟩ hb3 (by show _ < w0.heap.size; omega)
  have HYP : Hid (∀ w3, Below w0.drew.heap.size w0.drew w3 → Box2 w3 (w.heap.size + 1) 26 (.slice none 0 0) (.slice none 0 0)) := fun w3 hb3 => Box2.below (w := w0.drew) ⟨y0.heap⟩ hb3 (by show _ < w0.heap.size; omega)
  have HBW : Hid (∀ w3, Below w0.drew.heap.size w0.drew w3 → Below w.heap.size w w3) := fun w3 hb3 => HB0.out.drew.trans (hb3.mono (by show w.heap.size ≤ w0.heap.size; omega))
  have HW0 : Hid _ := hw0
  obtain ⟨a0, a1⟩ := x0.cells
  have ah := x0.heap
  have al := x0.lt
  rw [← hw0] at a0 a1 ah al
  clear x0 y0 hw0
  go_enter Try.func59, Try.ntmps59
  go_wp2_with fail
  rw [HW0.out]
  refine wp_region_any (by kernel_rfl) ?_
  change wpAny _ _ _ _ _ _ _ (World.drew _)
  refine wpAny_invN (fun lb9 ac9 w' => ∃ (l0 l1 l2 l3 l4 l5 l6 l7 l8 l9 : Bool) (s0 s1 s2 s3 s4 s5 s6 s7 s8 : Value), lb9 = #[l0, l1, l2, l3, l4, l5, l6, l7, l8, l9] ∧ ac9 = { tmps := #[.agg #[.slice (some ⟨gb, go, none⟩) gn gc, .slice oa on oc], .int .i64 k, .pointer (some ⟨w.heap.size, 0, none⟩), undef, .pointer (some ⟨w.heap.size + 1, 0, none⟩), .int .i64 k, .pointer (some ⟨w.heap.size, 0, none⟩), .slice (some ⟨gb, go, none⟩) gn gc, .int .i64 gn, .bool true, s0, s1, s2, s3, s4, s5, s6, s7, s8, undef, undef, undef, undef, undef, undef, undef], defers := [] } ∧ RegSuf w0.drew w' w0.drew.heap.size w.heap.size (w.heap.size + 1) (some ⟨gb, go, none⟩) gn gc oa on oc k (.slice asl (gn - k) (gc - k)) xs ys l0 l1 l2 l3 l4 l5 l6 l7 l8 l9 s0 s1 s2 s3 s4 s5 s6 s7 s8) ?done ?step 10 _ _ _ ⟨false, false, false, false, false, false, false, false, false, false, _, _, _, _, _, _, _, _, _, rfl, rfl, ?init⟩ (by decide)
  case init => exact { bel := fun _ => Below.refl _ _, all := fun e => (by cases e), fin := fun e => (by cases e), d0 := fun e => (by cases e), d1 := fun e => (by cases e), d2 := fun e => (by cases e), d3 := fun e => (by cases e), d4 := fun e => (by cases e), d5 := fun e => (by cases e), d6 := fun e => (by cases e), d7 := fun e => (by cases e), d8 := fun e => (by cases e) }
  case step =>
    rintro lb9 ac9 w3 ⟨l0, l1, l2, l3, l4, l5, l6, l7, l8, l9, s0, s1, s2, s3, s4, s5, s6, s7, s8, rfl, rfl, h⟩
    intro q hq
    have hlt9 := ready_ltN hq
    match q, hq, hlt9 with
    | 0, hq, _ =>
      have hr := ready_depN hq rfl
      have hme : l0 = false := hr.1
      have hT : l9 = false := by
        cases hc9 : l9 with
        | false => rfl
        | true => exact absurd (h.all hc9).1 (by rw [hme]; decide)
      have hbel := h.bel hT
      clear hr hq
      refine wpOp_runN rfl rfl (fun K hK => ?_)
      go_simp
      refine hK _ _ ⟨true, l1, l2, l3, l4, l5, l6, l7, l8, l9, _, _, _, _, _, _, _, _, _, rfl, rfl, ?_⟩
      exact { bel := h.bel, all := fun e => (by rw [hT] at e; cases e), fin := fun e => (by rw [hT] at e; cases e), d0 := fun _ => ⟨rfl, trivial⟩, d1 := fun e => absurd (h.d1 e).2 (by rw [hme]; decide), d2 := h.d2, d3 := h.d3, d4 := h.d4, d5 := h.d5, d6 := h.d6, d7 := h.d7, d8 := h.d8 }
    | 1, hq, _ =>
      have hr := ready_depN hq rfl
      have hme : l1 = false := hr.1
      have e0 : l0 = true := hr.2 ⟨0, .data⟩ (by simp) (by kernel_rfl)
      have hT : l9 = false := by
        cases hc9 : l9 with
        | false => rfl
        | true => exact absurd (h.all hc9).2.1 (by rw [hme]; decide)
      have hbel := h.bel hT
      obtain rfl := (h.d0 e0).1
      have x3 := HXP.out w3 hbel
      obtain ⟨c0, c1⟩ := x3.cells
      have ch := x3.heap
      have cl := x3.lt
      clear hr hq
      refine wpOp_runN rfl rfl (fun K hK => ?_)
      go_simp
      refine hK _ _ ⟨l0, true, l2, l3, l4, l5, l6, l7, l8, l9, _, _, _, _, _, _, _, _, _, rfl, rfl, ?_⟩
      exact { bel := h.bel, all := fun e => (by rw [hT] at e; cases e), fin := fun e => (by rw [hT] at e; cases e), d0 := h.d0, d1 := fun _ => ⟨rfl, e0⟩, d2 := h.d2, d3 := fun e => absurd (h.d3 e).2.1 (by rw [hme]; decide), d4 := h.d4, d5 := h.d5, d6 := h.d6, d7 := h.d7, d8 := h.d8 }
    | 2, hq, _ =>
      have hr := ready_depN hq rfl
      have hme : l2 = false := hr.1
      have hT : l9 = false := by
        cases hc9 : l9 with
        | false => rfl
        | true => exact absurd (h.all hc9).2.2.1 (by rw [hme]; decide)
      have hbel := h.bel hT
      clear hr hq
      refine wpOp_runN rfl rfl (fun K hK => ?_)
      go_simp
      refine hK _ _ ⟨l0, l1, true, l3, l4, l5, l6, l7, l8, l9, _, _, _, _, _, _, _, _, _, rfl, rfl, ?_⟩
      exact { bel := h.bel, all := fun e => (by rw [hT] at e; cases e), fin := fun e => (by rw [hT] at e; cases e), d0 := h.d0, d1 := h.d1, d2 := fun _ => ⟨rfl, trivial⟩, d3 := fun e => absurd (h.d3 e).2.2 (by rw [hme]; decide), d4 := h.d4, d5 := h.d5, d6 := h.d6, d7 := h.d7, d8 := h.d8 }
    | 3, hq, _ =>
      have hr := ready_depN hq rfl
      have hme : l3 = false := hr.1
      have e1 : l1 = true := hr.2 ⟨1, .data⟩ (by simp) (by kernel_rfl)
      have e2 : l2 = true := hr.2 ⟨2, .data⟩ (by simp) (by kernel_rfl)
      have hT : l9 = false := by
        cases hc9 : l9 with
        | false => rfl
        | true => exact absurd (h.all hc9).2.2.2.1 (by rw [hme]; decide)
      have hbel := h.bel hT
      obtain rfl := (h.d1 e1).1
      obtain rfl := (h.d2 e2).1
      clear hr hq
      refine wpOp_runN rfl rfl (fun K hK => ?_)
      go_simp
      refine hK _ _ ⟨l0, l1, l2, true, l4, l5, l6, l7, l8, l9, _, _, _, _, _, _, _, _, _, rfl, rfl, ?_⟩
      exact { bel := h.bel, all := fun e => (by rw [hT] at e; cases e), fin := fun e => (by rw [hT] at e; cases e), d0 := h.d0, d1 := h.d1, d2 := h.d2, d3 := fun _ => ⟨rfl, e1, e2⟩, d4 := fun e => absurd (h.d4 e).2 (by rw [hme]; decide), d5 := h.d5, d6 := h.d6, d7 := h.d7, d8 := h.d8 }
    | 4, hq, _ =>
      have hr := ready_depN hq rfl
      have hme : l4 = false := hr.1
      have e3 : l3 = true := hr.2 ⟨3, .data⟩ (by simp) (by kernel_rfl)
      have hT : l9 = false := by
        cases hc9 : l9 with
        | false => rfl
        | true => exact absurd (h.all hc9).2.2.2.2.1 (by rw [hme]; decide)
      have hbel := h.bel hT
      obtain rfl := (h.d3 e3).1
      clear hr hq
      refine wpOp_runN rfl rfl (fun K hK => ?_)
      go_simp
      go_at_call 53
      refine Calls.mono (GO1.out w3 (HBW.out w3 hbel)) ?_
      rintro e w4 ⟨r, rfl, ho, hs4⟩
      have hbel4 := hbel.trans (hs4.mono hbel.size)
      have hnew := rw_of hbel.size (own_of2 ho)
      refine hK _ _ ⟨l0, l1, l2, l3, true, l5, l6, l7, l8, l9, _, _, _, _, _, _, _, _, _, rfl, rfl, ?_⟩
      exact { bel := fun _ => hbel4, all := fun e => (by rw [hT] at e; cases e), fin := fun e => (by rw [hT] at e; cases e), d0 := h.d0, d1 := h.d1, d2 := h.d2, d3 := h.d3, d4 := fun _ => ⟨fun _ => hnew, e3⟩, d5 := h.d5, d6 := h.d6, d7 := fun e => absurd (h.d7 e).2.1 (by rw [hme]; decide), d8 := fun e => absurd (h.d8 e).2.1 (by rw [hme]; decide) }
    | 5, hq, _ =>
      have hr := ready_depN hq rfl
      have hme : l5 = false := hr.1
      have hT : l9 = false := by
        cases hc9 : l9 with
        | false => rfl
        | true => exact absurd (h.all hc9).2.2.2.2.2.1 (by rw [hme]; decide)
      have hbel := h.bel hT
      clear hr hq
      refine wpOp_runN rfl rfl (fun K hK => ?_)
      go_simp
      refine hK _ _ ⟨l0, l1, l2, l3, l4, true, l6, l7, l8, l9, _, _, _, _, _, _, _, _, _, rfl, rfl, ?_⟩
      exact { bel := h.bel, all := fun e => (by rw [hT] at e; cases e), fin := fun e => (by rw [hT] at e; cases e), d0 := h.d0, d1 := h.d1, d2 := h.d2, d3 := h.d3, d4 := h.d4, d5 := fun _ => ⟨rfl, trivial⟩, d6 := fun e => absurd (h.d6 e).2 (by rw [hme]; decide), d7 := h.d7, d8 := h.d8 }
    | 6, hq, _ =>
      have hr := ready_depN hq rfl
      have hme : l6 = false := hr.1
      have e5 : l5 = true := hr.2 ⟨5, .data⟩ (by simp) (by kernel_rfl)
      have hT : l9 = false := by
        cases hc9 : l9 with
        | false => rfl
        | true => exact absurd (h.all hc9).2.2.2.2.2.2.1 (by rw [hme]; decide)
      have hbel := h.bel hT
      obtain rfl := (h.d5 e5).1
      have x3 := HXP.out w3 hbel
      obtain ⟨c0, c1⟩ := x3.cells
      have ch := x3.heap
      have cl := x3.lt
      clear hr hq
      refine wpOp_runN rfl rfl (fun K hK => ?_)
      go_simp
      refine hK _ _ ⟨l0, l1, l2, l3, l4, l5, true, l7, l8, l9, _, _, _, _, _, _, _, _, _, rfl, rfl, ?_⟩
      exact { bel := h.bel, all := fun e => (by rw [hT] at e; cases e), fin := fun e => (by rw [hT] at e; cases e), d0 := h.d0, d1 := h.d1, d2 := h.d2, d3 := h.d3, d4 := h.d4, d5 := h.d5, d6 := fun _ => ⟨rfl, e5⟩, d7 := fun e => absurd (h.d7 e).2.2 (by rw [hme]; decide), d8 := h.d8 }
    | 7, hq, _ =>
      have hr := ready_depN hq rfl
      have hme : l7 = false := hr.1
      have e4 : l4 = true := hr.2 ⟨4, .chain⟩ (by simp) (by kernel_rfl)
      have e6 : l6 = true := hr.2 ⟨6, .data⟩ (by simp) (by kernel_rfl)
      have hT : l9 = false := by
        cases hc9 : l9 with
        | false => rfl
        | true => exact absurd (h.all hc9).2.2.2.2.2.2.2.1 (by rw [hme]; decide)
      have hbel := h.bel hT
      obtain rfl := (h.d6 e6).1
      clear hr hq
      refine wpOp_runN rfl rfl (fun K hK => ?_)
      go_simp
      go_at_call 53
      refine Calls.mono (GO2.out w3 (HBW.out w3 hbel)) ?_
      rintro e w4 ⟨r, rfl, ho, hs4⟩
      have hbel4 := hbel.trans (hs4.mono hbel.size)
      have hnew := rw2_of hbel.size ((h.d4 e4).1 hT) (own_of2 ho)
      refine hK _ _ ⟨l0, l1, l2, l3, l4, l5, l6, true, l8, l9, _, _, _, _, _, _, _, _, _, rfl, rfl, ?_⟩
      exact { bel := fun _ => hbel4, all := fun e => (by rw [hT] at e; cases e), fin := fun e => (by rw [hT] at e; cases e), d0 := h.d0, d1 := h.d1, d2 := h.d2, d3 := h.d3, d4 := fun e => ⟨fun hx => ((h.d4 e).1 hx).below hs4, (h.d4 e).2⟩, d5 := h.d5, d6 := h.d6, d7 := fun _ => ⟨fun _ => hnew, e4, e6⟩, d8 := fun e => absurd (h.d8 e).2.2 (by rw [hme]; decide) }
    | 8, hq, _ =>
      have hr := ready_depN hq rfl
      have hme : l8 = false := hr.1
      have e4 : l4 = true := hr.2 ⟨4, .data⟩ (by simp) (by kernel_rfl)
      have e7 : l7 = true := hr.2 ⟨7, .data⟩ (by simp) (by kernel_rfl)
      have hT : l9 = false := by
        cases hc9 : l9 with
        | false => rfl
        | true => exact absurd (h.all hc9).2.2.2.2.2.2.2.2 (by rw [hme]; decide)
      have hbel := h.bel hT
      obtain ⟨u3a, u3n, u3c, rfl⟩ := ((h.d4 e4).1 hT).shape
      obtain ⟨u9a, u9n, u9c, rfl⟩ := ((h.d7 e7).1 hT).shape
      clear hr hq
      refine wpOp_runN rfl rfl (fun K hK => ?_)
      go_simp
      refine hK _ _ ⟨l0, l1, l2, l3, l4, l5, l6, l7, true, l9, _, _, _, _, _, _, _, _, _, rfl, rfl, ?_⟩
      exact { bel := h.bel, all := fun e => (by rw [hT] at e; cases e), fin := fun e => (by rw [hT] at e; cases e), d0 := h.d0, d1 := h.d1, d2 := h.d2, d3 := h.d3, d4 := h.d4, d5 := h.d5, d6 := h.d6, d7 := h.d7, d8 := fun _ => ⟨rfl, e4, e7⟩ }
    | 9, hq, _ =>
      have hr := ready_depN hq rfl
      have hme : l9 = false := hr.1
      have e0 : l0 = true := hr.2 ⟨0, .phase⟩ (by simp) (by kernel_rfl)
      have e1 : l1 = true := hr.2 ⟨1, .phase⟩ (by simp) (by kernel_rfl)
      have e2 : l2 = true := hr.2 ⟨2, .phase⟩ (by simp) (by kernel_rfl)
      have e3 : l3 = true := hr.2 ⟨3, .phase⟩ (by simp) (by kernel_rfl)
      have e4 : l4 = true := hr.2 ⟨4, .phase⟩ (by simp) (by kernel_rfl)
      have e5 : l5 = true := hr.2 ⟨5, .phase⟩ (by simp) (by kernel_rfl)
      have e6 : l6 = true := hr.2 ⟨6, .phase⟩ (by simp) (by kernel_rfl)
      have e7 : l7 = true := hr.2 ⟨7, .chain⟩ (by simp) (by kernel_rfl)
      have e8 : l8 = true := hr.2 ⟨8, .data⟩ (by simp) (by kernel_rfl)
      have hbel := h.bel hme
      obtain rfl := (h.d0 e0).1
      obtain rfl := (h.d1 e1).1
      obtain rfl := (h.d2 e2).1
      obtain rfl := (h.d3 e3).1
      obtain rfl := (h.d5 e5).1
      obtain rfl := (h.d6 e6).1
      obtain rfl := (h.d8 e8).1
      have y3 := HYP.out w3 hbel
      obtain ⟨k0, k1⟩ := y3.cells
      have kh := y3.heap
      have kl := y3.lt
      have kf0 := y3.frozen 0
      have kf1 := y3.frozen 1
      clear hr hq
      have hF4 := (h.d4 e4).1 hme
      have hF7 := (h.d7 e7).1 hme
      refine wpOp_runN rfl rfl (fun K hK => ?_)
      obtain ⟨u3a, u3n, u3c, rfl⟩ := hF4.shape
      obtain ⟨u9a, u9n, u9c, rfl⟩ := hF7.shape
      go_simp
      refine hK _ _ ⟨l0, l1, l2, l3, l4, l5, l6, l7, l8, true, _, _, _, _, _, _, _, _, _, rfl, rfl, ?_⟩
      exact { bel := fun e => (by cases e), all := fun _ => ⟨e0, e1, e2, e3, e4, e5, e6, e7, e8⟩, fin := fun _ => ⟨w3, hbel, rfl, hF4, hF7⟩, d0 := h.d0, d1 := h.d1, d2 := h.d2, d3 := h.d3, d4 := fun e => ⟨fun e9 => (by cases e9), (h.d4 e).2⟩, d5 := h.d5, d6 := h.d6, d7 := fun e => ⟨fun e9 => (by cases e9), (h.d7 e).2⟩, d8 := h.d8 }
    | k + 10, hq, h18 => exact (Nat.not_lt_of_le (Nat.le_add_left 10 k) h18).elim
  case done =>
    rintro lb9 ac9 w3 ⟨l0, l1, l2, l3, l4, l5, l6, l7, l8, l9, s0, s1, s2, s3, s4, s5, s6, s7, s8, rfl, rfl, h⟩ hr
    cases l0
    · exact (ready_none2N hr 0 rfl rfl rfl).elim
    cases l1
    · exact (ready_none2N hr 1 rfl rfl rfl).elim
    cases l2
    · exact (ready_none2N hr 2 rfl rfl rfl).elim
    cases l3
    · exact (ready_none2N hr 3 rfl rfl rfl).elim
    cases l4
    · exact (ready_none2N hr 4 rfl rfl rfl).elim
    cases l5
    · exact (ready_none2N hr 5 rfl rfl rfl).elim
    cases l6
    · exact (ready_none2N hr 6 rfl rfl rfl).elim
    cases l7
    · exact (ready_none2N hr 7 rfl rfl rfl).elim
    cases l8
    · exact (ready_none2N hr 8 rfl rfl rfl).elim
    cases l9
    · exact (ready_none2N hr 9 rfl rfl rfl).elim
    obtain rfl := (h.d0 rfl).1
    obtain rfl := (h.d1 rfl).1
    obtain rfl := (h.d2 rfl).1
    obtain rfl := (h.d3 rfl).1
    obtain rfl := (h.d5 rfl).1
    obtain rfl := (h.d6 rfl).1
    obtain rfl := (h.d8 rfl).1
    obtain ⟨w4, hbel, rfl, hF4, hF7⟩ := h.fin rfl
    clear h hr
    obtain ⟨u3a, u3n, u3c, rfl⟩ := hF4.shape
    obtain ⟨u9a, u9n, u9c, rfl⟩ := hF7.shape
    have y4 := ((HYP.out w4 hbel).set0 (.slice u3a u3n u3c)).set1 (.slice u9a u9n u9c)
    have hsz4 := hbel.size
    change w0.heap.size ≤ w4.heap.size at hsz4
    have hO := ((ownLa_rw hF4 hF7).setO (b := w.heap.size + 1) (o := 0) (x := .slice u3a u3n u3c) (Or.inl (by show _ < w0.heap.size; omega))).setO (b := w.heap.size + 1) (o := 1) (x := .slice u9a u9n u9c) (Or.inl (by show _ < w0.heap.size; omega))
    have HOL : Hid (OwnLa ((w4.setCell ⟨w.heap.size + 1, 0, none⟩ (.slice u3a u3n u3c)).setCell ⟨w.heap.size + 1, 1, none⟩ (.slice u9a u9n u9c)) w.heap.size ((w4.setCell ⟨w.heap.size + 1, 0, none⟩ (.slice u3a u3n u3c)).setCell ⟨w.heap.size + 1, 1, none⟩ (.slice u9a u9n u9c)).heap.size (.agg #[.slice u3a u3n u3c, .slice u9a u9n u9c]) (xs, ys)) := hO.weak (by show w.heap.size ≤ w0.heap.size; omega) (by rw [size_set, size_set]; exact Nat.le_refl _) (Nat.le_refl _)
    have HBE : Hid (Below w.heap.size w ((w4.setCell ⟨w.heap.size + 1, 0, none⟩ (.slice u3a u3n u3c)).setCell ⟨w.heap.size + 1, 1, none⟩ (.slice u9a u9n u9c))) := ((HBW.out w4 hbel).setCell (by show w.heap.size ≤ w.heap.size + 1; omega) _).setCell (by show w.heap.size ≤ w.heap.size + 1; omega) _
    have hyh := y4.heap
    clear hO hF4 hF7
    go_wp2_with fail
    refine bodyPost_ret (results_cell_row rfl _ _ (w.heap.size + 1) 26 _ (0, 0) _ rfl hyh Try.underlying26 rfl (by kernel_rfl)) rfl ?_
    exact ⟨_, rfl, HOL.out, HBE.out⟩
set_option maxRecDepth 100000 in
set_option maxHeartbeats 8000000 in
theorem suf_none (oa : Option Addr) (on oc k : Nat) (hk : k = 0) (xs ys : List Int) (w : World)
    (GO1 : Hid (∀ w1 : World, Below w.heap.size w w1 → Calls Try.prog 53 #[.slice none 0 0] w1 fun e w' => ∃ r, e = .returned r ∧ OwnInts2 w' w1.heap.size r xs ∧ Below w1.heap.size w1 w'))
    (GO2 : Hid (∀ w1 : World, Below w.heap.size w w1 → Calls Try.prog 53 #[.slice oa on oc] w1 fun e w' => ∃ r, e = .returned r ∧ OwnInts2 w' w1.heap.size r ys ∧ Below w1.heap.size w1 w')) :
    Calls Try.prog 59 #[.agg #[.slice none 0 0, .slice oa on oc], .int .i64 k] w fun e w' => ∃ u, e = .returned u ∧ OwnLa w' w.heap.size w'.heap.size u (xs, ys) ∧ Below w.heap.size w w' := by
  subst hk
  obtain ⟨w0, hw0⟩ : ∃ w0, (w.alloc (.cells #[.slice none 0 0, .slice oa on oc] 26)).alloc (.cells #[.slice none 0 0, .slice none 0 0] 26) = w0 := ⟨_, rfl⟩
  have HB0 : Hid (Below w.heap.size w w0) := by
    show Below _ _ _
    rw [← hw0]
    exact ((Below.refl _ _).alloc (Nat.le_refl _) _).alloc (by rw [World.size_alloc]; omega) _
  have x0 := (box2_alloc w 26 (.slice none 0 0) (.slice oa on oc)).alloc (.cells #[.slice none 0 0, .slice none 0 0] 26)
  have y0 := box2_alloc (w.alloc (.cells #[.slice none 0 0, .slice oa on oc] 26)) 26 (.slice none 0 0) (.slice none 0 0)
  simp only [World.size_alloc] at y0
  have hz0 : w0.heap.size = w.heap.size + 2 := by rw [← hw0, World.size_alloc, World.size_alloc]
  rw [hw0] at x0 y0
  have HXP : Hid (∀ w3, Below w0.drew.heap.size w0.drew w3 → Box2 w3 w.heap.size 26 (.slice none 0 0) (.slice oa on oc)) := fun w3 hb3 => Box2.below (w := w0.drew) ⟨x0.heap⟩ hb3 (by show _ < w0.heap.size; omega)
  have HYP : Hid (∀ w3, Below w0.drew.heap.size w0.drew w3 → Box2 w3 (w.heap.size + 1) 26 (.slice none 0 0) (.slice none 0 0)) := fun w3 hb3 => Box2.below (w := w0.drew) ⟨y0.heap⟩ hb3 (by show _ < w0.heap.size; omega)
  have HBW : Hid (∀ w3, Below w0.drew.heap.size w0.drew w3 → Below w.heap.size w w3) := fun w3 hb3 => HB0.out.drew.trans (hb3.mono (by show w.heap.size ≤ w0.heap.size; omega))
  have HW0 : Hid _ := hw0
  obtain ⟨a0, a1⟩ := x0.cells
  have ah := x0.heap
  have al := x0.lt
  rw [← hw0] at a0 a1 ah al
  clear x0 y0 hw0
  go_enter Try.func59, Try.ntmps59
  go_wp2_with fail
  rw [HW0.out]
  refine wp_region_any (by kernel_rfl) ?_
  change wpAny _ _ _ _ _ _ _ (World.drew _)
  refine wpAny_invN (fun lb9 ac9 w' => ∃ (l0 l1 l2 l3 l4 l5 l6 l7 l8 l9 : Bool) (s0 s1 s2 s3 s4 s5 s6 s7 s8 : Value), lb9 = #[l0, l1, l2, l3, l4, l5, l6, l7, l8, l9] ∧ ac9 = { tmps := #[.agg #[.slice none 0 0, .slice oa on oc], .int .i64 0, .pointer (some ⟨w.heap.size, 0, none⟩), undef, .pointer (some ⟨w.heap.size + 1, 0, none⟩), .int .i64 0, .pointer (some ⟨w.heap.size, 0, none⟩), .slice none 0 0, .int .i64 0, .bool true, s0, s1, s2, s3, s4, s5, s6, s7, s8, undef, undef, undef, undef, undef, undef, undef], defers := [] } ∧ RegSuf w0.drew w' w0.drew.heap.size w.heap.size (w.heap.size + 1) none 0 0 oa on oc 0 (.slice none 0 0) xs ys l0 l1 l2 l3 l4 l5 l6 l7 l8 l9 s0 s1 s2 s3 s4 s5 s6 s7 s8) ?done ?step 10 _ _ _ ⟨false, false, false, false, false, false, false, false, false, false, _, _, _, _, _, _, _, _, _, rfl, rfl, ?init⟩ (by decide)
  case init => exact { bel := fun _ => Below.refl _ _, all := fun e => (by cases e), fin := fun e => (by cases e), d0 := fun e => (by cases e), d1 := fun e => (by cases e), d2 := fun e => (by cases e), d3 := fun e => (by cases e), d4 := fun e => (by cases e), d5 := fun e => (by cases e), d6 := fun e => (by cases e), d7 := fun e => (by cases e), d8 := fun e => (by cases e) }
  case step =>
    rintro lb9 ac9 w3 ⟨l0, l1, l2, l3, l4, l5, l6, l7, l8, l9, s0, s1, s2, s3, s4, s5, s6, s7, s8, rfl, rfl, h⟩
    intro q hq
    have hlt9 := ready_ltN hq
    match q, hq, hlt9 with
    | 0, hq, _ =>
      have hr := ready_depN hq rfl
      have hme : l0 = false := hr.1
      have hT : l9 = false := by
        cases hc9 : l9 with
        | false => rfl
        | true => exact absurd (h.all hc9).1 (by rw [hme]; decide)
      have hbel := h.bel hT
      clear hr hq
      refine wpOp_runN rfl rfl (fun K hK => ?_)
      go_simp
      refine hK _ _ ⟨true, l1, l2, l3, l4, l5, l6, l7, l8, l9, _, _, _, _, _, _, _, _, _, rfl, rfl, ?_⟩
      exact { bel := h.bel, all := fun e => (by rw [hT] at e; cases e), fin := fun e => (by rw [hT] at e; cases e), d0 := fun _ => ⟨rfl, trivial⟩, d1 := fun e => absurd (h.d1 e).2 (by rw [hme]; decide), d2 := h.d2, d3 := h.d3, d4 := h.d4, d5 := h.d5, d6 := h.d6, d7 := h.d7, d8 := h.d8 }
    | 1, hq, _ =>
      have hr := ready_depN hq rfl
      have hme : l1 = false := hr.1
      have e0 : l0 = true := hr.2 ⟨0, .data⟩ (by simp) (by kernel_rfl)
      have hT : l9 = false := by
        cases hc9 : l9 with
        | false => rfl
        | true => exact absurd (h.all hc9).2.1 (by rw [hme]; decide)
      have hbel := h.bel hT
      obtain rfl := (h.d0 e0).1
      have x3 := HXP.out w3 hbel
      obtain ⟨c0, c1⟩ := x3.cells
      have ch := x3.heap
      have cl := x3.lt
      clear hr hq
      refine wpOp_runN rfl rfl (fun K hK => ?_)
      go_simp
      refine hK _ _ ⟨l0, true, l2, l3, l4, l5, l6, l7, l8, l9, _, _, _, _, _, _, _, _, _, rfl, rfl, ?_⟩
      exact { bel := h.bel, all := fun e => (by rw [hT] at e; cases e), fin := fun e => (by rw [hT] at e; cases e), d0 := h.d0, d1 := fun _ => ⟨rfl, e0⟩, d2 := h.d2, d3 := fun e => absurd (h.d3 e).2.1 (by rw [hme]; decide), d4 := h.d4, d5 := h.d5, d6 := h.d6, d7 := h.d7, d8 := h.d8 }
    | 2, hq, _ =>
      have hr := ready_depN hq rfl
      have hme : l2 = false := hr.1
      have hT : l9 = false := by
        cases hc9 : l9 with
        | false => rfl
        | true => exact absurd (h.all hc9).2.2.1 (by rw [hme]; decide)
      have hbel := h.bel hT
      clear hr hq
      refine wpOp_runN rfl rfl (fun K hK => ?_)
      go_simp
      refine hK _ _ ⟨l0, l1, true, l3, l4, l5, l6, l7, l8, l9, _, _, _, _, _, _, _, _, _, rfl, rfl, ?_⟩
      exact { bel := h.bel, all := fun e => (by rw [hT] at e; cases e), fin := fun e => (by rw [hT] at e; cases e), d0 := h.d0, d1 := h.d1, d2 := fun _ => ⟨rfl, trivial⟩, d3 := fun e => absurd (h.d3 e).2.2 (by rw [hme]; decide), d4 := h.d4, d5 := h.d5, d6 := h.d6, d7 := h.d7, d8 := h.d8 }
    | 3, hq, _ =>
      have hr := ready_depN hq rfl
      have hme : l3 = false := hr.1
      have e1 : l1 = true := hr.2 ⟨1, .data⟩ (by simp) (by kernel_rfl)
      have e2 : l2 = true := hr.2 ⟨2, .data⟩ (by simp) (by kernel_rfl)
      have hT : l9 = false := by
        cases hc9 : l9 with
        | false => rfl
        | true => exact absurd (h.all hc9).2.2.2.1 (by rw [hme]; decide)
      have hbel := h.bel hT
      obtain rfl := (h.d1 e1).1
      obtain rfl := (h.d2 e2).1
      clear hr hq
      refine wpOp_runN rfl rfl (fun K hK => ?_)
      go_simp
      refine hK _ _ ⟨l0, l1, l2, true, l4, l5, l6, l7, l8, l9, _, _, _, _, _, _, _, _, _, rfl, rfl, ?_⟩
      exact { bel := h.bel, all := fun e => (by rw [hT] at e; cases e), fin := fun e => (by rw [hT] at e; cases e), d0 := h.d0, d1 := h.d1, d2 := h.d2, d3 := fun _ => ⟨rfl, e1, e2⟩, d4 := fun e => absurd (h.d4 e).2 (by rw [hme]; decide), d5 := h.d5, d6 := h.d6, d7 := h.d7, d8 := h.d8 }
    | 4, hq, _ =>
      have hr := ready_depN hq rfl
      have hme : l4 = false := hr.1
      have e3 : l3 = true := hr.2 ⟨3, .data⟩ (by simp) (by kernel_rfl)
      have hT : l9 = false := by
        cases hc9 : l9 with
        | false => rfl
        | true => exact absurd (h.all hc9).2.2.2.2.1 (by rw [hme]; decide)
      have hbel := h.bel hT
      obtain rfl := (h.d3 e3).1
      clear hr hq
      refine wpOp_runN rfl rfl (fun K hK => ?_)
      go_simp
      go_at_call 53
      refine Calls.mono (GO1.out w3 (HBW.out w3 hbel)) ?_
      rintro e w4 ⟨r, rfl, ho, hs4⟩
      have hbel4 := hbel.trans (hs4.mono hbel.size)
      have hnew := rw_of hbel.size (own_of2 ho)
      refine hK _ _ ⟨l0, l1, l2, l3, true, l5, l6, l7, l8, l9, _, _, _, _, _, _, _, _, _, rfl, rfl, ?_⟩
      exact { bel := fun _ => hbel4, all := fun e => (by rw [hT] at e; cases e), fin := fun e => (by rw [hT] at e; cases e), d0 := h.d0, d1 := h.d1, d2 := h.d2, d3 := h.d3, d4 := fun _ => ⟨fun _ => hnew, e3⟩, d5 := h.d5, d6 := h.d6, d7 := fun e => absurd (h.d7 e).2.1 (by rw [hme]; decide), d8 := fun e => absurd (h.d8 e).2.1 (by rw [hme]; decide) }
    | 5, hq, _ =>
      have hr := ready_depN hq rfl
      have hme : l5 = false := hr.1
      have hT : l9 = false := by
        cases hc9 : l9 with
        | false => rfl
        | true => exact absurd (h.all hc9).2.2.2.2.2.1 (by rw [hme]; decide)
      have hbel := h.bel hT
      clear hr hq
      refine wpOp_runN rfl rfl (fun K hK => ?_)
      go_simp
      refine hK _ _ ⟨l0, l1, l2, l3, l4, true, l6, l7, l8, l9, _, _, _, _, _, _, _, _, _, rfl, rfl, ?_⟩
      exact { bel := h.bel, all := fun e => (by rw [hT] at e; cases e), fin := fun e => (by rw [hT] at e; cases e), d0 := h.d0, d1 := h.d1, d2 := h.d2, d3 := h.d3, d4 := h.d4, d5 := fun _ => ⟨rfl, trivial⟩, d6 := fun e => absurd (h.d6 e).2 (by rw [hme]; decide), d7 := h.d7, d8 := h.d8 }
    | 6, hq, _ =>
      have hr := ready_depN hq rfl
      have hme : l6 = false := hr.1
      have e5 : l5 = true := hr.2 ⟨5, .data⟩ (by simp) (by kernel_rfl)
      have hT : l9 = false := by
        cases hc9 : l9 with
        | false => rfl
        | true => exact absurd (h.all hc9).2.2.2.2.2.2.1 (by rw [hme]; decide)
      have hbel := h.bel hT
      obtain rfl := (h.d5 e5).1
      have x3 := HXP.out w3 hbel
      obtain ⟨c0, c1⟩ := x3.cells
      have ch := x3.heap
      have cl := x3.lt
      clear hr hq
      refine wpOp_runN rfl rfl (fun K hK => ?_)
      go_simp
      refine hK _ _ ⟨l0, l1, l2, l3, l4, l5, true, l7, l8, l9, _, _, _, _, _, _, _, _, _, rfl, rfl, ?_⟩
      exact { bel := h.bel, all := fun e => (by rw [hT] at e; cases e), fin := fun e => (by rw [hT] at e; cases e), d0 := h.d0, d1 := h.d1, d2 := h.d2, d3 := h.d3, d4 := h.d4, d5 := h.d5, d6 := fun _ => ⟨rfl, e5⟩, d7 := fun e => absurd (h.d7 e).2.2 (by rw [hme]; decide), d8 := h.d8 }
    | 7, hq, _ =>
      have hr := ready_depN hq rfl
      have hme : l7 = false := hr.1
      have e4 : l4 = true := hr.2 ⟨4, .chain⟩ (by simp) (by kernel_rfl)
      have e6 : l6 = true := hr.2 ⟨6, .data⟩ (by simp) (by kernel_rfl)
      have hT : l9 = false := by
        cases hc9 : l9 with
        | false => rfl
        | true => exact absurd (h.all hc9).2.2.2.2.2.2.2.1 (by rw [hme]; decide)
      have hbel := h.bel hT
      obtain rfl := (h.d6 e6).1
      clear hr hq
      refine wpOp_runN rfl rfl (fun K hK => ?_)
      go_simp
      go_at_call 53
      refine Calls.mono (GO2.out w3 (HBW.out w3 hbel)) ?_
      rintro e w4 ⟨r, rfl, ho, hs4⟩
      have hbel4 := hbel.trans (hs4.mono hbel.size)
      have hnew := rw2_of hbel.size ((h.d4 e4).1 hT) (own_of2 ho)
      refine hK _ _ ⟨l0, l1, l2, l3, l4, l5, l6, true, l8, l9, _, _, _, _, _, _, _, _, _, rfl, rfl, ?_⟩
      exact { bel := fun _ => hbel4, all := fun e => (by rw [hT] at e; cases e), fin := fun e => (by rw [hT] at e; cases e), d0 := h.d0, d1 := h.d1, d2 := h.d2, d3 := h.d3, d4 := fun e => ⟨fun hx => ((h.d4 e).1 hx).below hs4, (h.d4 e).2⟩, d5 := h.d5, d6 := h.d6, d7 := fun _ => ⟨fun _ => hnew, e4, e6⟩, d8 := fun e => absurd (h.d8 e).2.2 (by rw [hme]; decide) }
    | 8, hq, _ =>
      have hr := ready_depN hq rfl
      have hme : l8 = false := hr.1
      have e4 : l4 = true := hr.2 ⟨4, .data⟩ (by simp) (by kernel_rfl)
      have e7 : l7 = true := hr.2 ⟨7, .data⟩ (by simp) (by kernel_rfl)
      have hT : l9 = false := by
        cases hc9 : l9 with
        | false => rfl
        | true => exact absurd (h.all hc9).2.2.2.2.2.2.2.2 (by rw [hme]; decide)
      have hbel := h.bel hT
      obtain ⟨u3a, u3n, u3c, rfl⟩ := ((h.d4 e4).1 hT).shape
      obtain ⟨u9a, u9n, u9c, rfl⟩ := ((h.d7 e7).1 hT).shape
      clear hr hq
      refine wpOp_runN rfl rfl (fun K hK => ?_)
      go_simp
      refine hK _ _ ⟨l0, l1, l2, l3, l4, l5, l6, l7, true, l9, _, _, _, _, _, _, _, _, _, rfl, rfl, ?_⟩
      exact { bel := h.bel, all := fun e => (by rw [hT] at e; cases e), fin := fun e => (by rw [hT] at e; cases e), d0 := h.d0, d1 := h.d1, d2 := h.d2, d3 := h.d3, d4 := h.d4, d5 := h.d5, d6 := h.d6, d7 := h.d7, d8 := fun _ => ⟨rfl, e4, e7⟩ }
    | 9, hq, _ =>
      have hr := ready_depN hq rfl
      have hme : l9 = false := hr.1
      have e0 : l0 = true := hr.2 ⟨0, .phase⟩ (by simp) (by kernel_rfl)
      have e1 : l1 = true := hr.2 ⟨1, .phase⟩ (by simp) (by kernel_rfl)
      have e2 : l2 = true := hr.2 ⟨2, .phase⟩ (by simp) (by kernel_rfl)
      have e3 : l3 = true := hr.2 ⟨3, .phase⟩ (by simp) (by kernel_rfl)
      have e4 : l4 = true := hr.2 ⟨4, .phase⟩ (by simp) (by kernel_rfl)
      have e5 : l5 = true := hr.2 ⟨5, .phase⟩ (by simp) (by kernel_rfl)
      have e6 : l6 = true := hr.2 ⟨6, .phase⟩ (by simp) (by kernel_rfl)
      have e7 : l7 = true := hr.2 ⟨7, .chain⟩ (by simp) (by kernel_rfl)
      have e8 : l8 = true := hr.2 ⟨8, .data⟩ (by simp) (by kernel_rfl)
      have hbel := h.bel hme
      obtain rfl := (h.d0 e0).1
      obtain rfl := (h.d1 e1).1
      obtain rfl := (h.d2 e2).1
      obtain rfl := (h.d3 e3).1
      obtain rfl := (h.d5 e5).1
      obtain rfl := (h.d6 e6).1
      obtain rfl := (h.d8 e8).1
      have y3 := HYP.out w3 hbel
      obtain ⟨k0, k1⟩ := y3.cells
      have kh := y3.heap
      have kl := y3.lt
      have kf0 := y3.frozen 0
      have kf1 := y3.frozen 1
      clear hr hq
      have hF4 := (h.d4 e4).1 hme
      have hF7 := (h.d7 e7).1 hme
      refine wpOp_runN rfl rfl (fun K hK => ?_)
      obtain ⟨u3a, u3n, u3c, rfl⟩ := hF4.shape
      obtain ⟨u9a, u9n, u9c, rfl⟩ := hF7.shape
      go_simp
      refine hK _ _ ⟨l0, l1, l2, l3, l4, l5, l6, l7, l8, true, _, _, _, _, _, _, _, _, _, rfl, rfl, ?_⟩
      exact { bel := fun e => (by cases e), all := fun _ => ⟨e0, e1, e2, e3, e4, e5, e6, e7, e8⟩, fin := fun _ => ⟨w3, hbel, rfl, hF4, hF7⟩, d0 := h.d0, d1 := h.d1, d2 := h.d2, d3 := h.d3, d4 := fun e => ⟨fun e9 => (by cases e9), (h.d4 e).2⟩, d5 := h.d5, d6 := h.d6, d7 := fun e => ⟨fun e9 => (by cases e9), (h.d7 e).2⟩, d8 := h.d8 }
    | k + 10, hq, h18 => exact (Nat.not_lt_of_le (Nat.le_add_left 10 k) h18).elim
  case done =>
    rintro lb9 ac9 w3 ⟨l0, l1, l2, l3, l4, l5, l6, l7, l8, l9, s0, s1, s2, s3, s4, s5, s6, s7, s8, rfl, rfl, h⟩ hr
    cases l0
    · exact (ready_none2N hr 0 rfl rfl rfl).elim
    cases l1
    · exact (ready_none2N hr 1 rfl rfl rfl).elim
    cases l2
    · exact (ready_none2N hr 2 rfl rfl rfl).elim
    cases l3
    · exact (ready_none2N hr 3 rfl rfl rfl).elim
    cases l4
    · exact (ready_none2N hr 4 rfl rfl rfl).elim
    cases l5
    · exact (ready_none2N hr 5 rfl rfl rfl).elim
    cases l6
    · exact (ready_none2N hr 6 rfl rfl rfl).elim
    cases l7
    · exact (ready_none2N hr 7 rfl rfl rfl).elim
    cases l8
    · exact (ready_none2N hr 8 rfl rfl rfl).elim
    cases l9
    · exact (ready_none2N hr 9 rfl rfl rfl).elim
    obtain rfl := (h.d0 rfl).1
    obtain rfl := (h.d1 rfl).1
    obtain rfl := (h.d2 rfl).1
    obtain rfl := (h.d3 rfl).1
    obtain rfl := (h.d5 rfl).1
    obtain rfl := (h.d6 rfl).1
    obtain rfl := (h.d8 rfl).1
    obtain ⟨w4, hbel, rfl, hF4, hF7⟩ := h.fin rfl
    clear h hr
    obtain ⟨u3a, u3n, u3c, rfl⟩ := hF4.shape
    obtain ⟨u9a, u9n, u9c, rfl⟩ := hF7.shape
    have y4 := ((HYP.out w4 hbel).set0 (.slice u3a u3n u3c)).set1 (.slice u9a u9n u9c)
    have hsz4 := hbel.size
    change w0.heap.size ≤ w4.heap.size at hsz4
    have hO := ((ownLa_rw hF4 hF7).setO (b := w.heap.size + 1) (o := 0) (x := .slice u3a u3n u3c) (Or.inl (by show _ < w0.heap.size; omega))).setO (b := w.heap.size + 1) (o := 1) (x := .slice u9a u9n u9c) (Or.inl (by show _ < w0.heap.size; omega))
    have HOL : Hid (OwnLa ((w4.setCell ⟨w.heap.size + 1, 0, none⟩ (.slice u3a u3n u3c)).setCell ⟨w.heap.size + 1, 1, none⟩ (.slice u9a u9n u9c)) w.heap.size ((w4.setCell ⟨w.heap.size + 1, 0, none⟩ (.slice u3a u3n u3c)).setCell ⟨w.heap.size + 1, 1, none⟩ (.slice u9a u9n u9c)).heap.size (.agg #[.slice u3a u3n u3c, .slice u9a u9n u9c]) (xs, ys)) := hO.weak (by show w.heap.size ≤ w0.heap.size; omega) (by rw [size_set, size_set]; exact Nat.le_refl _) (Nat.le_refl _)
    have HBE : Hid (Below w.heap.size w ((w4.setCell ⟨w.heap.size + 1, 0, none⟩ (.slice u3a u3n u3c)).setCell ⟨w.heap.size + 1, 1, none⟩ (.slice u9a u9n u9c))) := ((HBW.out w4 hbel).setCell (by show w.heap.size ≤ w.heap.size + 1; omega) _).setCell (by show w.heap.size ≤ w.heap.size + 1; omega) _
    have hyh := y4.heap
    clear hO hF4 hF7
    go_wp2_with fail
    refine bodyPost_ret (results_cell_row rfl _ _ (w.heap.size + 1) 26 _ (0, 0) _ rfl hyh Try.underlying26 rfl (by kernel_rfl)) rfl ?_
    exact ⟨_, rfl, HOL.out, HBE.out⟩
end Go.Proofs.Ythamdefkcjfjpaa

namespace Go.Proofs.Ythamdefkcjfjpaa
open Go Go.RowKit
open M
set_option linter.unusedVariables false
set_option linter.unusedSimpArgs false

def letR (l : La) (k : Int) : Int := if atB l k = true then letL l k.toNat else 0
def unrR (l : La) (k : Int) : List Int := if atB l k = true then unrL l 0 k.toNat else []
def sufR (l : La) (k : Int) : La := if atB l k = true then sufL l k.toNat else ([], [])
theorem at_parts {l : La} {k : Int} (h : atB l k = true) : goodLa l = true ∧ ∃ n : Nat, k = n ∧ n ≤ 1000 := by
  unfold atB at h
  rw [Bool.and_eq_true, decide_eq_true_eq] at h
  exact ⟨h.1, k.toNat, by omega, by omega⟩
set_option maxRecDepth 100000 in
theorem iLetterAt_any (v : Value) (l : La) (k : Int) (w : World) (h : AtLa w v l) :
    Calls Try.prog 30 #[v, .int .i64 k] w fun e w' => e = .returned (.tuple #[.int .i64 (letR l k), .bool (atB l k)]) ∧ Below w.heap.size w w' := by
  have HG : Hid (∀ w1 : World, Below w.heap.size w w1 → Calls Try.prog 58 #[v, .int .i64 k] w1 fun e w' => e = .returned (.bool (atB l k)) ∧ Below w1.heap.size w1 w') := fun w1 hb => goodAt_any v l k w1 (h.below hb)
  have HLT : Hid (atB l k = true → ∀ w1 : World, Below w.heap.size w w1 → Calls Try.prog 63 #[v, .int .i64 k] w1 fun e w' => e = .returned (.int .i64 (letR l k)) ∧ Below w1.heap.size w1 w') := fun hat w1 hb => by
    obtain ⟨hg, n, rfl, hn⟩ := at_parts hat
    unfold letR
    rw [if_pos hat, Int.toNat_natCast]
    exact letter_any v l hg n (by omega) w1 (h.below hb)
  have HN : Hid (atB l k = false → letR l k = 0) := fun e => by
    unfold letR
    rw [if_neg (by rw [e]; decide)]
  obtain ⟨ga, gn, gc, oa, on, oc, rfl⟩ := h.shape
  have HB0 : Hid (Below w.heap.size w (w.alloc (.cells #[.slice ga gn gc, .slice oa on oc] 26))) := (Below.refl _ _).alloc (Nat.le_refl _) _
  have x0 := box2_alloc w 26 (.slice ga gn gc) (.slice oa on oc)
  have HX0 : Hid _ := x0
  have g := HG.out _ HB0.out
  clear h HG x0
  generalize letR l k = LR at *
  generalize atB l k = AB at *
  cases AB with
  | false =>
    have HZ := HN.out rfl
    subst HZ
    clear HLT HN HX0
    go_enter Try.func30, Try.ntmps30
    go_wp2_with fail
    refine g.mono ?_
    rintro e w1 ⟨rfl, hs⟩
    have HB1 : Hid (Below w.heap.size w w1) := HB0.out.trans (hs.mono HB0.out.size)
    clear g hs
    go_wp2_with fail
    go_ret2
    exact ⟨rfl, HB1.out⟩
  | true =>
    have HL2 : Hid _ := HLT.out rfl
    clear HLT HN
    go_enter Try.func30, Try.ntmps30
    go_wp2_with fail
    refine g.mono ?_
    generalize w.alloc (.cells #[.slice ga gn gc, .slice oa on oc] 26) = w0 at *
    rintro e w1 ⟨rfl, hs⟩
    have HB1 : Hid (Below w.heap.size w w1) := HB0.out.trans (hs.mono HB0.out.size)
    have x1 := HX0.out.below hs HX0.out.lt
    obtain ⟨a0, a1⟩ := x1.cells
    have ah := x1.heap
    have al := x1.lt
    clear g hs x1 HX0
    have g2 := HL2.out _ HB1.out
    go_wp2_with fail
    refine g2.mono ?_
    rintro e w2 ⟨rfl, hs⟩
    have HB2 : Hid (Below w.heap.size w w2) := HB1.out.trans (hs.mono HB1.out.size)
    clear g2 hs a0 a1 ah al
    go_wp2_with fail
    go_ret2
    exact ⟨rfl, HB2.out⟩
set_option maxRecDepth 100000 in
theorem iUnrollOf_any (v : Value) (l : La) (k : Int) (w : World) (h : AtLa w v l) :
    Calls Try.prog 31 #[v, .int .i64 k] w fun e w' => ∃ r, e = .returned (.tuple #[r, .bool (atB l k)]) ∧ OwnOI w' w.heap.size w'.heap.size r (unrR l k) ∧ Below w.heap.size w w' := by
  have HG : Hid (∀ w1 : World, Below w.heap.size w w1 → Calls Try.prog 58 #[v, .int .i64 k] w1 fun e w' => e = .returned (.bool (atB l k)) ∧ Below w1.heap.size w1 w') := fun w1 hb => goodAt_any v l k w1 (h.below hb)
  have HLT : Hid (atB l k = true → ∀ w1 : World, Below w.heap.size w w1 → Calls Try.prog 47 #[v, .int .i64 0, .int .i64 k] w1 fun e w' => ∃ r, e = .returned r ∧ OwnOI w' w1.heap.size w'.heap.size r (unrR l k) ∧ Below w1.heap.size w1 w') := fun hat w1 hb => by
    obtain ⟨hg, n, rfl, hn⟩ := at_parts hat
    unfold unrR
    rw [if_pos hat, Int.toNat_natCast]
    exact between_any v l hg 0 n (Nat.zero_le _) (by omega) w1 (h.below hb)
  have HN : Hid (atB l k = false → unrR l k = []) := fun e => by
    unfold unrR
    rw [if_neg (by rw [e]; decide)]
  obtain ⟨ga, gn, gc, oa, on, oc, rfl⟩ := h.shape
  have HB0 : Hid (Below w.heap.size w (w.alloc (.cells #[.slice ga gn gc, .slice oa on oc] 26))) := (Below.refl _ _).alloc (Nat.le_refl _) _
  have x0 := box2_alloc w 26 (.slice ga gn gc) (.slice oa on oc)
  have HX0 : Hid _ := x0
  have g := HG.out _ HB0.out
  clear h HG x0
  generalize unrR l k = LR at *
  generalize atB l k = AB at *
  cases AB with
  | false =>
    have HZ := HN.out rfl
    subst HZ
    clear HLT HN HX0
    go_enter Try.func31, Try.ntmps31
    go_wp2_with fail
    refine g.mono ?_
    rintro e w1 ⟨rfl, hs⟩
    have HB1 : Hid (Below w.heap.size w w1) := HB0.out.trans (hs.mono HB0.out.size)
    have HE : Hid (OwnOI w1 w.heap.size w1.heap.size (.slice none 0 0) []) := ⟨Nat.le_refl _, Or.inl ⟨rfl, none, 0, rfl, fun _ => rfl, fun ad e => by cases e⟩⟩
    clear g hs
    go_wp2_with fail
    go_ret2
    exact ⟨_, rfl, HE.out, HB1.out⟩
  | true =>
    have HL2 : Hid _ := HLT.out rfl
    clear HLT HN
    go_enter Try.func31, Try.ntmps31
    go_wp2_with fail
    refine g.mono ?_
    generalize w.alloc (.cells #[.slice ga gn gc, .slice oa on oc] 26) = w0 at *
    rintro e w1 ⟨rfl, hs⟩
    have HB1 : Hid (Below w.heap.size w w1) := HB0.out.trans (hs.mono HB0.out.size)
    have x1 := HX0.out.below hs HX0.out.lt
    obtain ⟨a0, a1⟩ := x1.cells
    have ah := x1.heap
    have al := x1.lt
    clear g hs x1 HX0
    have g2 := HL2.out _ HB1.out
    go_wp2_with fail
    refine g2.mono ?_
    rintro e w2 ⟨r, rfl, ho, hs⟩
    have HB2 : Hid (Below w.heap.size w w2) := HB1.out.trans (hs.mono HB1.out.size)
    have HO2 : Hid (OwnOI w2 w.heap.size w2.heap.size r LR) := OffIn.weak ho HB1.out.size (Nat.le_refl _) (Nat.le_refl _)
    clear g2 hs a0 a1 ah al ho
    go_wp2_with fail
    go_ret2
    exact ⟨_, rfl, HO2.out, HB2.out⟩
end Go.Proofs.Ythamdefkcjfjpaa

namespace Go.Proofs.Ythamdefkcjfjpaa
open Go Go.RowKit
open M
set_option linter.unusedVariables false
set_option linter.unusedSimpArgs false

theorem unrR_ok (l : La) (n : Int) : (unrR l n).length ≤ 1048576 := by
  unfold unrR
  by_cases h : atB l n = true
  · rw [if_pos h, unrL_len]
    obtain ⟨_, m, rfl, hm⟩ := at_parts h
    rw [Int.toNat_natCast]
    omega
  · rw [if_neg h]
    simp
theorem own_oi2 {w : World} {B : Nat} {v : Value} {t : List Int} (h : OwnInts2 w B v t) : OwnOI w B w.heap.size v t := offIn_of h
set_option maxRecDepth 100000 in
set_option maxHeartbeats 2000000 in
theorem sLetterAt_any (v : Value) (l : La) (k : Int) (w : World) (h : AtLa w v l) :
    Calls Try.prog 35 #[v, .int .i64 k] w fun e w' => e = .returned (.tuple #[.int .i64 (letR l k), .bool (atB l k)]) ∧ Below w.heap.size w w' := by
  have HG : Hid (∀ w1 : World, Below w.heap.size w w1 → Calls Try.prog 21 #[v] w1 fun e w' => e = .returned (.bool (goodLa l)) ∧ Below w1.heap.size w1 w') := fun w1 hb => sGoodLasso_any v l w1 (h.below hb)
  have HLT : Hid (atB l k = true → ∀ w1 : World, Below w.heap.size w w1 → Calls Try.prog 61 #[v, .int .i64 k] w1 fun e w' => e = .returned (.int .i64 (letR l k)) ∧ Below w1.heap.size w1 w') := fun hat w1 hb => by
    obtain ⟨hg, n, rfl, hn⟩ := at_parts hat
    unfold letR
    rw [if_pos hat, Int.toNat_natCast]
    exact l9At_any v l hg n (by omega) w1 (h.below hb)
  have HN : Hid (atB l k = false → letR l k = 0) := fun e => by
    unfold letR
    rw [if_neg (by rw [e]; decide)]
  have hE : atB l k = (goodLa l && decide (0 ≤ k ∧ k ≤ 1000)) := rfl
  have GI : Hid (∀ w1 : World, Calls Try.prog 55 #[.int .i64 k, .int .i64 0, .int .i64 1000] w1 fun e w' => e = .returned (.bool (decide (0 ≤ k ∧ k ≤ 1000))) ∧ w' = w1) := fun w1 => l1In_any k 0 1000 w1
  obtain ⟨ga, gn, gc, oa, on, oc, rfl⟩ := h.shape
  have HB0 : Hid (Below w.heap.size w (w.alloc (.cells #[.slice ga gn gc, .slice oa on oc] 26))) := (Below.refl _ _).alloc (Nat.le_refl _) _
  have x0 := box2_alloc w 26 (.slice ga gn gc) (.slice oa on oc)
  have HX0 : Hid _ := x0
  have g := HG.out _ HB0.out
  rw [hE] at HLT HN ⊢
  clear h HG x0 hE
  generalize letR l k = LR at *
  generalize goodLa l = AB at *
  generalize decide (0 ≤ k ∧ k ≤ 1000) = IB at *
  cases AB with
  | false =>
    rw [Bool.false_and] at HN ⊢
    have HZ := HN.out rfl
    subst HZ
    clear HLT HN HX0 GI
    go_enter Try.func35, Try.ntmps35
    go_wp2_with fail
    refine g.mono ?_
    rintro e w1 ⟨rfl, hs⟩
    have HB1 : Hid (Below w.heap.size w w1) := HB0.out.trans (hs.mono HB0.out.size)
    clear g hs
    go_wp2_with fail
    go_ret2
    exact ⟨rfl, HB1.out⟩
  | true =>
    rw [Bool.true_and] at HLT HN ⊢
    cases IB with
    | false =>
      have HZ := HN.out rfl
      subst HZ
      clear HLT HN HX0
      go_enter Try.func35, Try.ntmps35
      go_wp2_with fail
      refine g.mono ?_
      rintro e w1 ⟨rfl, hs⟩
      have HB1 : Hid (Below w.heap.size w w1) := HB0.out.trans (hs.mono HB0.out.size)
      clear g hs
      go_wp2_with fail
      refine (GI.out _).mono ?_
      rintro e w2 ⟨rfl, rfl⟩
      go_wp2_with fail
      go_ret2
      exact ⟨rfl, HB1.out⟩
    | true =>
      have HL2 : Hid _ := HLT.out rfl
      clear HLT HN
      go_enter Try.func35, Try.ntmps35
      go_wp2_with fail
      refine g.mono ?_
      generalize w.alloc (.cells #[.slice ga gn gc, .slice oa on oc] 26) = w0 at *
      rintro e w1 ⟨rfl, hs⟩
      have HB1 : Hid (Below w.heap.size w w1) := HB0.out.trans (hs.mono HB0.out.size)
      have x1 := HX0.out.below hs HX0.out.lt
      obtain ⟨a0, a1⟩ := x1.cells
      have ah := x1.heap
      have al := x1.lt
      clear g hs x1 HX0
      go_wp2_with fail
      refine (GI.out _).mono ?_
      rintro e w2 ⟨rfl, rfl⟩
      have g2 := HL2.out _ HB1.out
      go_wp2_with fail
      refine g2.mono ?_
      rintro e w2 ⟨rfl, hs⟩
      have HB2 : Hid (Below w.heap.size w w2) := HB1.out.trans (hs.mono HB1.out.size)
      clear g2 hs a0 a1 ah al
      go_wp2_with fail
      go_ret2
      exact ⟨rfl, HB2.out⟩
set_option maxRecDepth 100000 in
set_option maxHeartbeats 2000000 in
theorem sUnrollOf_any (v : Value) (l : La) (k : Int) (w : World) (h : AtLa w v l) :
    Calls Try.prog 34 #[v, .int .i64 k] w fun e w' => ∃ r, e = .returned (.tuple #[r, .bool (atB l k)]) ∧ OwnOI w' w.heap.size w'.heap.size r (unrR l k) ∧ Below w.heap.size w w' := by
  have HG : Hid (∀ w1 : World, Below w.heap.size w w1 → Calls Try.prog 21 #[v] w1 fun e w' => e = .returned (.bool (goodLa l)) ∧ Below w1.heap.size w1 w') := fun w1 hb => sGoodLasso_any v l w1 (h.below hb)
  have HLT : Hid (atB l k = true → ∀ w1 : World, Below w.heap.size w w1 → Calls Try.prog 52 #[v, .int .i64 0, .int .i64 k] w1 fun e w' => ∃ r, e = .returned r ∧ OwnInts2 w' w1.heap.size r (unrR l k) ∧ Below w1.heap.size w1 w') := fun hat w1 hb => by
    obtain ⟨hg, n, rfl, hn⟩ := at_parts hat
    unfold unrR
    rw [if_pos hat, Int.toNat_natCast]
    exact l9First_any v l hg 0 n (by omega) w1 (h.below hb)
  have HN : Hid (atB l k = false → unrR l k = []) := fun e => by
    unfold unrR
    rw [if_neg (by rw [e]; decide)]
  have hE : atB l k = (goodLa l && decide (0 ≤ k ∧ k ≤ 1000)) := rfl
  have GI : Hid (∀ w1 : World, Calls Try.prog 55 #[.int .i64 k, .int .i64 0, .int .i64 1000] w1 fun e w' => e = .returned (.bool (decide (0 ≤ k ∧ k ≤ 1000))) ∧ w' = w1) := fun w1 => l1In_any k 0 1000 w1
  obtain ⟨ga, gn, gc, oa, on, oc, rfl⟩ := h.shape
  have HB0 : Hid (Below w.heap.size w (w.alloc (.cells #[.slice ga gn gc, .slice oa on oc] 26))) := (Below.refl _ _).alloc (Nat.le_refl _) _
  have x0 := box2_alloc w 26 (.slice ga gn gc) (.slice oa on oc)
  have HX0 : Hid _ := x0
  have g := HG.out _ HB0.out
  rw [hE] at HLT HN ⊢
  clear h HG x0 hE
  generalize unrR l k = LR at *
  generalize goodLa l = AB at *
  generalize decide (0 ≤ k ∧ k ≤ 1000) = IB at *
  cases AB with
  | false =>
    rw [Bool.false_and] at HN ⊢
    have HZ := HN.out rfl
    subst HZ
    clear HLT HN HX0 GI
    go_enter Try.func34, Try.ntmps34
    go_wp2_with fail
    refine g.mono ?_
    rintro e w1 ⟨rfl, hs⟩
    have HB1 : Hid (Below w.heap.size w w1) := HB0.out.trans (hs.mono HB0.out.size)
    have HE : Hid (OwnOI w1 w.heap.size w1.heap.size (.slice none 0 0) []) := ⟨Nat.le_refl _, Or.inl ⟨rfl, none, 0, rfl, fun _ => rfl, fun ad e => by cases e⟩⟩
    clear g hs
    go_wp2_with fail
    go_ret2
    exact ⟨_, rfl, HE.out, HB1.out⟩
  | true =>
    rw [Bool.true_and] at HLT HN ⊢
    cases IB with
    | false =>
      have HZ := HN.out rfl
      subst HZ
      clear HLT HN HX0
      go_enter Try.func34, Try.ntmps34
      go_wp2_with fail
      refine g.mono ?_
      rintro e w1 ⟨rfl, hs⟩
      have HB1 : Hid (Below w.heap.size w w1) := HB0.out.trans (hs.mono HB0.out.size)
      have HE : Hid (OwnOI w1 w.heap.size w1.heap.size (.slice none 0 0) []) := ⟨Nat.le_refl _, Or.inl ⟨rfl, none, 0, rfl, fun _ => rfl, fun ad e => by cases e⟩⟩
      clear g hs
      go_wp2_with fail
      refine (GI.out _).mono ?_
      rintro e w2 ⟨rfl, rfl⟩
      go_wp2_with fail
      go_ret2
      exact ⟨_, rfl, HE.out, HB1.out⟩
    | true =>
      have HL2 : Hid _ := HLT.out rfl
      clear HLT HN
      go_enter Try.func34, Try.ntmps34
      go_wp2_with fail
      refine g.mono ?_
      generalize w.alloc (.cells #[.slice ga gn gc, .slice oa on oc] 26) = w0 at *
      rintro e w1 ⟨rfl, hs⟩
      have HB1 : Hid (Below w.heap.size w w1) := HB0.out.trans (hs.mono HB0.out.size)
      have x1 := HX0.out.below hs HX0.out.lt
      obtain ⟨a0, a1⟩ := x1.cells
      have ah := x1.heap
      have al := x1.lt
      clear g hs x1 HX0
      go_wp2_with fail
      refine (GI.out _).mono ?_
      rintro e w2 ⟨rfl, rfl⟩
      have g2 := HL2.out _ HB1.out
      go_wp2_with fail
      refine g2.mono ?_
      rintro e w2 ⟨r, rfl, ho, hs⟩
      have HB2 : Hid (Below w.heap.size w w2) := HB1.out.trans (hs.mono HB1.out.size)
      have HO2 : Hid (OwnOI w2 w.heap.size w2.heap.size r LR) := OffIn.weak (own_oi2 ho) HB1.out.size (Nat.le_refl _) (Nat.le_refl _)
      clear g2 hs a0 a1 ah al ho
      go_wp2_with fail
      go_ret2
      exact ⟨_, rfl, HO2.out, HB2.out⟩
end Go.Proofs.Ythamdefkcjfjpaa

namespace Go.Proofs.Ythamdefkcjfjpaa
open Go Go.RowKit
open M
set_option linter.unusedVariables false
set_option linter.unusedSimpArgs false

theorem laOk_nil : LaOk ([], []) := ⟨by simp, by simp⟩
theorem sufR_ok (l : La) (k : Int) : LaOk (sufR l k) := by
  unfold sufR
  by_cases h : atB l k = true
  · rw [if_pos h]
    obtain ⟨hg, m, rfl, hm⟩ := at_parts h
    obtain ⟨q1, q2, q3⟩ := good_lens hg
    unfold sufL
    refine ⟨?_, ?_⟩
    · rw [unrL_len]
      have : Nat.max (m : Int).toNat l.1.length ≤ 1024 := Nat.max_le.2 ⟨by rw [Int.toNat_natCast]; omega, by omega⟩
      omega
    · rw [unrL_len]
      omega
  · rw [if_neg h]
    exact laOk_nil
theorem ownLa_one {w : World} {B : Nat} {r : Value} {ys : List Int} (h : OwnOI w B w.heap.size r ys) : OwnLa w B w.heap.size (.agg #[.slice none 0 0, r]) ([], ys) :=
  ⟨_, r, rfl, ⟨Nat.le_refl _, Or.inl ⟨rfl, none, 0, rfl, fun _ => rfl, fun ad e => by cases e⟩⟩, h, fun k h1 _ => by cases h1⟩
theorem ownLa_nil (w : World) (B : Nat) : OwnLa w B w.heap.size (.agg #[.slice none 0 0, .slice none 0 0]) ([], []) := ownLa_one ⟨Nat.le_refl _, Or.inl ⟨rfl, none, 0, rfl, fun _ => rfl, fun ad e => by cases e⟩⟩
set_option maxRecDepth 100000 in
set_option maxHeartbeats 2000000 in
theorem suf_far (ga : Option Addr) (gn gc : Nat) (oa : Option Addr) (on oc k : Nat) (ys : List Int) (hk : gn < k) (hgn : gn ≤ 24) (hon : on ≤ 24) (hk1 : k ≤ 1000) (w : World)
    (GF : Hid (∀ w1 : World, Below w.heap.size w w1 → Calls Try.prog 52 #[.agg #[.slice ga gn gc, .slice oa on oc], .int .i64 k, .int .i64 on] w1 fun e w' => ∃ r, e = .returned r ∧ OwnInts2 w' w1.heap.size r ys ∧ Below w1.heap.size w1 w')) :
    Calls Try.prog 59 #[.agg #[.slice ga gn gc, .slice oa on oc], .int .i64 k] w fun e w' => ∃ u, e = .returned u ∧ OwnLa w' w.heap.size w'.heap.size u ([], ys) ∧ Below w.heap.size w w' := by
  have hb2 : Below w.heap.size w ((w.alloc (.cells #[.slice ga gn gc, .slice oa on oc] 26)).alloc (.cells #[.slice none 0 0, .slice none 0 0] 26)) := ((Below.refl _ _).alloc (Nat.le_refl _) _).alloc (by rw [World.size_alloc]; omega) _
  have HB0 : Hid _ := hb2
  have x0 := (box2_alloc w 26 (.slice ga gn gc) (.slice oa on oc)).alloc (.cells #[.slice none 0 0, .slice none 0 0] 26)
  have y0 := box2_alloc (w.alloc (.cells #[.slice ga gn gc, .slice oa on oc] 26)) 26 (.slice none 0 0) (.slice none 0 0)
  simp only [World.size_alloc] at y0
  have g := GF.out _ HB0.out
  have HY0 : Hid _ := y0
  have hz0 : ((w.alloc (.cells #[.slice ga gn gc, .slice oa on oc] 26)).alloc (.cells #[.slice none 0 0, .slice none 0 0] 26)).heap.size = w.heap.size + 2 := by rw [World.size_alloc, World.size_alloc]
  obtain ⟨a0, a1⟩ := x0.cells
  have ah := x0.heap
  have al := x0.lt
  clear hb2 x0 y0 GF
  go_enter Try.func59, Try.ntmps59
  go_wp2_with fail
  refine g.mono ?_
  clear a0 a1 ah al
  generalize (w.alloc (.cells #[.slice ga gn gc, .slice oa on oc] 26)).alloc (.cells #[.slice none 0 0, .slice none 0 0] 26) = w0 at *
  rintro e w1 ⟨r, rfl, ho, hs⟩
  have HB1 : Hid (Below w.heap.size w w1) := HB0.out.trans (hs.mono (by omega))
  obtain ⟨ra, rn, rc, rfl⟩ := (own_of2 ho).shape
  have y1 := HY0.out.below hs (by omega)
  have hs1 := hs.size
  have HO : Hid _ := own_of2 ho
  obtain ⟨k0, k1⟩ := y1.cells
  have kh := y1.heap
  have kl := y1.lt
  have f0 := y1.frozen 0
  have f1 := y1.frozen 1
  have y2 := (y1.set0 (.slice none 0 0)).set1 (.slice ra rn rc)
  have hyh := y2.heap
  have HOL : Hid (OwnLa ((w1.setCell ⟨w.heap.size + 1, 0, none⟩ (.slice none 0 0)).setCell ⟨w.heap.size + 1, 1, none⟩ (.slice ra rn rc)) w.heap.size ((w1.setCell ⟨w.heap.size + 1, 0, none⟩ (.slice none 0 0)).setCell ⟨w.heap.size + 1, 1, none⟩ (.slice ra rn rc)).heap.size (.agg #[.slice none 0 0, .slice ra rn rc]) ([], ys)) := by
    have h9 := ((ownLa_one (OffIn.weak (lo' := w0.heap.size) (hi' := w1.heap.size) HO.out (Nat.le_refl _) (Nat.le_refl _) (Nat.le_refl _))).setO (b := w.heap.size + 1) (o := 0) (x := .slice none 0 0) (Or.inl (by omega))).setO (b := w.heap.size + 1) (o := 1) (x := .slice ra rn rc) (Or.inl (by omega))
    exact h9.weak (by omega) (by rw [size_set, size_set]; exact Nat.le_refl _) (Nat.le_refl _)
  have HBE : Hid (Below w.heap.size w ((w1.setCell ⟨w.heap.size + 1, 0, none⟩ (.slice none 0 0)).setCell ⟨w.heap.size + 1, 1, none⟩ (.slice ra rn rc))) := (HB1.out.setCell (by show w.heap.size ≤ w.heap.size + 1; omega) _).setCell (by show w.heap.size ≤ w.heap.size + 1; omega) _
  clear g ho hs y1 HY0 HO
  go_wp2_with fail
  refine bodyPost_ret (results_cell_row rfl _ _ (w.heap.size + 1) 26 _ (0, 0) _ rfl hyh Try.underlying26 rfl (by kernel_rfl)) rfl ?_
  exact ⟨_, rfl, HOL.out, HBE.out⟩
theorem srcO_drop {w : World} {b off cap k : Nat} {t : List Int} (hk : k ≤ t.length) (hc : t.length ≤ cap) (h : IntsAt w (.slice (some ⟨b, off, none⟩) t.length cap) t) :
    SrcO w (.slice (if cap = k then some (⟨b, off, none⟩ : Addr) else some ⟨b, off + k, none⟩) (t.length - k) (cap - k)) (t.length - k) (cellsI (t.drop k)) := by
  by_cases e : cap = k
  · rw [if_pos e]
    refine Or.inr ⟨b, off, cap - k, rfl, fun h0 => by omega, fun j u hu => ?_⟩
    have hj := (List.getElem?_eq_some_iff.1 hu).1
    rw [cellsI_len, List.length_drop] at hj
    omega
  · rw [if_neg e]
    refine Or.inr ⟨b, off + k, cap - k, rfl, fun h0 => ?_, fun j u hu => ?_⟩
    · rcases h.2 with ⟨h1, _⟩ | ⟨b', off', cap', hv, hlt, _⟩
      · rw [h1] at h0
        simp at h0
      · injection hv with e1
        injection e1 with e1
        injection e1 with e1
        omega
    · unfold cellsI at hu
      rw [List.getElem?_map, Option.map_eq_some_iff] at hu
      obtain ⟨x, hx, rfl⟩ := hu
      rw [List.getElem?_drop] at hx
      rcases h.2 with ⟨h1, _⟩ | ⟨b', off', cap', hv, hlt, hc'⟩
      · rw [h1] at hx
        simp at hx
      · injection hv with e1
        injection e1 with e1
        injection e1 with e1 e2
        subst e1 e2
        rw [add_eq, Nat.add_assoc]
        exact hc' _ x hx
theorem l9Suffix_any (v : Value) (l : La) (hg : goodLa l = true) (k : Nat) (hk : k ≤ 1000) (w : World) (h : AtLS w v l) :
    Calls Try.prog 59 #[v, .int .i64 k] w fun e w' => ∃ u, e = .returned u ∧ OwnLa w' w.heap.size w'.heap.size u (sufL l k) ∧ Below w.heap.size w w' := by
  obtain ⟨q1, q2, q3⟩ := good_lens hg
  have hat := h.at
  obtain ⟨g, o, rfl, h1, h2, h3, h4⟩ := h
  have so := srcO_ints h2 h4
  obtain ⟨oa, oc, rfl⟩ := h2.shape
  have GO2 : Hid (∀ w1 : World, Below w.heap.size w w1 → Calls Try.prog 53 #[.slice oa l.2.length oc] w1 fun e w' => ∃ r, e = .returned r ∧ OwnInts2 w' w1.heap.size r l.2 ∧ Below w1.heap.size w1 w') := fun w1 hb => l1OwnO_any oa _ oc l.2 rfl (by omega) w1 (so.below (cellsI_len _) hb)
  by_cases hle : k ≤ l.1.length
  · rw [sufL_stem l k hle]
    obtain ⟨a', n', c', e, hz, hsp, hgc⟩ := h3
    obtain ⟨ga, gc, e2⟩ := h1.shape
    rw [e2] at e
    injection e with e3 e4 e5
    subst e3 e4 e5 e2
    cases ga with
    | none =>
      obtain ⟨z1, z2⟩ := hz rfl
      have hk0 : k = 0 := by omega
      have hnil : l.1 = [] := List.length_eq_zero_iff.1 z1
      subst hk0
      rw [z1, z2]
      have hd : l.1.drop 0 = [] := by rw [hnil]; rfl
      rw [hd]
      exact suf_none oa _ oc 0 rfl [] l.2 w (fun w1 hb => l1OwnO_any none 0 0 [] rfl (by omega) w1 (Or.inl ⟨rfl, rfl, rfl⟩)) GO2
    | some ad =>
      obtain ⟨b, off, s⟩ := ad
      have hs := hsp _ rfl
      simp only at hs
      subst hs
      refine suf_some oa _ oc k b off _ gc _ hle q1 hgc rfl (l.1.drop k) l.2 w (fun w1 hb => ?_) GO2
      have h9 := srcO_drop hle hgc (h1.below hb)
      exact l1OwnO_any _ _ _ _ (by rw [List.length_drop]) (by omega) w1 h9
  · rw [sufL_loop l k (by omega)]
    obtain ⟨ga, gc, rfl⟩ := h1.shape
    exact suf_far ga _ gc oa _ oc k (unrL l k l.2.length) (by omega) q1 q3 hk w (fun w1 hb => l9First_any _ l hg k l.2.length (by omega) w1 (hat.below hb))
end Go.Proofs.Ythamdefkcjfjpaa

namespace Go.Proofs.Ythamdefkcjfjpaa
open Go Go.RowKit
open M
set_option linter.unusedVariables false
set_option linter.unusedSimpArgs false

/-- a lasso that a call has answered, laid from B on -/
def RwL (B : Nat) (w : World) (s : Value) (l : La) : Prop := ∃ lo hi, B ≤ lo ∧ OwnLa w lo hi s l
theorem RwL.below {B : Nat} {w w' : World} {s : Value} {l : La} (h : RwL B w s l) (hb : Below w.heap.size w w') : RwL B w' s l := by
  obtain ⟨lo, hi, h0, h1⟩ := h
  exact ⟨lo, hi, h0, h1.same hb.size (fun i _ h9 => hb.block i (Nat.lt_of_lt_of_le h9 h1.hi))⟩
theorem RwL.shape {B : Nat} {w : World} {s : Value} {l : La} (h : RwL B w s l) : ∃ sa sn sc oa on oc, s = .agg #[.slice sa sn sc, .slice oa on oc] := by
  obtain ⟨lo, hi, h0, h1⟩ := h
  exact h1.shape
theorem rwL_of {B : Nat} {w w' : World} {s : Value} {l : La} (hB : B ≤ w.heap.size) (h : OwnLa w' w.heap.size w'.heap.size s l) : RwL B w' s l := ⟨_, _, hB, h⟩
def fstV : Value → Value
  | .agg cs => cs.getD 0 undef
  | _ => undef
def sndV : Value → Value
  | .agg cs => cs.getD 1 undef
  | _ => undef
end Go.Proofs.Ythamdefkcjfjpaa

namespace Go.Proofs.Ythamdefkcjfjpaa
open Go Go.RowKit
open M
set_option linter.unusedVariables false
set_option linter.unusedSimpArgs false

def leastR (l : La) : La := if goodLa l = true then leastL l else ([], [])
theorem leastR_ok (l : La) : LaOk (leastR l) := by
  unfold leastR
  by_cases h : goodLa l = true
  · rw [if_pos h]
    obtain ⟨q1, q2, q3⟩ := good_lens h
    obtain ⟨r1, r2, _, _⟩ := roundL_has q2
    have := turnPt_le l (roundL l)
    unfold leastL
    exact ⟨by rw [unrL_len]; omega, by rw [unrL_len]; omega⟩
  · rw [if_neg h]
    exact laOk_nil
theorem leastL_cut (l : La) : cutL l 0 (turnPt l (roundL l)) (roundL l) = leastL l := rfl
structure RegLeast (W w' : World) (B Y : Nat) (ga : Option Addr) (gn gc : Nat) (oa : Option Addr) (on oc r t : Nat) (LR : La) (l0 l1 l2 l3 l4 l5 l6 l7 : Bool) (s0 s1 s2 s3 s4 s5 s7 : Value) : Prop where
  (bel : l6 = false → Below W.heap.size W w')
  (all : l6 = true → l0 = true ∧ l1 = true ∧ l2 = true ∧ l3 = true ∧ l4 = true ∧ l5 = true)
  (fin : l6 = true → ∃ w4 : World, Below W.heap.size W w4 ∧ w' = ((w4.setCell ⟨Y, 0, none⟩ (fstV s5)).setCell ⟨Y, 1, none⟩ (sndV s5)) ∧ RwL B w4 s5 LR)
  (d0 : l0 = true → s0 = .agg #[.slice ga gn gc, .slice oa on oc] ∧ True)
  (d1 : l1 = true → s1 = .agg #[.slice ga gn gc, .slice oa on oc] ∧ True)
  (d2 : l2 = true → s2 = .int .i64 r ∧ True)
  (d3 : l3 = true → s3 = .int .i64 t ∧ l1 = true ∧ l2 = true)
  (d4 : l4 = true → s4 = .int .i64 r ∧ True)
  (d5 : l5 = true → (l6 = false → RwL B w' s5 LR) ∧ l0 = true ∧ l3 = true ∧ l4 = true)
  (d7 : l7 = true → s7 = .bool true ∧ l0 = true ∧ l1 = true ∧ l2 = true ∧ l3 = true ∧ l4 = true ∧ l5 = true ∧ l6 = true)
set_option maxRecDepth 100000 in
set_option maxHeartbeats 4000000 in
theorem iLeastLasso_any (v : Value) (l : La) (w : World) (h : AtLS w v l) :
    Calls Try.prog 17 #[v] w fun e w' => ∃ r, e = .returned (.tuple #[r, .bool (goodLa l)]) ∧ OwnLa w' w.heap.size w'.heap.size r (leastR l) ∧ Below w.heap.size w w' := by
  have HG : Hid (∀ w1 : World, Below w.heap.size w w1 → Calls Try.prog 20 #[v] w1 fun e w' => e = .returned (.bool (goodLa l)) ∧ Below w1.heap.size w1 w') := fun w1 hb => iGoodLasso_any v l w1 (h.at.below hb)
  have hR : leastR l = bif goodLa l then leastL l else ([], []) := by
    show (if goodLa l = true then _ else _) = _
    cases goodLa l <;> rfl
  have HLT : Hid (goodLa l = true → ∃ r t : Nat, roundL l = r ∧ r ≤ 24 ∧ t ≤ 24 ∧
      (∀ w1 : World, Below w.heap.size w w1 → Calls Try.prog 49 #[v] w1 fun e w' => e = .returned (.int .i64 r) ∧ Below w1.heap.size w1 w') ∧
      (∀ w1 : World, Below w.heap.size w w1 → Calls Try.prog 51 #[v, .int .i64 r] w1 fun e w' => e = .returned (.int .i64 t) ∧ Below w1.heap.size w1 w') ∧
      (∀ w1 : World, Below w.heap.size w w1 → Calls Try.prog 50 #[v, .int .i64 0, .int .i64 t, .int .i64 r] w1 fun e w' => ∃ u, e = .returned u ∧ OwnLa w' w1.heap.size w'.heap.size u (leastL l) ∧ Below w1.heap.size w1 w')) := fun hg => by
    obtain ⟨q1, q2, q3⟩ := good_lens hg
    obtain ⟨r1, r2, _, _⟩ := roundL_has q2
    have ht := turnPt_le l (roundL l)
    exact ⟨_, turnPt l (roundL l), rfl, by omega, by omega, fun w1 hb => leastRound_any v l hg w1 (h.below hb), fun w1 hb => leastTurn_any v l hg _ (by omega) w1 (h.at.below hb), fun w1 hb => cutAt_any v l hg 0 _ _ (Nat.zero_le _) (by omega) w1 (h.at.below hb)⟩
  obtain ⟨ga, gn, gc, oa, on, oc, rfl⟩ := h.shape
  have hb2 : Below w.heap.size w ((w.alloc (.cells #[.slice ga gn gc, .slice oa on oc] 26)).alloc (.cells #[.slice none 0 0, .slice none 0 0] 26)) := ((Below.refl _ _).alloc (Nat.le_refl _) _).alloc (by rw [World.size_alloc]; omega) _
  have HB0 : Hid _ := hb2
  have x0 := (box2_alloc w 26 (.slice ga gn gc) (.slice oa on oc)).alloc (.cells #[.slice none 0 0, .slice none 0 0] 26)
  have y0 := box2_alloc (w.alloc (.cells #[.slice ga gn gc, .slice oa on oc] 26)) 26 (.slice none 0 0) (.slice none 0 0)
  simp only [World.size_alloc] at y0
  have HX0 : Hid _ := x0
  have HY0 : Hid _ := y0
  have hz0 : ((w.alloc (.cells #[.slice ga gn gc, .slice oa on oc] 26)).alloc (.cells #[.slice none 0 0, .slice none 0 0] 26)).heap.size = w.heap.size + 2 := by rw [World.size_alloc, World.size_alloc]
  obtain ⟨a0, a1⟩ := x0.cells
  have ah := x0.heap
  have al := x0.lt
  have g := HG.out _ HB0.out
  rw [hR]
  clear h HG hb2 x0 y0 hR
  generalize leastL l = LR at *
  generalize goodLa l = AB at *
  cases AB with
  | false =>
    show Calls _ _ _ _ (fun e w' => ∃ r, e = .returned (.tuple #[r, .bool false]) ∧ OwnLa w' w.heap.size w'.heap.size r ([], []) ∧ Below w.heap.size w w')
    clear HLT
    go_enter Try.func17, Try.ntmps17
    go_wp2_with fail
    refine g.mono ?_
    clear a0 a1 ah al
    generalize (w.alloc (.cells #[.slice ga gn gc, .slice oa on oc] 26)).alloc (.cells #[.slice none 0 0, .slice none 0 0] 26) = w0 at *
    rintro e w1 ⟨rfl, hs⟩
    have HB1 : Hid (Below w.heap.size w w1) := HB0.out.trans (hs.mono (by omega))
    have y1 := HY0.out.below hs (by omega)
    have x1 := HX0.out.below hs (by omega)
    have hs1 := hs.size
    clear g hs
    clear x1
    have HZO : Hid (OwnLa ((w1.setCell ⟨w.heap.size + 1, 0, none⟩ (.slice none 0 0)).setCell ⟨w.heap.size + 1, 1, none⟩ (.slice none 0 0)) w.heap.size ((w1.setCell ⟨w.heap.size + 1, 0, none⟩ (.slice none 0 0)).setCell ⟨w.heap.size + 1, 1, none⟩ (.slice none 0 0)).heap.size (.agg #[.slice none 0 0, .slice none 0 0]) ([], [])) := ownLa_nil _ _
    obtain ⟨k0, k1⟩ := y1.cells
    have kh := y1.heap
    have kl := y1.lt
    have kf0 := y1.frozen 0
    have kf1 := y1.frozen 1
    have y9 := (y1.set0 (.slice none 0 0)).set1 (.slice none 0 0)
    have hyh := y9.heap
    have HBE : Hid (Below w.heap.size w ((w1.setCell ⟨w.heap.size + 1, 0, none⟩ (.slice none 0 0)).setCell ⟨w.heap.size + 1, 1, none⟩ (.slice none 0 0))) := (HB1.out.setCell (by show w.heap.size ≤ w.heap.size + 1; omega) _).setCell (by show w.heap.size ≤ w.heap.size + 1; omega) _
    clear HX0 HY0 y9 y1
    go_wp2_with fail
    refine bodyPost_ret (results_la rfl _ _ (w.heap.size + 1) 26 _ (0, 0) _ rfl hyh Try.underlying26 rfl (by kernel_rfl)) rfl ?_
    exact ⟨_, rfl, HZO.out, HBE.out⟩
  | true =>
    show Calls _ _ _ _ (fun e w' => ∃ r, e = .returned (.tuple #[r, .bool true]) ∧ OwnLa w' w.heap.size w'.heap.size r LR ∧ Below w.heap.size w w')
    obtain ⟨r, t, _, hr24, ht24, gr0, gt0, gc0⟩ := HLT.out rfl
    have GR : Hid _ := gr0
    have GT : Hid _ := gt0
    have GC : Hid _ := gc0
    clear HLT gr0 gt0 gc0
    go_enter Try.func17, Try.ntmps17
    go_wp2_with fail
    refine g.mono ?_
    clear a0 a1 ah al
    generalize (w.alloc (.cells #[.slice ga gn gc, .slice oa on oc] 26)).alloc (.cells #[.slice none 0 0, .slice none 0 0] 26) = w0 at *
    rintro e w1 ⟨rfl, hs⟩
    have HB1 : Hid (Below w.heap.size w w1) := HB0.out.trans (hs.mono (by omega))
    have y1 := HY0.out.below hs (by omega)
    have x1 := HX0.out.below hs (by omega)
    have hs1 := hs.size
    clear g hs
    obtain ⟨a0, a1⟩ := x1.cells
    have ah := x1.heap
    have al := x1.lt
    clear HX0
    have g2 := GR.out _ HB1.out
    go_wp2_with fail
    refine g2.mono ?_
    rintro e w2 ⟨rfl, hs⟩
    have HB2 : Hid (Below w.heap.size w w2) := HB1.out.trans (hs.mono (by omega))
    have x2 := x1.below hs (by omega)
    have y2 := y1.below hs (by omega)
    have hs2 := hs.size
    clear g2 hs a0 a1 ah al x1 y1
    have HXP : Hid (∀ w3, Below w2.drew.heap.size w2.drew w3 → Box2 w3 w.heap.size 26 (.slice ga gn gc) (.slice oa on oc)) := fun w3 hb3 => Box2.below (w := w2.drew) ⟨x2.heap⟩ hb3 (by show _ < w2.heap.size; omega)
    have HYP : Hid (∀ w3, Below w2.drew.heap.size w2.drew w3 → Box2 w3 (w.heap.size + 1) 26 (.slice none 0 0) (.slice none 0 0)) := fun w3 hb3 => Box2.below (w := w2.drew) ⟨y2.heap⟩ hb3 (by show _ < w2.heap.size; omega)
    have HBW : Hid (∀ w3, Below w2.drew.heap.size w2.drew w3 → Below w.heap.size w w3) := fun w3 hb3 => HB2.out.drew.trans (hb3.mono (by show w.heap.size ≤ w2.heap.size; omega))
    obtain ⟨a0, a1⟩ := x2.cells
    have ah := x2.heap
    have al := x2.lt
    clear x2 y2 HY0
    go_wp2_with fail
    refine wp_region_any (by kernel_rfl) ?_
    change wpAny _ _ _ _ _ _ _ (World.drew _)
    refine wpAny_invN (fun lb9 ac9 w' => ∃ (l0 l1 l2 l3 l4 l5 l6 l7 : Bool) (s0 s1 s2 s3 s4 s5 s7 : Value), lb9 = #[l0, l1, l2, l3, l4, l5, l6, l7] ∧ ac9 = { tmps := #[.agg #[.slice ga gn gc, .slice oa on oc], .pointer (some ⟨w.heap.size, 0, none⟩), .pointer (some ⟨w.heap.size + 1, 0, none⟩), s7, .int .i64 r, .agg #[.slice ga gn gc, .slice oa on oc], .bool true, .bool false, undef, .agg #[.slice ga gn gc, .slice oa on oc], .int .i64 r, s0, s1, s2, s3, s4, s5], defers := [] } ∧ RegLeast w2.drew w' w2.drew.heap.size (w.heap.size + 1) ga gn gc oa on oc r t LR l0 l1 l2 l3 l4 l5 l6 l7 s0 s1 s2 s3 s4 s5 s7) ?done ?step 8 _ _ _ ⟨false, false, false, false, false, false, false, false, _, _, _, _, _, _, _, rfl, rfl, ?init⟩ (by decide)
    case init => exact { bel := fun _ => Below.refl _ _, all := fun e => (by cases e), fin := fun e => (by cases e), d0 := fun e => (by cases e), d1 := fun e => (by cases e), d2 := fun e => (by cases e), d3 := fun e => (by cases e), d4 := fun e => (by cases e), d5 := fun e => (by cases e), d7 := fun e => (by cases e) }
    case step =>
      rintro lb9 ac9 w3 ⟨l0, l1, l2, l3, l4, l5, l6, l7, s0, s1, s2, s3, s4, s5, s7, rfl, rfl, h⟩
      intro q9 hq
      have hlt9 := ready_ltN hq
      match q9, hq, hlt9 with
      | 0, hq, _ =>
        have hr := ready_depN hq rfl
        have hme : l0 = false := hr.1
        have hT : l6 = false := by
          cases hc9 : l6 with
          | false => rfl
          | true => exact absurd (h.all hc9).1 (by rw [hme]; decide)
        have hbel := h.bel hT
        have x3 := HXP.out w3 hbel
        obtain ⟨c0, c1⟩ := x3.cells
        have ch := x3.heap
        have cl := x3.lt
        clear hr hq
        refine wpOp_runN rfl rfl (fun K hK => ?_)
        go_simp
        refine hK _ _ ⟨true, l1, l2, l3, l4, l5, l6, l7, _, _, _, _, _, _, _, rfl, rfl, ?_⟩
        exact { bel := h.bel, all := fun e => (by rw [hT] at e; cases e), fin := fun e => (by rw [hT] at e; cases e), d0 := fun _ => ⟨rfl, trivial⟩, d1 := h.d1, d2 := h.d2, d3 := h.d3, d4 := h.d4, d5 := fun e => absurd (h.d5 e).2.1 (by rw [hme]; decide), d7 := fun e => absurd (h.d7 e).2.1 (by rw [hme]; decide) }
      | 1, hq, _ =>
        have hr := ready_depN hq rfl
        have hme : l1 = false := hr.1
        have hT : l6 = false := by
          cases hc9 : l6 with
          | false => rfl
          | true => exact absurd (h.all hc9).2.1 (by rw [hme]; decide)
        have hbel := h.bel hT
        have x3 := HXP.out w3 hbel
        obtain ⟨c0, c1⟩ := x3.cells
        have ch := x3.heap
        have cl := x3.lt
        clear hr hq
        refine wpOp_runN rfl rfl (fun K hK => ?_)
        go_simp
        refine hK _ _ ⟨l0, true, l2, l3, l4, l5, l6, l7, _, _, _, _, _, _, _, rfl, rfl, ?_⟩
        exact { bel := h.bel, all := fun e => (by rw [hT] at e; cases e), fin := fun e => (by rw [hT] at e; cases e), d0 := h.d0, d1 := fun _ => ⟨rfl, trivial⟩, d2 := h.d2, d3 := fun e => absurd (h.d3 e).2.1 (by rw [hme]; decide), d4 := h.d4, d5 := h.d5, d7 := fun e => absurd (h.d7 e).2.2.1 (by rw [hme]; decide) }
      | 2, hq, _ =>
        have hr := ready_depN hq rfl
        have hme : l2 = false := hr.1
        have hT : l6 = false := by
          cases hc9 : l6 with
          | false => rfl
          | true => exact absurd (h.all hc9).2.2.1 (by rw [hme]; decide)
        have hbel := h.bel hT
        clear hr hq
        refine wpOp_runN rfl rfl (fun K hK => ?_)
        go_simp
        refine hK _ _ ⟨l0, l1, true, l3, l4, l5, l6, l7, _, _, _, _, _, _, _, rfl, rfl, ?_⟩
        exact { bel := h.bel, all := fun e => (by rw [hT] at e; cases e), fin := fun e => (by rw [hT] at e; cases e), d0 := h.d0, d1 := h.d1, d2 := fun _ => ⟨rfl, trivial⟩, d3 := fun e => absurd (h.d3 e).2.2 (by rw [hme]; decide), d4 := h.d4, d5 := h.d5, d7 := fun e => absurd (h.d7 e).2.2.2.1 (by rw [hme]; decide) }
      | 3, hq, _ =>
        have hr := ready_depN hq rfl
        have hme : l3 = false := hr.1
        have e1 : l1 = true := hr.2 ⟨1, .data⟩ (by simp) (by kernel_rfl)
        have e2 : l2 = true := hr.2 ⟨2, .data⟩ (by simp) (by kernel_rfl)
        have hT : l6 = false := by
          cases hc9 : l6 with
          | false => rfl
          | true => exact absurd (h.all hc9).2.2.2.1 (by rw [hme]; decide)
        have hbel := h.bel hT
        obtain rfl := (h.d1 e1).1
        obtain rfl := (h.d2 e2).1
        clear hr hq
        refine wpOp_runN rfl rfl (fun K hK => ?_)
        go_simp
        go_at_call 51
        refine Calls.mono (GT.out w3 (HBW.out w3 hbel)) ?_
        rintro e w4 ⟨rfl, hs4⟩
        have hbel4 := hbel.trans (hs4.mono hbel.size)
        refine hK _ _ ⟨l0, l1, l2, true, l4, l5, l6, l7, _, _, _, _, _, _, _, rfl, rfl, ?_⟩
        exact { bel := fun _ => hbel4, all := fun e => (by rw [hT] at e; cases e), fin := fun e => (by rw [hT] at e; cases e), d0 := h.d0, d1 := h.d1, d2 := h.d2, d3 := fun _ => ⟨rfl, e1, e2⟩, d4 := h.d4, d5 := fun e => absurd (h.d5 e).2.2.1 (by rw [hme]; decide), d7 := fun e => absurd (h.d7 e).2.2.2.2.1 (by rw [hme]; decide) }
      | 4, hq, _ =>
        have hr := ready_depN hq rfl
        have hme : l4 = false := hr.1
        have hT : l6 = false := by
          cases hc9 : l6 with
          | false => rfl
          | true => exact absurd (h.all hc9).2.2.2.2.1 (by rw [hme]; decide)
        have hbel := h.bel hT
        clear hr hq
        refine wpOp_runN rfl rfl (fun K hK => ?_)
        go_simp
        refine hK _ _ ⟨l0, l1, l2, l3, true, l5, l6, l7, _, _, _, _, _, _, _, rfl, rfl, ?_⟩
        exact { bel := h.bel, all := fun e => (by rw [hT] at e; cases e), fin := fun e => (by rw [hT] at e; cases e), d0 := h.d0, d1 := h.d1, d2 := h.d2, d3 := h.d3, d4 := fun _ => ⟨rfl, trivial⟩, d5 := fun e => absurd (h.d5 e).2.2.2 (by rw [hme]; decide), d7 := fun e => absurd (h.d7 e).2.2.2.2.2.1 (by rw [hme]; decide) }
      | 5, hq, _ =>
        have hr := ready_depN hq rfl
        have hme : l5 = false := hr.1
        have e0 : l0 = true := hr.2 ⟨0, .data⟩ (by simp) (by kernel_rfl)
        have e3 : l3 = true := hr.2 ⟨3, .data⟩ (by simp) (by kernel_rfl)
        have e4 : l4 = true := hr.2 ⟨4, .data⟩ (by simp) (by kernel_rfl)
        have hT : l6 = false := by
          cases hc9 : l6 with
          | false => rfl
          | true => exact absurd (h.all hc9).2.2.2.2.2 (by rw [hme]; decide)
        have hbel := h.bel hT
        obtain rfl := (h.d0 e0).1
        obtain rfl := (h.d3 e3).1
        obtain rfl := (h.d4 e4).1
        clear hr hq
        refine wpOp_runN rfl rfl (fun K hK => ?_)
        go_simp
        go_at_call 50
        refine Calls.mono (GC.out w3 (HBW.out w3 hbel)) ?_
        rintro e w4 ⟨r, rfl, ho, hs4⟩
        have hbel4 := hbel.trans (hs4.mono hbel.size)
        have hnew := rwL_of hbel.size ho
        refine hK _ _ ⟨l0, l1, l2, l3, l4, true, l6, l7, _, _, _, _, _, _, _, rfl, rfl, ?_⟩
        exact { bel := fun _ => hbel4, all := fun e => (by rw [hT] at e; cases e), fin := fun e => (by rw [hT] at e; cases e), d0 := h.d0, d1 := h.d1, d2 := h.d2, d3 := h.d3, d4 := h.d4, d5 := fun _ => ⟨fun _ => hnew, e0, e3, e4⟩, d7 := fun e => absurd (h.d7 e).2.2.2.2.2.2.1 (by rw [hme]; decide) }
      | 6, hq, _ =>
        have hr := ready_depN hq rfl
        have hme : l6 = false := hr.1
        have e0 : l0 = true := hr.2 ⟨0, .phase⟩ (by simp) (by kernel_rfl)
        have e1 : l1 = true := hr.2 ⟨1, .phase⟩ (by simp) (by kernel_rfl)
        have e2 : l2 = true := hr.2 ⟨2, .phase⟩ (by simp) (by kernel_rfl)
        have e3 : l3 = true := hr.2 ⟨3, .phase⟩ (by simp) (by kernel_rfl)
        have e4 : l4 = true := hr.2 ⟨4, .phase⟩ (by simp) (by kernel_rfl)
        have e5 : l5 = true := hr.2 ⟨5, .data⟩ (by simp) (by kernel_rfl)
        have hbel := h.bel hme
        obtain rfl := (h.d0 e0).1
        obtain rfl := (h.d1 e1).1
        obtain rfl := (h.d2 e2).1
        obtain rfl := (h.d3 e3).1
        obtain rfl := (h.d4 e4).1
        have y3 := HYP.out w3 hbel
        obtain ⟨k0, k1⟩ := y3.cells
        have kh := y3.heap
        have kl := y3.lt
        have kf0 := y3.frozen 0
        have kf1 := y3.frozen 1
        clear hr hq
        have hF5 := (h.d5 e5).1 hme
        refine wpOp_runN rfl rfl (fun K hK => ?_)
        obtain ⟨ua, un, uc, va, vn, vc, rfl⟩ := hF5.shape
        go_simp
        refine hK _ _ ⟨l0, l1, l2, l3, l4, l5, true, l7, _, _, _, _, _, _, _, rfl, rfl, ?_⟩
        exact { bel := fun e => (by cases e), all := fun _ => ⟨e0, e1, e2, e3, e4, e5⟩, fin := fun _ => ⟨w3, hbel, rfl, hF5⟩, d0 := h.d0, d1 := h.d1, d2 := h.d2, d3 := h.d3, d4 := h.d4, d5 := fun e => ⟨fun e9 => (by cases e9), (h.d5 e).2⟩, d7 := fun e => absurd (h.d7 e).2.2.2.2.2.2.2 (by rw [hme]; decide) }
      | 7, hq, _ =>
        have hr := ready_depN hq rfl
        have hme : l7 = false := hr.1
        have e0 : l0 = true := hr.2 ⟨0, .phase⟩ (by simp) (by kernel_rfl)
        have e1 : l1 = true := hr.2 ⟨1, .phase⟩ (by simp) (by kernel_rfl)
        have e2 : l2 = true := hr.2 ⟨2, .phase⟩ (by simp) (by kernel_rfl)
        have e3 : l3 = true := hr.2 ⟨3, .phase⟩ (by simp) (by kernel_rfl)
        have e4 : l4 = true := hr.2 ⟨4, .phase⟩ (by simp) (by kernel_rfl)
        have e5 : l5 = true := hr.2 ⟨5, .phase⟩ (by simp) (by kernel_rfl)
        have e6 : l6 = true := hr.2 ⟨6, .chain⟩ (by simp) (by kernel_rfl)
        obtain rfl := (h.d0 e0).1
        obtain rfl := (h.d1 e1).1
        obtain rfl := (h.d2 e2).1
        obtain rfl := (h.d3 e3).1
        obtain rfl := (h.d4 e4).1
        clear hr hq
        refine wpOp_runN rfl rfl (fun K hK => ?_)
        go_simp
        refine hK _ _ ⟨l0, l1, l2, l3, l4, l5, l6, true, _, _, _, _, _, _, _, rfl, rfl, ?_⟩
        exact { bel := h.bel, all := h.all, fin := h.fin, d0 := h.d0, d1 := h.d1, d2 := h.d2, d3 := h.d3, d4 := h.d4, d5 := h.d5, d7 := fun _ => ⟨rfl, e0, e1, e2, e3, e4, e5, e6⟩ }
      | k + 8, hq, h18 => exact (Nat.not_lt_of_le (Nat.le_add_left 8 k) h18).elim
    case done =>
      rintro lb9 ac9 w3 ⟨l0, l1, l2, l3, l4, l5, l6, l7, s0, s1, s2, s3, s4, s5, s7, rfl, rfl, h⟩ hr
      cases l0
      · exact (ready_none2N hr 0 rfl rfl rfl).elim
      cases l1
      · exact (ready_none2N hr 1 rfl rfl rfl).elim
      cases l2
      · exact (ready_none2N hr 2 rfl rfl rfl).elim
      cases l3
      · exact (ready_none2N hr 3 rfl rfl rfl).elim
      cases l4
      · exact (ready_none2N hr 4 rfl rfl rfl).elim
      cases l5
      · exact (ready_none2N hr 5 rfl rfl rfl).elim
      cases l6
      · exact (ready_none2N hr 6 rfl rfl rfl).elim
      cases l7
      · exact (ready_none2N hr 7 rfl rfl rfl).elim
      obtain rfl := (h.d0 rfl).1
      obtain rfl := (h.d1 rfl).1
      obtain rfl := (h.d2 rfl).1
      obtain rfl := (h.d3 rfl).1
      obtain rfl := (h.d4 rfl).1
      obtain rfl := (h.d7 rfl).1
      obtain ⟨w4, hbel, rfl, hF5⟩ := h.fin rfl
      clear h hr
      obtain ⟨ua, un, uc, va, vn, vc, rfl⟩ := hF5.shape
      have hF9 := hF5
      obtain ⟨lo, hi, hlo, hO⟩ := hF9
      have y4 := ((HYP.out w4 hbel).set0 (.slice ua un uc)).set1 (.slice va vn vc)
      change w2.heap.size ≤ lo at hlo
      have HOL : Hid (OwnLa ((w4.setCell ⟨w.heap.size + 1, 0, none⟩ (.slice ua un uc)).setCell ⟨w.heap.size + 1, 1, none⟩ (.slice va vn vc)) w.heap.size ((w4.setCell ⟨w.heap.size + 1, 0, none⟩ (.slice ua un uc)).setCell ⟨w.heap.size + 1, 1, none⟩ (.slice va vn vc)).heap.size (.agg #[.slice ua un uc, .slice va vn vc]) LR) := ((hO.setO (b := w.heap.size + 1) (o := 0) (x := .slice ua un uc) (Or.inl (by omega))).setO (b := w.heap.size + 1) (o := 1) (x := .slice va vn vc) (Or.inl (by omega))).weak (by omega) (by rw [size_set, size_set]; exact hO.hi) (Nat.le_refl _)
      have HBE : Hid (Below w.heap.size w ((w4.setCell ⟨w.heap.size + 1, 0, none⟩ (.slice ua un uc)).setCell ⟨w.heap.size + 1, 1, none⟩ (.slice va vn vc))) := ((HBW.out w4 hbel).setCell (by show w.heap.size ≤ w.heap.size + 1; omega) _).setCell (by show w.heap.size ≤ w.heap.size + 1; omega) _
      have hyh := y4.heap
      clear hO hF5
      go_wp2_with fail
      refine bodyPost_ret (results_la rfl _ _ (w.heap.size + 1) 26 _ (0, 0) _ rfl hyh Try.underlying26 rfl (by kernel_rfl)) rfl ?_
      exact ⟨_, rfl, HOL.out, HBE.out⟩
end Go.Proofs.Ythamdefkcjfjpaa

namespace Go.Proofs.Ythamdefkcjfjpaa
open Go Go.RowKit
open M
set_option linter.unusedVariables false
set_option linter.unusedSimpArgs false

def sameB (a b : La) : Bool := goodLa a && goodLa b
def sameR (a b : La) : Bool := goodLa a && goodLa b && sameN 600 a b
structure RegSame (W w' : World) (B : Nat) (ga : Option Addr) (gn gc : Nat) (oa : Option Addr) (on oc : Nat) (ha : Option Addr) (hn hc : Nat) (pa : Option Addr) (pn pc : Nat) (E : Nat) (SB : Bool) (xs ys : List Int) (l0 l1 l2 l3 l4 l5 l6 l7 : Bool) (s0 s1 s2 s3 s4 s5 s6 s7 : Value) : Prop where
  (bel : Below W.heap.size W w')
  (d0 : l0 = true → s0 = .agg #[.slice ga gn gc, .slice oa on oc] ∧ True)
  (d1 : l1 = true → s1 = .int .i64 600 ∧ True)
  (d2 : l2 = true → (Rw B w' s2 xs) ∧ l0 = true ∧ l1 = true)
  (d3 : l3 = true → s3 = .agg #[.slice ha hn hc, .slice pa pn pc] ∧ True)
  (d4 : l4 = true → s4 = .int .i64 600 ∧ True)
  (d5 : l5 = true → (Rw B w' s5 ys) ∧ l2 = true ∧ l3 = true ∧ l4 = true)
  (d6 : l6 = true → s6 = .bool SB ∧ l2 = true ∧ l5 = true)
  (d7 : l7 = true → s7 = .bool SB ∧ l0 = true ∧ l1 = true ∧ l2 = true ∧ l3 = true ∧ l4 = true ∧ l5 = true ∧ l6 = true)
set_option maxRecDepth 100000 in
set_option maxHeartbeats 8000000 in
theorem l9Same_any (u v : Value) (a b : La) (ha0 : goodLa a = true) (hb0 : goodLa b = true) (w : World) (h : AtLa w u a) (h' : AtLa w v b) :
    Calls Try.prog 48 #[u, v] w fun e w' => e = .returned (.bool (sameN 600 a b)) ∧ Below w.heap.size w w' := by
  have GA : Hid (∀ w1 : World, Below w.heap.size w w1 → Calls Try.prog 52 #[u, .int .i64 0, .int .i64 600] w1 fun e w' => ∃ r, e = .returned r ∧ OwnInts2 w' w1.heap.size r (unrL a 0 600) ∧ Below w1.heap.size w1 w') := fun w1 hb => l9First_any u a ha0 0 600 (by omega) w1 (h.below hb)
  have GB : Hid (∀ w1 : World, Below w.heap.size w w1 → Calls Try.prog 52 #[v, .int .i64 0, .int .i64 600] w1 fun e w' => ∃ r, e = .returned r ∧ OwnInts2 w' w1.heap.size r (unrL b 0 600) ∧ Below w1.heap.size w1 w') := fun w1 hb => l9First_any v b hb0 0 600 (by omega) w1 (h'.below hb)
  have GE : Hid (∀ (w1 : World) (x y : Value), Below w.heap.size w w1 → IntsAt w1 x (unrL a 0 600) → IntsAt w1 y (unrL b 0 600) → Calls Try.prog 70 #[x, y] w1 fun e w' => e = .returned (.bool (sameN 600 a b)) ∧ Below w1.heap.size w1 w') := fun w1 x y _ hx hy => l1SameI_any x y _ _ w1 hx hy
  have HXL : Hid ((unrL a 0 600).length ≤ 1048576) := by show _ ≤ _; rw [unrL_len]; omega
  have HYL : Hid ((unrL b 0 600).length ≤ 1048576) := by show _ ≤ _; rw [unrL_len]; omega
  obtain ⟨ga, gn, gc, oa, on, oc, rfl⟩ := h.shape
  obtain ⟨ha, hn, hc, pa, pn, pc, rfl⟩ := h'.shape
  obtain ⟨w0, hw0⟩ : ∃ w0, (w.alloc (.cells #[.slice ga gn gc, .slice oa on oc] 26)).alloc (.cells #[.slice ha hn hc, .slice pa pn pc] 26) = w0 := ⟨_, rfl⟩
  have HB0 : Hid (Below w.heap.size w w0) := by
    show Below _ _ _
    rw [← hw0]
    exact ((Below.refl _ _).alloc (Nat.le_refl _) _).alloc (by rw [World.size_alloc]; omega) _
  have x0 := (box2_alloc w 26 (.slice ga gn gc) (.slice oa on oc)).alloc (.cells #[.slice ha hn hc, .slice pa pn pc] 26)
  have y0 := box2_alloc (w.alloc (.cells #[.slice ga gn gc, .slice oa on oc] 26)) 26 (.slice ha hn hc) (.slice pa pn pc)
  simp only [World.size_alloc] at y0
  have hz0 : w0.heap.size = w.heap.size + 2 := by rw [← hw0, World.size_alloc, World.size_alloc]
  rw [hw0] at x0 y0
  have HXP : Hid (∀ w3, Below w0.drew.heap.size w0.drew w3 → Box2 w3 w.heap.size 26 (.slice ga gn gc) (.slice oa on oc)) := fun w3 hb3 => Box2.below (w := w0.drew) ⟨x0.heap⟩ hb3 (by show _ < w0.heap.size; omega)
  have HYP : Hid (∀ w3, Below w0.drew.heap.size w0.drew w3 → Box2 w3 (w.heap.size + 1) 26 (.slice ha hn hc) (.slice pa pn pc)) := fun w3 hb3 => Box2.below (w := w0.drew) ⟨y0.heap⟩ hb3 (by show _ < w0.heap.size; omega)
  have HBW : Hid (∀ w3, Below w0.drew.heap.size w0.drew w3 → Below w.heap.size w w3) := fun w3 hb3 => HB0.out.drew.trans (hb3.mono (by show w.heap.size ≤ w0.heap.size; omega))
  have HW0 : Hid _ := hw0
  clear h h' ha0 hb0 x0 y0 hw0
  generalize unrL a 0 600 = xs at *
  generalize unrL b 0 600 = ys at *
  generalize sameN 600 a b = SB at *
  go_enter Try.func48, Try.ntmps48
  go_wp2_with fail
  rw [HW0.out]
  refine wp_region_any (by kernel_rfl) ?_
  change wpAny _ _ _ _ _ _ _ (World.drew _)
  refine wpAny_invN (fun lb9 ac9 w' => ∃ (l0 l1 l2 l3 l4 l5 l6 l7 : Bool) (s0 s1 s2 s3 s4 s5 s6 s7 : Value), lb9 = #[l0, l1, l2, l3, l4, l5, l6, l7] ∧ ac9 = { tmps := #[.agg #[.slice ga gn gc, .slice oa on oc], .agg #[.slice ha hn hc, .slice pa pn pc], .pointer (some ⟨w.heap.size, 0, none⟩), .pointer (some ⟨w.heap.size + 1, 0, none⟩), s7, .int .i64 600, s0, s1, s2, s3, s4, s5, s6], defers := [] } ∧ RegSame w0.drew w' w0.drew.heap.size ga gn gc oa on oc ha hn hc pa pn pc 600 SB xs ys l0 l1 l2 l3 l4 l5 l6 l7 s0 s1 s2 s3 s4 s5 s6 s7) ?done ?step 8 _ _ _ ⟨false, false, false, false, false, false, false, false, _, _, _, _, _, _, _, _, rfl, rfl, ?init⟩ (by decide)
  case init => exact { bel := Below.refl _ _, d0 := fun e => (by cases e), d1 := fun e => (by cases e), d2 := fun e => (by cases e), d3 := fun e => (by cases e), d4 := fun e => (by cases e), d5 := fun e => (by cases e), d6 := fun e => (by cases e), d7 := fun e => (by cases e) }
  case step =>
    rintro lb9 ac9 w3 ⟨l0, l1, l2, l3, l4, l5, l6, l7, s0, s1, s2, s3, s4, s5, s6, s7, rfl, rfl, h⟩
    intro q hq
    have hlt9 := ready_ltN hq
    match q, hq, hlt9 with
    | 0, hq, _ =>
      have hr := ready_depN hq rfl
      have hme : l0 = false := hr.1
      have hbel := h.bel
      have x3 := HXP.out w3 hbel
      obtain ⟨c0, c1⟩ := x3.cells
      have ch := x3.heap
      have cl := x3.lt
      clear hr hq
      refine wpOp_runN rfl rfl (fun K hK => ?_)
      go_simp
      refine hK _ _ ⟨true, l1, l2, l3, l4, l5, l6, l7, _, _, _, _, _, _, _, _, rfl, rfl, ?_⟩
      exact { bel := h.bel, d0 := fun _ => ⟨rfl, trivial⟩, d1 := h.d1, d2 := fun e => absurd (h.d2 e).2.1 (by rw [hme]; decide), d3 := h.d3, d4 := h.d4, d5 := h.d5, d6 := h.d6, d7 := fun e => absurd (h.d7 e).2.1 (by rw [hme]; decide) }
    | 1, hq, _ =>
      have hr := ready_depN hq rfl
      have hme : l1 = false := hr.1
      have hbel := h.bel
      clear hr hq
      refine wpOp_runN rfl rfl (fun K hK => ?_)
      go_simp
      refine hK _ _ ⟨l0, true, l2, l3, l4, l5, l6, l7, _, _, _, _, _, _, _, _, rfl, rfl, ?_⟩
      exact { bel := h.bel, d0 := h.d0, d1 := fun _ => ⟨rfl, trivial⟩, d2 := fun e => absurd (h.d2 e).2.2 (by rw [hme]; decide), d3 := h.d3, d4 := h.d4, d5 := h.d5, d6 := h.d6, d7 := fun e => absurd (h.d7 e).2.2.1 (by rw [hme]; decide) }
    | 2, hq, _ =>
      have hr := ready_depN hq rfl
      have hme : l2 = false := hr.1
      have e0 : l0 = true := hr.2 ⟨0, .data⟩ (by simp) (by kernel_rfl)
      have e1 : l1 = true := hr.2 ⟨1, .data⟩ (by simp) (by kernel_rfl)
      have hbel := h.bel
      obtain rfl := (h.d0 e0).1
      obtain rfl := (h.d1 e1).1
      clear hr hq
      refine wpOp_runN rfl rfl (fun K hK => ?_)
      go_simp
      go_at_call 52
      refine Calls.mono (GA.out w3 (HBW.out w3 hbel)) ?_
      rintro e w4 ⟨r, rfl, ho, hs4⟩
      have hbel4 := hbel.trans (hs4.mono hbel.size)
      have hnew := rw_of hbel.size (own_of2 ho)
      refine hK _ _ ⟨l0, l1, true, l3, l4, l5, l6, l7, _, _, _, _, _, _, _, _, rfl, rfl, ?_⟩
      exact { bel := hbel4, d0 := h.d0, d1 := h.d1, d2 := fun _ => ⟨hnew, e0, e1⟩, d3 := h.d3, d4 := h.d4, d5 := fun e => absurd (h.d5 e).2.1 (by rw [hme]; decide), d6 := fun e => absurd (h.d6 e).2.1 (by rw [hme]; decide), d7 := fun e => absurd (h.d7 e).2.2.2.1 (by rw [hme]; decide) }
    | 3, hq, _ =>
      have hr := ready_depN hq rfl
      have hme : l3 = false := hr.1
      have hbel := h.bel
      have x3 := HYP.out w3 hbel
      obtain ⟨c0, c1⟩ := x3.cells
      have ch := x3.heap
      have cl := x3.lt
      clear hr hq
      refine wpOp_runN rfl rfl (fun K hK => ?_)
      go_simp
      refine hK _ _ ⟨l0, l1, l2, true, l4, l5, l6, l7, _, _, _, _, _, _, _, _, rfl, rfl, ?_⟩
      exact { bel := h.bel, d0 := h.d0, d1 := h.d1, d2 := h.d2, d3 := fun _ => ⟨rfl, trivial⟩, d4 := h.d4, d5 := fun e => absurd (h.d5 e).2.2.1 (by rw [hme]; decide), d6 := h.d6, d7 := fun e => absurd (h.d7 e).2.2.2.2.1 (by rw [hme]; decide) }
    | 4, hq, _ =>
      have hr := ready_depN hq rfl
      have hme : l4 = false := hr.1
      have hbel := h.bel
      clear hr hq
      refine wpOp_runN rfl rfl (fun K hK => ?_)
      go_simp
      refine hK _ _ ⟨l0, l1, l2, l3, true, l5, l6, l7, _, _, _, _, _, _, _, _, rfl, rfl, ?_⟩
      exact { bel := h.bel, d0 := h.d0, d1 := h.d1, d2 := h.d2, d3 := h.d3, d4 := fun _ => ⟨rfl, trivial⟩, d5 := fun e => absurd (h.d5 e).2.2.2 (by rw [hme]; decide), d6 := h.d6, d7 := fun e => absurd (h.d7 e).2.2.2.2.2.1 (by rw [hme]; decide) }
    | 5, hq, _ =>
      have hr := ready_depN hq rfl
      have hme : l5 = false := hr.1
      have e2 : l2 = true := hr.2 ⟨2, .chain⟩ (by simp) (by kernel_rfl)
      have e3 : l3 = true := hr.2 ⟨3, .data⟩ (by simp) (by kernel_rfl)
      have e4 : l4 = true := hr.2 ⟨4, .data⟩ (by simp) (by kernel_rfl)
      have hbel := h.bel
      obtain rfl := (h.d3 e3).1
      obtain rfl := (h.d4 e4).1
      clear hr hq
      refine wpOp_runN rfl rfl (fun K hK => ?_)
      go_simp
      go_at_call 52
      refine Calls.mono (GB.out w3 (HBW.out w3 hbel)) ?_
      rintro e w4 ⟨r, rfl, ho, hs4⟩
      have hbel4 := hbel.trans (hs4.mono hbel.size)
      have hnew := rw_of hbel.size (own_of2 ho)
      refine hK _ _ ⟨l0, l1, l2, l3, l4, true, l6, l7, _, _, _, _, _, _, _, _, rfl, rfl, ?_⟩
      exact { bel := hbel4, d0 := h.d0, d1 := h.d1, d2 := fun e => ⟨(h.d2 e).1.below hs4, (h.d2 e).2⟩, d3 := h.d3, d4 := h.d4, d5 := fun _ => ⟨hnew, e2, e3, e4⟩, d6 := fun e => absurd (h.d6 e).2.2 (by rw [hme]; decide), d7 := fun e => absurd (h.d7 e).2.2.2.2.2.2.1 (by rw [hme]; decide) }
    | 6, hq, _ =>
      have hr := ready_depN hq rfl
      have hme : l6 = false := hr.1
      have e2 : l2 = true := hr.2 ⟨2, .data⟩ (by simp) (by kernel_rfl)
      have e5 : l5 = true := hr.2 ⟨5, .data⟩ (by simp) (by kernel_rfl)
      have hbel := h.bel
      clear hr hq
      refine wpOp_runN rfl rfl (fun K hK => ?_)
      go_simp
      go_at_call 70
      refine Calls.mono (GE.out w3 s2 s5 (HBW.out w3 hbel) ((h.d2 e2).1.reads HXL.out) ((h.d5 e5).1.reads HYL.out)) ?_
      rintro e w4 ⟨rfl, hs4⟩
      have hbel4 := hbel.trans (hs4.mono hbel.size)
      refine hK _ _ ⟨l0, l1, l2, l3, l4, l5, true, l7, _, _, _, _, _, _, _, _, rfl, rfl, ?_⟩
      exact { bel := hbel4, d0 := h.d0, d1 := h.d1, d2 := fun e => ⟨(h.d2 e).1.below hs4, (h.d2 e).2⟩, d3 := h.d3, d4 := h.d4, d5 := fun e => ⟨(h.d5 e).1.below hs4, (h.d5 e).2⟩, d6 := fun _ => ⟨rfl, e2, e5⟩, d7 := fun e => absurd (h.d7 e).2.2.2.2.2.2.2 (by rw [hme]; decide) }
    | 7, hq, _ =>
      have hr := ready_depN hq rfl
      have hme : l7 = false := hr.1
      have e0 : l0 = true := hr.2 ⟨0, .phase⟩ (by simp) (by kernel_rfl)
      have e1 : l1 = true := hr.2 ⟨1, .phase⟩ (by simp) (by kernel_rfl)
      have e2 : l2 = true := hr.2 ⟨2, .phase⟩ (by simp) (by kernel_rfl)
      have e3 : l3 = true := hr.2 ⟨3, .phase⟩ (by simp) (by kernel_rfl)
      have e4 : l4 = true := hr.2 ⟨4, .phase⟩ (by simp) (by kernel_rfl)
      have e5 : l5 = true := hr.2 ⟨5, .phase⟩ (by simp) (by kernel_rfl)
      have e6 : l6 = true := hr.2 ⟨6, .data⟩ (by simp) (by kernel_rfl)
      have hbel := h.bel
      obtain rfl := (h.d0 e0).1
      obtain rfl := (h.d1 e1).1
      obtain rfl := (h.d3 e3).1
      obtain rfl := (h.d4 e4).1
      obtain rfl := (h.d6 e6).1
      clear hr hq
      refine wpOp_runN rfl rfl (fun K hK => ?_)
      go_simp
      refine hK _ _ ⟨l0, l1, l2, l3, l4, l5, l6, true, _, _, _, _, _, _, _, _, rfl, rfl, ?_⟩
      exact { bel := h.bel, d0 := h.d0, d1 := h.d1, d2 := h.d2, d3 := h.d3, d4 := h.d4, d5 := h.d5, d6 := h.d6, d7 := fun _ => ⟨rfl, e0, e1, e2, e3, e4, e5, e6⟩ }
    | k + 8, hq, h18 => exact (Nat.not_lt_of_le (Nat.le_add_left 8 k) h18).elim
  case done =>
    rintro lb9 ac9 w3 ⟨l0, l1, l2, l3, l4, l5, l6, l7, s0, s1, s2, s3, s4, s5, s6, s7, rfl, rfl, h⟩ hr
    cases l0
    · exact (ready_none2N hr 0 rfl rfl rfl).elim
    cases l1
    · exact (ready_none2N hr 1 rfl rfl rfl).elim
    cases l2
    · exact (ready_none2N hr 2 rfl rfl rfl).elim
    cases l3
    · exact (ready_none2N hr 3 rfl rfl rfl).elim
    cases l4
    · exact (ready_none2N hr 4 rfl rfl rfl).elim
    cases l5
    · exact (ready_none2N hr 5 rfl rfl rfl).elim
    cases l6
    · exact (ready_none2N hr 6 rfl rfl rfl).elim
    cases l7
    · exact (ready_none2N hr 7 rfl rfl rfl).elim
    obtain rfl := (h.d0 rfl).1
    obtain rfl := (h.d1 rfl).1
    obtain rfl := (h.d3 rfl).1
    obtain rfl := (h.d4 rfl).1
    obtain rfl := (h.d6 rfl).1
    obtain rfl := (h.d7 rfl).1
    have hbel := h.bel
    have hF2 := (h.d2 rfl).1
    have hF5 := (h.d5 rfl).1
    clear h hr
    have HBE : Hid (Below w.heap.size w w3) := HBW.out w3 hbel
    clear hF2 hF5 hbel
    go_wp2_with fail
    go_ret
    exact ⟨rfl, HBE.out⟩
set_option maxRecDepth 100000 in
set_option maxHeartbeats 8000000 in
theorem sSameWord_any (u v : Value) (a b : La) (w : World) (h : AtLa w u a) (h' : AtLa w v b) :
    Calls Try.prog 16 #[u, v] w fun e w' => e = .returned (.tuple #[.bool (sameR a b), .bool (sameB a b)]) ∧ Below w.heap.size w w' := by
  have G1 : Hid (∀ w1 : World, Below w.heap.size w w1 → Calls Try.prog 21 #[u] w1 fun e w' => e = .returned (.bool (goodLa a)) ∧ Below w1.heap.size w1 w') := fun w1 hb => sGoodLasso_any u a w1 (h.below hb)
  have G2 : Hid (∀ w1 : World, Below w.heap.size w w1 → Calls Try.prog 21 #[v] w1 fun e w' => e = .returned (.bool (goodLa b)) ∧ Below w1.heap.size w1 w') := fun w1 hb => sGoodLasso_any v b w1 (h'.below hb)
  have hR : sameR a b = (goodLa a && goodLa b && sameN 600 a b) := rfl
  have hB : sameB a b = (goodLa a && goodLa b) := rfl
  have HS : Hid (goodLa a = true → goodLa b = true → ∀ w1 : World, Below w.heap.size w w1 → Calls Try.prog 48 #[u, v] w1 fun e w' => e = .returned (.bool (sameN 600 a b)) ∧ Below w1.heap.size w1 w') := fun q1 q2 w1 hb => l9Same_any u v a b q1 q2 w1 (h.below hb) (h'.below hb)
  obtain ⟨ga, gn, gc, oa, on, oc, rfl⟩ := h.shape
  obtain ⟨ha, hn, hc, pa, pn, pc, rfl⟩ := h'.shape
  obtain ⟨w0, hw0⟩ : ∃ w0, (w.alloc (.cells #[.slice ga gn gc, .slice oa on oc] 26)).alloc (.cells #[.slice ha hn hc, .slice pa pn pc] 26) = w0 := ⟨_, rfl⟩
  have HB0 : Hid (Below w.heap.size w w0) := by
    show Below _ _ _
    rw [← hw0]
    exact ((Below.refl _ _).alloc (Nat.le_refl _) _).alloc (by rw [World.size_alloc]; omega) _
  have x0 := (box2_alloc w 26 (.slice ga gn gc) (.slice oa on oc)).alloc (.cells #[.slice ha hn hc, .slice pa pn pc] 26)
  have y0 := box2_alloc (w.alloc (.cells #[.slice ga gn gc, .slice oa on oc] 26)) 26 (.slice ha hn hc) (.slice pa pn pc)
  simp only [World.size_alloc] at y0
  have hz0 : w0.heap.size = w.heap.size + 2 := by rw [← hw0, World.size_alloc, World.size_alloc]
  rw [hw0] at x0 y0
  have HX0 : Hid _ := x0
  have HY0 : Hid _ := y0
  obtain ⟨a0, a1⟩ := x0.cells
  have ah := x0.heap
  have al := x0.lt
  obtain ⟨b0, b1⟩ := y0.cells
  have bh := y0.heap
  have bl := y0.lt
  rw [← hw0] at a0 a1 ah al b0 b1 bh bl
  have g := G1.out _ HB0.out
  rw [← hw0] at g
  have HW0 : Hid _ := hw0
  rw [hR, hB]
  clear h h' G1 x0 y0 hw0 hR hB
  generalize sameN 600 a b = SB at *
  generalize goodLa a = AB at *
  generalize goodLa b = BB at *
  cases AB with
  | false =>
    rw [Bool.false_and, Bool.false_and]
    clear HS G2
    go_enter Try.func16, Try.ntmps16
    go_wp2_with fail
    refine g.mono ?_
    rw [HW0.out]
    clear a0 a1 ah al b0 b1 bh bl
    rintro e w1 ⟨rfl, hs⟩
    have HB1 : Hid (Below w.heap.size w w1) := HB0.out.trans (hs.mono (by omega))
    have x1 := HX0.out.below hs (by omega)
    have y1 := HY0.out.below hs (by omega)
    have hs1 := hs.size
    clear g hs HX0 HY0
    clear x1 y1
    go_wp2_with fail
    go_ret2
    exact ⟨rfl, HB1.out⟩
  | true =>
    rw [Bool.true_and]
    cases BB with
    | false =>
      rw [Bool.false_and]
      clear HS
      go_enter Try.func16, Try.ntmps16
      go_wp2_with fail
      refine g.mono ?_
      rw [HW0.out]
      clear a0 a1 ah al b0 b1 bh bl
      rintro e w1 ⟨rfl, hs⟩
      have HB1 : Hid (Below w.heap.size w w1) := HB0.out.trans (hs.mono (by omega))
      have x1 := HX0.out.below hs (by omega)
      have y1 := HY0.out.below hs (by omega)
      have hs1 := hs.size
      clear g hs HX0 HY0
      obtain ⟨a0, a1⟩ := x1.cells
      have ah := x1.heap
      have al := x1.lt
      obtain ⟨b0, b1⟩ := y1.cells
      have bh := y1.heap
      have bl := y1.lt
      clear x1 y1
      have g2 := G2.out _ HB1.out
      go_wp2_with fail
      refine g2.mono ?_
      rintro e w2 ⟨rfl, hs⟩
      have HB2 : Hid (Below w.heap.size w w2) := HB1.out.trans (hs.mono (by omega))
      clear g2 hs a0 a1 ah al b0 b1 bh bl
      go_wp2_with fail
      go_ret2
      exact ⟨rfl, HB2.out⟩
    | true =>
      rw [Bool.true_and]
      have HS2 : Hid _ := HS.out rfl rfl
      clear HS
      go_enter Try.func16, Try.ntmps16
      go_wp2_with fail
      refine g.mono ?_
      rw [HW0.out]
      clear a0 a1 ah al b0 b1 bh bl
      rintro e w1 ⟨rfl, hs⟩
      have HB1 : Hid (Below w.heap.size w w1) := HB0.out.trans (hs.mono (by omega))
      have x1 := HX0.out.below hs (by omega)
      have y1 := HY0.out.below hs (by omega)
      have hs1 := hs.size
      clear g hs HX0 HY0
      obtain ⟨a0, a1⟩ := x1.cells
      have ah := x1.heap
      have al := x1.lt
      obtain ⟨b0, b1⟩ := y1.cells
      have bh := y1.heap
      have bl := y1.lt
      have g2 := G2.out _ HB1.out
      go_wp2_with fail
      refine g2.mono ?_
      rintro e w2 ⟨rfl, hs⟩
      have HB2 : Hid (Below w.heap.size w w2) := HB1.out.trans (hs.mono (by omega))
      have x2 := x1.below hs (by omega)
      have y2 := y1.below hs (by omega)
      clear g2 hs a0 a1 ah al b0 b1 bh bl x1 y1
      obtain ⟨a0, a1⟩ := x2.cells
      have ah := x2.heap
      have al := x2.lt
      obtain ⟨b0, b1⟩ := y2.cells
      have bh := y2.heap
      have bl := y2.lt
      clear x2 y2
      have g3 := HS2.out _ HB2.out
      go_wp2_with fail
      refine g3.mono ?_
      rintro e w3 ⟨rfl, hs⟩
      have HB3 : Hid (Below w.heap.size w w3) := HB2.out.trans (hs.mono HB2.out.size)
      clear g3 hs a0 a1 ah al b0 b1 bh bl
      go_wp2_with fail
      go_ret2
      exact ⟨rfl, HB3.out⟩
end Go.Proofs.Ythamdefkcjfjpaa
