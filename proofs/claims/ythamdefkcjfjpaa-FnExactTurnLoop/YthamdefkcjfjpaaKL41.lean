/-
  The model's cuts of a word: l9First, l1Own.
  The model's l9Suffix.
  The program's LetterAt, UnrollOf, ifGood, TurnLoop, SuffixOf.
  The model's LetterAt, UnrollOf.
  The model's SuffixOf.
  The program's TurnLoop.
  The model's TurnLoop.
-/
import Derived.Test.YthamdefkcjfjpaaSLasso
import Derived.Test.YthamdefkcjfjpaaPut
import Derived.Test.YthamdefkcjfjpaaIntSS
import Derived.Test.YthamdefkcjfjpaaRw9
import Derived.Test.YthamdefkcjfjpaaIGoodL
import Derived.Test.YthamdefkcjfjpaaICut
import Derived.Test.YthamdefkcjfjpaaAMade
namespace Go.Proofs.Ythamdefkcjfjpaa
open Go Go.RowKit
open M
set_option linter.unusedVariables false
set_option linter.unusedSimpArgs false

theorem own2_lt {w : World} {B : Nat} {v : Value} {t : List Int} (h : OwnInts2 w B v t) (k : Nat) (hk : v.ownBlock = some k) : B ≤ k ∧ k < w.heap.size := own_block h hk
set_option maxRecDepth 100000 in
set_option maxHeartbeats 4000000 in
theorem l9First_any (v : Value) (l : La) (hg : goodLa l = true) (a n : Nat) (ha : a + n ≤ 2000) (w : World) (h : AtLa w v l) :
    Calls Try.prog 52 #[v, .int .i64 a, .int .i64 n] w fun e w' => ∃ u, e = .returned u ∧ OwnInts2 w' w.heap.size u (unrL l a n) ∧ Below w.heap.size w w' := by
  have HAT : Hid (∀ j : Nat, a + j ≤ 2000 → ∀ w1 : World, Below w.heap.size w w1 → Calls Try.prog 61 #[v, .int .i64 ((a : Int) + (j : Int))] w1 fun e w' => e = .returned (.int .i64 (letL l (a + j))) ∧ Below w1.heap.size w1 w') := fun j hj w1 hb => l9At_any v l hg (a + j) hj w1 (h.below hb)
  obtain ⟨ga, gn, gc, oa, on, oc, rfl⟩ := h.shape
  have HB0 : Hid (Below w.heap.size w (w.alloc (.cells #[.slice ga gn gc, .slice oa on oc] 26))) := (Below.refl _ _).alloc (Nat.le_refl _) _
  have x0 := box2_alloc w 26 (.slice ga gn gc) (.slice oa on oc)
  have hw0z : (w.alloc (.cells #[.slice ga gn gc, .slice oa on oc] 26)).heap.size = w.heap.size + 1 := World.size_alloc _ _
  have HXP : Hid (∀ w3, Below (w.heap.size + 1) (w.alloc (.cells #[.slice ga gn gc, .slice oa on oc] 26)) w3 → Box2 w3 w.heap.size 26 (.slice ga gn gc) (.slice oa on oc)) := fun w3 hb3 => x0.below hb3 (by omega)
  have HBX0 : Hid (Below (w.heap.size + 1) (w.alloc (.cells #[.slice ga gn gc, .slice oa on oc] 26)) (w.alloc (.cells #[.slice ga gn gc, .slice oa on oc] 26))) := Below.refl _ _
  obtain ⟨i0, hi, hz0, hz1, hz2⟩ := info_parts infoInt
  clear h x0 hg
  go_enter Try.func52, Try.ntmps52
  go_wp2_with fail
  generalize w.alloc (.cells #[.slice ga gn gc, .slice oa on oc] 26) = w0 at *
  go_loopw [7, 8] (fun v i wr => ∃ j : Nat, j ≤ n ∧ i = .int .i64 ((a : Int) + (j : Int)) ∧ Hid (OwnInts2 wr (w.heap.size + 1) v (unrL l a j)) ∧ Hid (Below w.heap.size w wr) ∧ Hid (Below (w.heap.size + 1) w0 wr)) (fun _ i _ => a + n - (intOf i).toNat)
  case atStart => exact ⟨0, by omega, by simp, World.ownsRow_nil _ _ _ _, HB0, HBX0⟩
  case round =>
    obtain ⟨j, hj, rfl, HO, HB, HBX⟩ := hrel
    clear HB0 HBX0
    obtain ⟨a0, a1⟩ := (HXP.out _ HBX.out).cells
    have ah := (HXP.out _ HBX.out).heap
    have al := (HXP.out _ HBX.out).lt
    by_cases hlt : j < n
    · have g0 := HAT.out j (by omega) wr HB.out
      obtain ⟨q, hq⟩ : ∃ q : Int, (a : Int) + (j : Int) = q := ⟨_, rfl⟩
      have hq0 : 0 ≤ q := by omega
      have hq1 : q < (a : Int) + (n : Int) := by omega
      have HQ : Hid (q = (a : Int) + (j : Int)) := hq.symm
      have HS : Hid (unrL l a (j + 1) = unrL l a j ++ [letL l (a + j)]) := unrL_snoc l a j
      have hll : (unrL l a j).length = j := unrL_len l a j
      rw [hq] at g0 ⊢
      clear hq
      generalize letL l (a + j) = X at *
      go_wp2_with fail
      refine g0.mono ?_
      rintro e w5 ⟨rfl, hs⟩
      have HB5 : Hid (Below w.heap.size w w5) := HB.out.trans (hs.mono HB.out.size)
      have HBX5 : Hid (Below (w.heap.size + 1) w0 w5) := HBX.out.trans (hs.mono (by have := HBX.out.size; omega))
      have HW5 : Hid (OwnInts2 w5 (w.heap.size + 1) u7 (unrL l a j)) := owns_below HO.out hs
      have own1 : (w5.alloc (.cells #[.int .i64 X] 3)).ownsRow (w.heap.size + 1) 3 1 u7 (unrL l a j).length (cellsI (unrL l a j)) := World.ownsRow.alloc HW5.out _
      have cellsN := oneI_cells w5 X
      have hsz5 := HB5.out.size
      have hszx5 := HBX5.out.size
      clear g0 hs a0 a1 ah al HO HB HBX HAT
      go_wp2_with (at_builtin; refine wpList_append_own _ rfl _ _ 24 rfl (w.heap.size + 1) 3 i0 (.int .i64 0) 1 8 Try.underlying24 hi hz0 hz1 hz2 rfl (by decide) _ _ _ rfl own1 ⟨w5.heap.size, 0, none⟩ 1 1 [.int .i64 X] rfl rfl cellsN (ints_one [X]) (by unfold maxLen; omega) (by omega) (by simp; omega) ?_)
      intro v7 w7 own7 grow7 _
      have HB7 : Hid (Below w.heap.size w w7) := (HB5.out.alloc HB5.out.size _).grown grow7 (by simp; omega) (fun k hk => by have := (own2_lt HW5.out k hk).1; omega)
      have HBX7 : Hid (Below (w.heap.size + 1) w0 w7) := (HBX5.out.alloc (by omega) _).grown grow7 (by simp; omega) (fun k hk => (own2_lt HW5.out k hk).1)
      have HO7 : Hid (OwnInts2 w7 (w.heap.size + 1) v7 (unrL l a (j + 1))) := by
        show OwnInts2 _ _ _ _
        rw [HS.out]
        have e1 : (unrL l a j ++ [X]).length = j + 1 := by
          rw [List.length_append, hll]
          rfl
        have e2 : cellsI (unrL l a j ++ [X]) = cellsI (unrL l a j) ++ [.int .i64 X] := by simp [cellsI]
        unfold OwnInts2
        rw [e1, e2]
        exact own7
      clear own1 own7 grow7 cellsN
      have hq2 : q ≤ 2000 := by omega
      have HQ1 : Hid (q + 1 = (a : Int) + ((j + 1 : Nat) : Int)) := by
        have := HQ.out
        show q + 1 = _
        omega
      go_wp2_with fail
      go_roundw
      case rel => exact ⟨j + 1, by omega, by rw [HQ1.out], HO7, HB7, HBX7⟩
      case measure => have := HQ.out; simp [intOf]; omega
    · obtain rfl : j = n := by omega
      clear HAT
      go_wp2_with fail
      go_ret
      exact ⟨_, rfl, HO.out.low (Nat.le_succ _), HB.out⟩
/-- what is appended to a list of one's own: nothing, or a row from anywhere in a block -/
def SrcO (w : World) (v : Value) (n : Nat) (xs : List Value) : Prop := (n = 0 ∧ xs = [] ∧ v = .slice none 0 0) ∨ ∃ (g off cap : Nat), v = .slice (some ⟨g, off, none⟩) n cap ∧ (0 < n → g < w.heap.size) ∧ ∀ (j : Nat) (u : Value), xs[j]? = some u → w.cell? ((⟨g, off, none⟩ : Addr).add j) = some u
theorem add_eq (g off j : Nat) : (⟨g, off, none⟩ : Addr).add j = ⟨g, off + j, none⟩ := by
  unfold Addr.add
  by_cases h0 : j = 0
  · subst h0
    simp
  · simp [h0]
theorem srcO_ints {w : World} {v : Value} {t : List Int} (h1 : IntsAt w v t) (h2 : Sol v) : SrcO w v t.length (cellsI t) := by
  rcases h1.2 with ⟨rfl, a, cap, hv⟩ | ⟨b, off, cap, hv, hlt, hc⟩
  · obtain ⟨a', n', c', e, hz, hb, _⟩ := h2
    rw [hv] at e
    injection e with e1 e2 e3
    subst e1 e2 e3
    cases a with
    | none => exact Or.inl ⟨rfl, rfl, by rw [hv, (hz rfl).2]⟩
    | some ad =>
      obtain ⟨b, off, s⟩ := ad
      have hs := hb _ rfl
      simp only at hs
      subst hs
      exact Or.inr ⟨b, off, cap, hv, fun h0 => absurd h0 (by simp), fun j u hu => by simp [cellsI] at hu⟩
  · refine Or.inr ⟨b, off, cap, hv, fun _ => hlt, fun j u hu => ?_⟩
    rw [add_eq]
    unfold cellsI at hu
    rw [List.getElem?_map, Option.map_eq_some_iff] at hu
    obtain ⟨x, hx, rfl⟩ := hu
    exact hc j x hx
theorem SrcO.below {w w' : World} {v : Value} {n : Nat} {xs : List Value} (h : SrcO w v n xs) (hn : xs.length = n) (hb : Below w.heap.size w w') : SrcO w' v n xs := by
  rcases h with h | ⟨g, off, cap, hv, hg, hc⟩
  · exact Or.inl h
  · refine Or.inr ⟨g, off, cap, hv, fun h0 => Nat.lt_of_lt_of_le (hg h0) hb.size, fun j u hu => ?_⟩
    have hj := (List.getElem?_eq_some_iff.1 hu).1
    have h1 := hc j u hu
    rw [add_eq] at h1 ⊢
    rw [hb.cell (p := ⟨g, off + j, none⟩) (hg (by omega))]
    exact h1
theorem SrcO.drew {w : World} {v : Value} {n : Nat} {xs : List Value} (h : SrcO w v n xs) : SrcO w.drew v n xs := h
theorem wp_append_srcO {P : Program} {o : Oper} {a : Act} {w : World} {K : Act → World → Prop} {Q : Exit → Act → World → Prop} (s x : Operand) (t : TypeId)
    (ho : o.op = .call { callee := .builtin .append, args := #[s, x], argTypes := #[t, t] })
    (base : Nat) (e : TypeId) (i : TypeInfo) (z : Value) (size bytes : Nat) (ht : P.underlying t = some (.slice e)) (hi : P.info? e = some i) (hz : i.zero = some z)
    (hsize : i.size = size) (hby : i.bytes = bytes) (hzs : z.cells.size = size) (hsz : 0 < size)
    (v : Value) (n : Nat) (xs : List Value) (hs : a.eval s = v) (hown : w.ownsRow base e size v n xs)
    (u : Value) (m : Nat) (news : List Value) (hx : a.eval x = u) (hsrc : SrcO w u m news) (hl : news.length = m * size) (h1 : ∀ u ∈ news, u.oneCell' = true)
    (h63 : n + m ≤ maxLen) (hbytes : (n + m) * bytes ≤ 140737488355328) (hbase : base ≤ w.heap.size)
    (h : ∀ v' w', w'.ownsRow base e size v' (n + m) (xs ++ news) → w.grownBy w' v.ownBlock → K (a.put o.dst v') w') : o.wp P a w K Q := by
  rcases hsrc with ⟨rfl, rfl, rfl⟩ | ⟨g, off, cap, rfl, _, hc⟩
  · have hrun := run_append_owned_none (P := P) (w := w) base t o.type e i size ht hi v n xs hown
    unfold Oper.wp
    simp [execOp, ho, resolve, invoke, builtin, hs, hx, hrun, Result.andThen]
    refine h v w ?_ (grown_refl _ _)
    rw [List.append_nil]
    exact hown
  · exact wp_append_own w s x t ho base e i z size bytes ht hi hz hsize hby hzs hsz v n xs hs hown ⟨g, off, none⟩ m cap news hx hl hc h1 h63 hbytes hbase (fun v' w' h2 h3 _ => h v' w' h2 h3)
theorem wpList_append_srcO {P : Program} {ops : Array Oper} {rest : List Oper} {o : Oper} {a : Act} {w : World} {Q : Exit → Act → World → Prop} (hgd : o.guard = none) (s x : Operand) (t : TypeId)
    (ho : o.op = .call { callee := .builtin .append, args := #[s, x], argTypes := #[t, t] })
    (base : Nat) (e : TypeId) (i : TypeInfo) (z : Value) (size bytes : Nat) (ht : P.underlying t = some (.slice e)) (hi : P.info? e = some i) (hz : i.zero = some z)
    (hsize : i.size = size) (hby : i.bytes = bytes) (hzs : z.cells.size = size) (hsz : 0 < size)
    (v : Value) (n : Nat) (xs : List Value) (hs : a.eval s = v) (hown : w.ownsRow base e size v n xs)
    (u : Value) (m : Nat) (news : List Value) (hx : a.eval x = u) (hsrc : SrcO w u m news) (hl : news.length = m * size) (h1 : ∀ u ∈ news, u.oneCell' = true)
    (h63 : n + m ≤ maxLen) (hbytes : (n + m) * bytes ≤ 140737488355328) (hbase : base ≤ w.heap.size)
    (h : ∀ v' w', w'.ownsRow base e size v' (n + m) (xs ++ news) → w.grownBy w' v.ownBlock → wpList P ops Q rest (a.put o.dst v') w') : wpList P ops Q (o :: rest) a w :=
  wpList_plain hgd fun _ hK => wp_append_srcO s x t ho base e i z size bytes ht hi hz hsize hby hzs hsz v n xs hs hown u m news hx hsrc hl h1 h63 hbytes hbase (fun v' w' h2 h3 => hK _ _ (h v' w' h2 h3))
set_option maxRecDepth 100000 in
theorem l1OwnO_any (a : Option Addr) (n cap : Nat) (os : List Int) (hn : os.length = n) (hO : n ≤ 100000) (w : World) (h : SrcO w (.slice a n cap) n (cellsI os)) :
    Calls Try.prog 53 #[.slice a n cap] w fun e w' => ∃ r, e = .returned r ∧ OwnInts2 w' w.heap.size r os ∧ Below w.heap.size w w' := by
  obtain ⟨i0, hif, hz0, hz1, hz2⟩ := info_parts infoInt
  have own0 := own_emptyI w w.heap.size (Nat.le_refl _)
  have hb0 : Below w.heap.size w (w.alloc (.cells #[] 3)) := (Below.refl _ _).alloc (Nat.le_refl _) _
  have sol : (cellsI os).length = n * 1 := by simp [cellsI, hn]
  have h0 := h.below (by omega) hb0
  have HN : Hid (os.length = n) := hn
  clear h hn
  go_enter Try.func53, Try.ntmps53
  go_wp2_with (at_builtin; refine wpList_append_srcO rfl _ _ 24 rfl w.heap.size 3 i0 (.int .i64 0) 1 8 Try.underlying24 hif hz0 hz1 hz2 rfl (by decide) _ _ _ rfl own0 (.slice a n cap) n (cellsI os) rfl h0 sol (ints_one os) (by unfold maxLen; omega) (by omega) hb0.size ?_)
  intro v5 w5 own5 grow5
  have HO : Hid (OwnInts2 w5 w.heap.size v5 os) := by
    show OwnInts2 _ _ _ _
    unfold OwnInts2
    rw [HN.out]
    exact own5
  have HB : Hid (Below w.heap.size w w5) := hb0.grown grow5 hb0.size (fun k hk => (own_block own0 hk).1)
  clear own5 grow5 own0 h0
  go_wp2_with fail
  go_ret
  exact ⟨_, rfl, HO.out, HB.out⟩
end Go.Proofs.Ythamdefkcjfjpaa

namespace Go.Proofs.Ythamdefkcjfjpaa
open Go Go.RowKit
open M
set_option linter.unusedVariables false
set_option linter.unusedSimpArgs false

structure RegSuf (W w' : World) (B X Y : Nat) (ga : Option Addr) (gn gc : Nat) (oa : Option Addr) (on oc k : Nat) (SV : Value) (xs ys : List Int) (l0 l1 l2 l3 l4 l5 l6 l7 l8 l9 : Bool) (s0 s1 s2 s3 s4 s5 s6 s7 s8 : Value) : Prop where
  (bel : l9 = false → Below W.heap.size W w')
  (all : l9 = true → l0 = true ∧ l1 = true ∧ l2 = true ∧ l3 = true ∧ l4 = true ∧ l5 = true ∧ l6 = true ∧ l7 = true ∧ l8 = true)
  (fin : l9 = true → ∃ w4 : World, Below W.heap.size W w4 ∧ w' = ((w4.setCell ⟨Y, 0, none⟩ s4).setCell ⟨Y, 1, none⟩ s7) ∧ Rw B w4 s4 xs ∧ Rw2 B w4 s4 s7 ys)
  (d0 : l0 = true → s0 = .pointer (some ⟨X, 0, none⟩) ∧ True)
  (d1 : l1 = true → s1 = .slice ga gn gc ∧ l0 = true)
  (d2 : l2 = true → s2 = .int .i64 k ∧ True)
  (d3 : l3 = true → s3 = SV ∧ l1 = true ∧ l2 = true)
  (d4 : l4 = true → (l9 = false → Rw B w' s4 xs) ∧ l3 = true)
  (d5 : l5 = true → s5 = .pointer (some ⟨X, 1, none⟩) ∧ True)
  (d6 : l6 = true → s6 = .slice oa on oc ∧ l5 = true)
  (d7 : l7 = true → (l9 = false → Rw2 B w' s4 s7 ys) ∧ l4 = true ∧ l6 = true)
  (d8 : l8 = true → s8 = .agg #[s4, s7] ∧ l4 = true ∧ l7 = true)
set_option maxRecDepth 100000 in
set_option maxHeartbeats 8000000 in
theorem suf_some (oa : Option Addr) (on oc k : Nat) (gb go gn gc : Nat) (asl : Option Addr) (hk : k ≤ gn) (hgn : gn ≤ 24) (hgc : gn ≤ gc) (hasl : (if gc = k then some (⟨gb, go, none⟩ : Addr) else some ⟨gb, go + k, none⟩) = asl) (xs ys : List Int) (w : World)
    (GO1 : Hid (∀ w1 : World, Below w.heap.size w w1 → Calls Try.prog 53 #[.slice asl (gn - k) (gc - k)] w1 fun e w' => ∃ r, e = .returned r ∧ OwnInts2 w' w1.heap.size r xs ∧ Below w1.heap.size w1 w'))
    (GO2 : Hid (∀ w1 : World, Below w.heap.size w w1 → Calls Try.prog 53 #[.slice oa on oc] w1 fun e w' => ∃ r, e = .returned r ∧ OwnInts2 w' w1.heap.size r ys ∧ Below w1.heap.size w1 w')) :
    Calls Try.prog 59 #[.agg #[.slice (some ⟨gb, go, none⟩) gn gc, .slice oa on oc], .int .i64 k] w fun e w' => ∃ u, e = .returned u ∧ OwnLa w' w.heap.size w'.heap.size u (xs, ys) ∧ Below w.heap.size w w' := by
  obtain ⟨w0, hw0⟩ : ∃ w0, (w.alloc (.cells #[.slice (some ⟨gb, go, none⟩) gn gc, .slice oa on oc] 26)).alloc (.cells #[.slice none 0 0, .slice none 0 0] 26) = w0 := ⟨_, rfl⟩
  have HB0 : Hid (Below w.heap.size w w0) := by
    show Below _ _ _
    rw [← hw0]
    exact ((Below.refl _ _).alloc (Nat.le_refl _) _).alloc (by rw [World.size_alloc]; omega) _
  have x0 := (box2_alloc w 26 (.slice (some ⟨gb, go, none⟩) gn gc) (.slice oa on oc)).alloc (.cells #[.slice none 0 0, .slice none 0 0] 26)
  have y0 := box2_alloc (w.alloc (.cells #[.slice (some ⟨gb, go, none⟩) gn gc, .slice oa on oc] 26)) 26 (.slice none 0 0) (.slice none 0 0)
  simp only [World.size_alloc] at y0
  have hz0 : w0.heap.size = w.heap.size + 2 := by rw [← hw0, World.size_alloc, World.size_alloc]
  rw [hw0] at x0 y0
  have HXP : Hid (∀ w3, Below w0.drew.heap.size w0.drew w3 → Box2 w3 w.heap.size 26 (.slice (some ⟨gb, go, none⟩) gn gc) (.slice oa on oc)) := fun w3 hb3 => Box2.below (w := w0.drew) ⟨x0.heap⟩ hb3 (by show _ < w0.heap.size; omega)
  have HYP : Hid (∀ w3, Below w0.drew.heap.size w0.drew w3 → Box2 w3 (w.heap.size + 1) 26 (.slice none 0 0) (.slice none 0 0)) := fun w3 hb3 => Box2.below (w := w0.drew) ⟨y0.heap⟩ hb3 (by show _ < w0.heap.size; omega)
  have HBW : Hid (∀ w3, Below w0.drew.heap.size w0.drew w3 → Below w.heap.size w w3) := fun w3 hb3 => HB0.out.drew.trans (hb3.mono (by show w.heap.size ≤ w0.heap.size; omega))
  have HW0 : Hid _ := hw0
  obtain ⟨a0, a1⟩ := x0.cells
  have ah := x0.heap
  have al := x0.lt
  rw [← hw0] at a0 a1 ah al
  clear x0 y0 hw0
  go_enter Try.func59, Try.ntmps59
  go_wp2_with fail
  rw [HW0.out]
  refine wp_region_any (by kernel_rfl) ?_
  change wpAny _ _ _ _ _ _ _ (World.drew _)
  refine wpAny_invN (fun lb9 ac9 w' => ∃ (l0 l1 l2 l3 l4 l5 l6 l7 l8 l9 : Bool) (s0 s1 s2 s3 s4 s5 s6 s7 s8 : Value), lb9 = #[l0, l1, l2, l3, l4, l5, l6, l7, l8, l9] ∧ ac9 = { tmps := #[.agg #[.slice (some ⟨gb, go, none⟩) gn gc, .slice oa on oc], .int .i64 k, .pointer (some ⟨w.heap.size, 0, none⟩), undef, .pointer (some ⟨w.heap.size + 1, 0, none⟩), .int .i64 k, .pointer (some ⟨w.heap.size, 0, none⟩), .slice (some ⟨gb, go, none⟩) gn gc, .int .i64 gn, .bool true, s0, s1, s2, s3, s4, s5, s6, s7, s8, undef, undef, undef, undef, undef, undef, undef], defers := [] } ∧ RegSuf w0.drew w' w0.drew.heap.size w.heap.size (w.heap.size + 1) (some ⟨gb, go, none⟩) gn gc oa on oc k (.slice asl (gn - k) (gc - k)) xs ys l0 l1 l2 l3 l4 l5 l6 l7 l8 l9 s0 s1 s2 s3 s4 s5 s6 s7 s8) ?done ?step 10 _ _ _ ⟨false, false, false, false, false, false, false, false, false, false, _, _, _, _, _, _, _, _, _, rfl, rfl, ?init⟩ (by decide)
  case init => exact { bel := fun _ => Below.refl _ _, all := fun e => (by cases e), fin := fun e => (by cases e), d0 := fun e => (by cases e), d1 := fun e => (by cases e), d2 := fun e => (by cases e), d3 := fun e => (by cases e), d4 := fun e => (by cases e), d5 := fun e => (by cases e), d6 := fun e => (by cases e), d7 := fun e => (by cases e), d8 := fun e => (by cases e) }
  case step =>
    rintro lb9 ac9 w3 ⟨l0, l1, l2, l3, l4, l5, l6, l7, l8, l9, s0, s1, s2, s3, s4, s5, s6, s7, s8, rfl, rfl, h⟩
    intro q hq
    have hlt9 := ready_ltN hq
    match q, hq, hlt9 with
    | 0, hq, _ =>
      have hr := ready_depN hq rfl
      have hme : l0 = false := hr.1
      have hT : l9 = false := by
        cases hc9 : l9 with
        | false => rfl
        | true => exact absurd (h.all hc9).1 (by rw [hme]; decide)
      have hbel := h.bel hT
      clear hr hq
      refine wpOp_runN rfl rfl (fun K hK => ?_)
      go_simp
      refine hK _ _ ⟨true, l1, l2, l3, l4, l5, l6, l7, l8, l9, _, _, _, _, _, _, _, _, _, rfl, rfl, ?_⟩
      exact { bel := h.bel, all := fun e => (by rw [hT] at e; cases e), fin := fun e => (by rw [hT] at e; cases e), d0 := fun _ => ⟨rfl, trivial⟩, d1 := fun e => absurd (h.d1 e).2 (by rw [hme]; decide), d2 := h.d2, d3 := h.d3, d4 := h.d4, d5 := h.d5, d6 := h.d6, d7 := h.d7, d8 := h.d8 }
    | 1, hq, _ =>
      have hr := ready_depN hq rfl
      have hme : l1 = false := hr.1
      have e0 : l0 = true := hr.2 ⟨0, .data⟩ (by simp) (by kernel_rfl)
      have hT : l9 = false := by
        cases hc9 : l9 with
        | false => rfl
        | true => exact absurd (h.all hc9).2.1 (by rw [hme]; decide)
      have hbel := h.bel hT
      obtain rfl := (h.d0 e0).1
      have x3 := HXP.out w3 hbel
      obtain ⟨c0, c1⟩ := x3.cells
      have ch := x3.heap
      have cl := x3.lt
      clear hr hq
      refine wpOp_runN rfl rfl (fun K hK => ?_)
      go_simp
      refine hK _ _ ⟨l0, true, l2, l3, l4, l5, l6, l7, l8, l9, _, _, _, _, _, _, _, _, _, rfl, rfl, ?_⟩
      exact { bel := h.bel, all := fun e => (by rw [hT] at e; cases e), fin := fun e => (by rw [hT] at e; cases e), d0 := h.d0, d1 := fun _ => ⟨rfl, e0⟩, d2 := h.d2, d3 := fun e => absurd (h.d3 e).2.1 (by rw [hme]; decide), d4 := h.d4, d5 := h.d5, d6 := h.d6, d7 := h.d7, d8 := h.d8 }
    | 2, hq, _ =>
      have hr := ready_depN hq rfl
      have hme : l2 = false := hr.1
      have hT : l9 = false := by
        cases hc9 : l9 with
        | false => rfl
        | true => exact absurd (h.all hc9).2.2.1 (by rw [hme]; decide)
      have hbel := h.bel hT
      clear hr hq
      refine wpOp_runN rfl rfl (fun K hK => ?_)
      go_simp
      refine hK _ _ ⟨l0, l1, true, l3, l4, l5, l6, l7, l8, l9, _, _, _, _, _, _, _, _, _, rfl, rfl, ?_⟩
      exact { bel := h.bel, all := fun e => (by rw [hT] at e; cases e), fin := fun e => (by rw [hT] at e; cases e), d0 := h.d0, d1 := h.d1, d2 := fun _ => ⟨rfl, trivial⟩, d3 := fun e => absurd (h.d3 e).2.2 (by rw [hme]; decide), d4 := h.d4, d5 := h.d5, d6 := h.d6, d7 := h.d7, d8 := h.d8 }
    | 3, hq, _ =>
      have hr := ready_depN hq rfl
      have hme : l3 = false := hr.1
      have e1 : l1 = true := hr.2 ⟨1, .data⟩ (by simp) (by kernel_rfl)
      have e2 : l2 = true := hr.2 ⟨2, .data⟩ (by simp) (by kernel_rfl)
      have hT : l9 = false := by
        cases hc9 : l9 with
        | false => rfl
        | true => exact absurd (h.all hc9).2.2.2.1 (by rw [hme]; decide)
      have hbel := h.bel hT
      obtain rfl := (h.d1 e1).1
      obtain rfl := (h.d2 e2).1
      clear hr hq
      refine wpOp_runN rfl rfl (fun K hK => ?_)
      go_simp
      refine hK _ _ ⟨l0, l1, l2, true, l4, l5, l6, l7, l8, l9, _, _, _, _, _, _, _, _, _, rfl, rfl, ?_⟩
      exact { bel := h.bel, all := fun e => (by rw [hT] at e; cases e), fin := fun e => (by rw [hT] at e; cases e), d0 := h.d0, d1 := h.d1, d2 := h.d2, d3 := fun _ => ⟨rfl, e1, e2⟩, d4 := fun e => absurd (h.d4 e).2 (by rw [hme]; decide), d5 := h.d5, d6 := h.d6, d7 := h.d7, d8 := h.d8 }
    | 4, hq, _ =>
      have hr := ready_depN hq rfl
      have hme : l4 = false := hr.1
      have e3 : l3 = true := hr.2 ⟨3, .data⟩ (by simp) (by kernel_rfl)
      have hT : l9 = false := by
        cases hc9 : l9 with
        | false => rfl
        | true => exact absurd (h.all hc9).2.2.2.2.1 (by rw [hme]; decide)
      have hbel := h.bel hT
      obtain rfl := (h.d3 e3).1
      clear hr hq
      refine wpOp_runN rfl rfl (fun K hK => ?_)
      go_simp
      go_at_call 53
      refine Calls.mono (GO1.out w3 (HBW.out w3 hbel)) ?_
      rintro e w4 ⟨r, rfl, ho, hs4⟩
      have hbel4 := hbel.trans (hs4.mono hbel.size)
      have hnew := rw_of hbel.size (own_of2 ho)
      refine hK _ _ ⟨l0, l1, l2, l3, true, l5, l6, l7, l8, l9, _, _, _, _, _, _, _, _, _, rfl, rfl, ?_⟩
      exact { bel := fun _ => hbel4, all := fun e => (by rw [hT] at e; cases e), fin := fun e => (by rw [hT] at e; cases e), d0 := h.d0, d1 := h.d1, d2 := h.d2, d3 := h.d3, d4 := fun _ => ⟨fun _ => hnew, e3⟩, d5 := h.d5, d6 := h.d6, d7 := fun e => absurd (h.d7 e).2.1 (by rw [hme]; decide), d8 := fun e => absurd (h.d8 e).2.1 (by rw [hme]; decide) }
    | 5, hq, _ =>
      have hr := ready_depN hq rfl
      have hme : l5 = false := hr.1
      have hT : l9 = false := by
        cases hc9 : l9 with
        | false => rfl
        | true => exact absurd (h.all hc9).2.2.2.2.2.1 (by rw [hme]; decide)
      have hbel := h.bel hT
      clear hr hq
      refine wpOp_runN rfl rfl (fun K hK => ?_)
      go_simp
      refine hK _ _ ⟨l0, l1, l2, l3, l4, true, l6, l7, l8, l9, _, _, _, _, _, _, _, _, _, rfl, rfl, ?_⟩
      exact { bel := h.bel, all := fun e => (by rw [hT] at e; cases e), fin := fun e => (by rw [hT] at e; cases e), d0 := h.d0, d1 := h.d1, d2 := h.d2, d3 := h.d3, d4 := h.d4, d5 := fun _ => ⟨rfl, trivial⟩, d6 := fun e => absurd (h.d6 e).2 (by rw [hme]; decide), d7 := h.d7, d8 := h.d8 }
    | 6, hq, _ =>
      have hr := ready_depN hq rfl
      have hme : l6 = false := hr.1
      have e5 : l5 = true := hr.2 ⟨5, .data⟩ (by simp) (by kernel_rfl)
      have hT : l9 = false := by
        cases hc9 : l9 with
        | false => rfl
        | true => exact absurd (h.all hc9).2.2.2.2.2.2.1 (by rw [hme]; decide)
      have hbel := h.bel hT
      obtain rfl := (h.d5 e5).1
      have x3 := HXP.out w3 hbel
      obtain ⟨c0, c1⟩ := x3.cells
      have ch := x3.heap
      have cl := x3.lt
      clear hr hq
      refine wpOp_runN rfl rfl (fun K hK => ?_)
      go_simp
      refine hK _ _ ⟨l0, l1, l2, l3, l4, l5, true, l7, l8, l9, _, _, _, _, _, _, _, _, _, rfl, rfl, ?_⟩
      exact { bel := h.bel, all := fun e => (by rw [hT] at e; cases e), fin := fun e => (by rw [hT] at e; cases e), d0 := h.d0, d1 := h.d1, d2 := h.d2, d3 := h.d3, d4 := h.d4, d5 := h.d5, d6 := fun _ => ⟨rfl, e5⟩, d7 := fun e => absurd (h.d7 e).2.2 (by rw [hme]; decide), d8 := h.d8 }
    | 7, hq, _ =>
      have hr := ready_depN hq rfl
      have hme : l7 = false := hr.1
      have e4 : l4 = true := hr.2 ⟨4, .chain⟩ (by simp) (by kernel_rfl)
      have e6 : l6 = true := hr.2 ⟨6, .data⟩ (by simp) (by kernel_rfl)
      have hT : l9 = false := by
        cases hc9 : l9 with
        | false => rfl
        | true => exact absurd (h.all hc9).2.2.2.2.2.2.2.1 (by rw [hme]; decide)
      have hbel := h.bel hT
      obtain rfl := (h.d6 e6).1
      clear hr hq
      refine wpOp_runN rfl rfl (fun K hK => ?_)
      go_simp
      go_at_call 53
      refine Calls.mono (GO2.out w3 (HBW.out w3 hbel)) ?_
      rintro e w4 ⟨r, rfl, ho, hs4⟩
      have hbel4 := hbel.trans (hs4.mono hbel.size)
      have hnew := rw2_of hbel.size ((h.d4 e4).1 hT) (own_of2 ho)
      refine hK _ _ ⟨l0, l1, l2, l3, l4, l5, l6, true, l8, l9, _, _, _, _, _, _, _, _, _, rfl, rfl, ?_⟩
      exact { bel := fun _ => hbel4, all := fun e => (by rw [hT] at e; cases e), fin := fun e => (by rw [hT] at e; cases e), d0 := h.d0, d1 := h.d1, d2 := h.d2, d3 := h.d3, d4 := fun e => ⟨fun hx => ((h.d4 e).1 hx).below hs4, (h.d4 e).2⟩, d5 := h.d5, d6 := h.d6, d7 := fun _ => ⟨fun _ => hnew, e4, e6⟩, d8 := fun e => absurd (h.d8 e).2.2 (by rw [hme]; decide) }
    | 8, hq, _ =>
      have hr := ready_depN hq rfl
      have hme : l8 = false := hr.1
      have e4 : l4 = true := hr.2 ⟨4, .data⟩ (by simp) (by kernel_rfl)
      have e7 : l7 = true := hr.2 ⟨7, .data⟩ (by simp) (by kernel_rfl)
      have hT : l9 = false := by
        cases hc9 : l9 with
        | false => rfl
        | true => exact absurd (h.all hc9).2.2.2.2.2.2.2.2 (by rw [hme]; decide)
      have hbel := h.bel hT
      obtain ⟨u3a, u3n, u3c, rfl⟩ := ((h.d4 e4).1 hT).shape
      obtain ⟨u9a, u9n, u9c, rfl⟩ := ((h.d7 e7).1 hT).shape
      clear hr hq
      refine wpOp_runN rfl rfl (fun K hK => ?_)
      go_simp
      refine hK _ _ ⟨l0, l1, l2, l3, l4, l5, l6, l7, true, l9, _, _, _, _, _, _, _, _, _, rfl, rfl, ?_⟩
      exact { bel := h.bel, all := fun e => (by rw [hT] at e; cases e), fin := fun e => (by rw [hT] at e; cases e), d0 := h.d0, d1 := h.d1, d2 := h.d2, d3 := h.d3, d4 := h.d4, d5 := h.d5, d6 := h.d6, d7 := h.d7, d8 := fun _ => ⟨rfl, e4, e7⟩ }
    | 9, hq, _ =>
      have hr := ready_depN hq rfl
      have hme : l9 = false := hr.1
      have e0 : l0 = true := hr.2 ⟨0, .phase⟩ (by simp) (by kernel_rfl)
      have e1 : l1 = true := hr.2 ⟨1, .phase⟩ (by simp) (by kernel_rfl)
      have e2 : l2 = true := hr.2 ⟨2, .phase⟩ (by simp) (by kernel_rfl)
      have e3 : l3 = true := hr.2 ⟨3, .phase⟩ (by simp) (by kernel_rfl)
      have e4 : l4 = true := hr.2 ⟨4, .phase⟩ (by simp) (by kernel_rfl)
      have e5 : l5 = true := hr.2 ⟨5, .phase⟩ (by simp) (by kernel_rfl)
      have e6 : l6 = true := hr.2 ⟨6, .phase⟩ (by simp) (by kernel_rfl)
      have e7 : l7 = true := hr.2 ⟨7, .chain⟩ (by simp) (by kernel_rfl)
      have e8 : l8 = true := hr.2 ⟨8, .data⟩ (by simp) (by kernel_rfl)
      have hbel := h.bel hme
      obtain rfl := (h.d0 e0).1
      obtain rfl := (h.d1 e1).1
      obtain rfl := (h.d2 e2).1
      obtain rfl := (h.d3 e3).1
      obtain rfl := (h.d5 e5).1
      obtain rfl := (h.d6 e6).1
      obtain rfl := (h.d8 e8).1
      have y3 := HYP.out w3 hbel
      obtain ⟨k0, k1⟩ := y3.cells
      have kh := y3.heap
      have kl := y3.lt
      have kf0 := y3.frozen 0
      have kf1 := y3.frozen 1
      clear hr hq
      have hF4 := (h.d4 e4).1 hme
      have hF7 := (h.d7 e7).1 hme
      refine wpOp_runN rfl rfl (fun K hK => ?_)
      obtain ⟨u3a, u3n, u3c, rfl⟩ := hF4.shape
      obtain ⟨u9a, u9n, u9c, rfl⟩ := hF7.shape
      go_simp
      refine hK _ _ ⟨l0, l1, l2, l3, l4, l5, l6, l7, l8, true, _, _, _, _, _, _, _, _, _, rfl, rfl, ?_⟩
      exact { bel := fun e => (by cases e), all := fun _ => ⟨e0, e1, e2, e3, e4, e5, e6, e7, e8⟩, fin := fun _ => ⟨w3, hbel, rfl, hF4, hF7⟩, d0 := h.d0, d1 := h.d1, d2 := h.d2, d3 := h.d3, d4 := fun e => ⟨fun e9 => (by cases e9), (h.d4 e).2⟩, d5 := h.d5, d6 := h.d6, d7 := fun e => ⟨fun e9 => (by cases e9), (h.d7 e).2⟩, d8 := h.d8 }
    | k + 10, hq, h18 => exact (Nat.not_lt_of_le (Nat.le_add_left 10 k) h18).elim
  case done =>
    rintro lb9 ac9 w3 ⟨l0, l1, l2, l3, l4, l5, l6, l7, l8, l9, s0, s1, s2, s3, s4, s5, s6, s7, s8, rfl, rfl, h⟩ hr
    cases l0
    · exact (ready_none2N hr 0 rfl rfl rfl).elim
    cases l1
    · exact (ready_none2N hr 1 rfl rfl rfl).elim
    cases l2
    · exact (ready_none2N hr 2 rfl rfl rfl).elim
    cases l3
    · exact (ready_none2N hr 3 rfl rfl rfl).elim
    cases l4
    · exact (ready_none2N hr 4 rfl rfl rfl).elim
    cases l5
    · exact (ready_none2N hr 5 rfl rfl rfl).elim
    cases l6
    · exact (ready_none2N hr 6 rfl rfl rfl).elim
    cases l7
    · exact (ready_none2N hr 7 rfl rfl rfl).elim
    cases l8
    · exact (ready_none2N hr 8 rfl rfl rfl).elim
    cases l9
    · exact (ready_none2N hr 9 rfl rfl rfl).elim
    obtain rfl := (h.d0 rfl).1
    obtain rfl := (h.d1 rfl).1
    obtain rfl := (h.d2 rfl).1
    obtain rfl := (h.d3 rfl).1
    obtain rfl := (h.d5 rfl).1
    obtain rfl := (h.d6 rfl).1
    obtain rfl := (h.d8 rfl).1
    obtain ⟨w4, hbel, rfl, hF4, hF7⟩ := h.fin rfl
    clear h hr
    obtain ⟨u3a, u3n, u3c, rfl⟩ := hF4.shape
    obtain ⟨u9a, u9n, u9c, rfl⟩ := hF7.shape
    have y4 := ((HYP.out w4 hbel).set0 (.slice u3a u3n u3c)).set1 (.slice u9a u9n u9c)
    have hsz4 := hbel.size
    change w0.heap.size ≤ w4.heap.size at hsz4
    have hO := ((ownLa_rw hF4 hF7).setO (b := w.heap.size + 1) (o := 0) (x := .slice u3a u3n u3c) (Or.inl (by show _ < w0.heap.size; omega))).setO (b := w.heap.size + 1) (o := 1) (x := .slice u9a u9n u9c) (Or.inl (by show _ < w0.heap.size; omega))
    have HOL : Hid (OwnLa ((w4.setCell ⟨w.heap.size + 1, 0, none⟩ (.slice u3a u3n u3c)).setCell ⟨w.heap.size + 1, 1, none⟩ (.slice u9a u9n u9c)) w.heap.size ((w4.setCell ⟨w.heap.size + 1, 0, none⟩ (.slice u3a u3n u3c)).setCell ⟨w.heap.size + 1, 1, none⟩ (.slice u9a u9n u9c)).heap.size (.agg #[.slice u3a u3n u3c, .slice u9a u9n u9c]) (xs, ys)) := hO.weak (by show w.heap.size ≤ w0.heap.size; omega) (by rw [size_set, size_set]; exact Nat.le_refl _) (Nat.le_refl _)
    have HBE : Hid (Below w.heap.size w ((w4.setCell ⟨w.heap.size + 1, 0, none⟩ (.slice u3a u3n u3c)).setCell ⟨w.heap.size + 1, 1, none⟩ (.slice u9a u9n u9c))) := ((HBW.out w4 hbel).setCell (by show w.heap.size ≤ w.heap.size + 1; omega) _).setCell (by show w.heap.size ≤ w.heap.size + 1; omega) _
    have hyh := y4.heap
    clear hO hF4 hF7
    go_wp2_with fail
    refine bodyPost_ret (results_cell_row rfl _ _ (w.heap.size + 1) 26 _ (0, 0) _ rfl hyh Try.underlying26 rfl (by kernel_rfl)) rfl ?_
    exact ⟨_, rfl, HOL.out, HBE.out⟩
set_option maxRecDepth 100000 in
set_option maxHeartbeats 8000000 in
theorem suf_none (oa : Option Addr) (on oc k : Nat) (hk : k = 0) (xs ys : List Int) (w : World)
    (GO1 : Hid (∀ w1 : World, Below w.heap.size w w1 → Calls Try.prog 53 #[.slice none 0 0] w1 fun e w' => ∃ r, e = .returned r ∧ OwnInts2 w' w1.heap.size r xs ∧ Below w1.heap.size w1 w'))
    (GO2 : Hid (∀ w1 : World, Below w.heap.size w w1 → Calls Try.prog 53 #[.slice oa on oc] w1 fun e w' => ∃ r, e = .returned r ∧ OwnInts2 w' w1.heap.size r ys ∧ Below w1.heap.size w1 w')) :
    Calls Try.prog 59 #[.agg #[.slice none 0 0, .slice oa on oc], .int .i64 k] w fun e w' => ∃ u, e = .returned u ∧ OwnLa w' w.heap.size w'.heap.size u (xs, ys) ∧ Below w.heap.size w w' := by
  subst hk
  obtain ⟨w0, hw0⟩ : ∃ w0, (w.alloc (.cells #[.slice none 0 0, .slice oa on oc] 26)).alloc (.cells #[.slice none 0 0, .slice none 0 0] 26) = w0 := ⟨_, rfl⟩
  have HB0 : Hid (Below w.heap.size w w0) := by
    show Below _ _ _
    rw [← hw0]
    exact ((Below.refl _ _).alloc (Nat.le_refl _) _).alloc (by rw [World.size_alloc]; omega) _
  have x0 := (box2_alloc w 26 (.slice none 0 0) (.slice oa on oc)).alloc (.cells #[.slice none 0 0, .slice none 0 0] 26)
  have y0 := box2_alloc (w.alloc (.cells #[.slice none 0 0, .slice oa on oc] 26)) 26 (.slice none 0 0) (.slice none 0 0)
  simp only [World.size_alloc] at y0
  have hz0 : w0.heap.size = w.heap.size + 2 := by rw [← hw0, World.size_alloc, World.size_alloc]
  rw [hw0] at x0 y0
  have HXP : Hid (∀ w3, Below w0.drew.heap.size w0.drew w3 → Box2 w3 w.heap.size 26 (.slice none 0 0) (.slice oa on oc)) := fun w3 hb3 => Box2.below (w := w0.drew) ⟨x0.heap⟩ hb3 (by show _ < w0.heap.size; omega)
  have HYP : Hid (∀ w3, Below w0.drew.heap.size w0.drew w3 → Box2 w3 (w.heap.size + 1) 26 (.slice none 0 0) (.slice none 0 0)) := fun w3 hb3 => Box2.below (w := w0.drew) ⟨y0.heap⟩ hb3 (by show _ < w0.heap.size; omega)
  have HBW : Hid (∀ w3, Below w0.drew.heap.size w0.drew w3 → Below w.heap.size w w3) := fun w3 hb3 => HB0.out.drew.trans (hb3.mono (by show w.heap.size ≤ w0.heap.size; omega))
  have HW0 : Hid _ := hw0
  obtain ⟨a0, a1⟩ := x0.cells
  have ah := x0.heap
  have al := x0.lt
  rw [← hw0] at a0 a1 ah al
  clear x0 y0 hw0
  go_enter Try.func59, Try.ntmps59
  go_wp2_with fail
  rw [HW0.out]
  refine wp_region_any (by kernel_rfl) ?_
  change wpAny _ _ _ _ _ _ _ (World.drew _)
  refine wpAny_invN (fun lb9 ac9 w' => ∃ (l0 l1 l2 l3 l4 l5 l6 l7 l8 l9 : Bool) (s0 s1 s2 s3 s4 s5 s6 s7 s8 : Value), lb9 = #[l0, l1, l2, l3, l4, l5, l6, l7, l8, l9] ∧ ac9 = { tmps := #[.agg #[.slice none 0 0, .slice oa on oc], .int .i64 0, .pointer (some ⟨w.heap.size, 0, none⟩), undef, .pointer (some ⟨w.heap.size + 1, 0, none⟩), .int .i64 0, .pointer (some ⟨w.heap.size, 0, none⟩), .slice none 0 0, .int .i64 0, .bool true, s0, s1, s2, s3, s4, s5, s6, s7, s8, undef, undef, undef, undef, undef, undef, undef], defers := [] } ∧ RegSuf w0.drew w' w0.drew.heap.size w.heap.size (w.heap.size + 1) none 0 0 oa on oc 0 (.slice none 0 0) xs ys l0 l1 l2 l3 l4 l5 l6 l7 l8 l9 s0 s1 s2 s3 s4 s5 s6 s7 s8) ?done ?step 10 _ _ _ ⟨false, false, false, false, false, false, false, false, false, false, _, _, _, _, _, _, _, _, _, rfl, rfl, ?init⟩ (by decide)
  case init => exact { bel := fun _ => Below.refl _ _, all := fun e => (by cases e), fin := fun e => (by cases e), d0 := fun e => (by cases e), d1 := fun e => (by cases e), d2 := fun e => (by cases e), d3 := fun e => (by cases e), d4 := fun e => (by cases e), d5 := fun e => (by cases e), d6 := fun e => (by cases e), d7 := fun e => (by cases e), d8 := fun e => (by cases e) }
  case step =>
    rintro lb9 ac9 w3 ⟨l0, l1, l2, l3, l4, l5, l6, l7, l8, l9, s0, s1, s2, s3, s4, s5, s6, s7, s8, rfl, rfl, h⟩
    intro q hq
    have hlt9 := ready_ltN hq
    match q, hq, hlt9 with
    | 0, hq, _ =>
      have hr := ready_depN hq rfl
      have hme : l0 = false := hr.1
      have hT : l9 = false := by
        cases hc9 : l9 with
        | false => rfl
        | true => exact absurd (h.all hc9).1 (by rw [hme]; decide)
      have hbel := h.bel hT
      clear hr hq
      refine wpOp_runN rfl rfl (fun K hK => ?_)
      go_simp
      refine hK _ _ ⟨true, l1, l2, l3, l4, l5, l6, l7, l8, l9, _, _, _, _, _, _, _, _, _, rfl, rfl, ?_⟩
      exact { bel := h.bel, all := fun e => (by rw [hT] at e; cases e), fin := fun e => (by rw [hT] at e; cases e), d0 := fun _ => ⟨rfl, trivial⟩, d1 := fun e => absurd (h.d1 e).2 (by rw [hme]; decide), d2 := h.d2, d3 := h.d3, d4 := h.d4, d5 := h.d5, d6 := h.d6, d7 := h.d7, d8 := h.d8 }
    | 1, hq, _ =>
      have hr := ready_depN hq rfl
      have hme : l1 = false := hr.1
      have e0 : l0 = true := hr.2 ⟨0, .data⟩ (by simp) (by kernel_rfl)
      have hT : l9 = false := by
        cases hc9 : l9 with
        | false => rfl
        | true => exact absurd (h.all hc9).2.1 (by rw [hme]; decide)
      have hbel := h.bel hT
      obtain rfl := (h.d0 e0).1
      have x3 := HXP.out w3 hbel
      obtain ⟨c0, c1⟩ := x3.cells
      have ch := x3.heap
      have cl := x3.lt
      clear hr hq
      refine wpOp_runN rfl rfl (fun K hK => ?_)
      go_simp
      refine hK _ _ ⟨l0, true, l2, l3, l4, l5, l6, l7, l8, l9, _, _, _, _, _, _, _, _, _, rfl, rfl, ?_⟩
      exact { bel := h.bel, all := fun e => (by rw [hT] at e; cases e), fin := fun e => (by rw [hT] at e; cases e), d0 := h.d0, d1 := fun _ => ⟨rfl, e0⟩, d2 := h.d2, d3 := fun e => absurd (h.d3 e).2.1 (by rw [hme]; decide), d4 := h.d4, d5 := h.d5, d6 := h.d6, d7 := h.d7, d8 := h.d8 }
    | 2, hq, _ =>
      have hr := ready_depN hq rfl
      have hme : l2 = false := hr.1
      have hT : l9 = false := by
        cases hc9 : l9 with
        | false => rfl
        | true => exact absurd (h.all hc9).2.2.1 (by rw [hme]; decide)
      have hbel := h.bel hT
      clear hr hq
      refine wpOp_runN rfl rfl (fun K hK => ?_)
      go_simp
      refine hK _ _ ⟨l0, l1, true, l3, l4, l5, l6, l7, l8, l9, _, _, _, _, _, _, _, _, _, rfl, rfl, ?_⟩
      exact { bel := h.bel, all := fun e => (by rw [hT] at e; cases e), fin := fun e => (by rw [hT] at e; cases e), d0 := h.d0, d1 := h.d1, d2 := fun _ => ⟨rfl, trivial⟩, d3 := fun e => absurd (h.d3 e).2.2 (by rw [hme]; decide), d4 := h.d4, d5 := h.d5, d6 := h.d6, d7 := h.d7, d8 := h.d8 }
    | 3, hq, _ =>
      have hr := ready_depN hq rfl
      have hme : l3 = false := hr.1
      have e1 : l1 = true := hr.2 ⟨1, .data⟩ (by simp) (by kernel_rfl)
      have e2 : l2 = true := hr.2 ⟨2, .data⟩ (by simp) (by kernel_rfl)
      have hT : l9 = false := by
        cases hc9 : l9 with
        | false => rfl
        | true => exact absurd (h.all hc9).2.2.2.1 (by rw [hme]; decide)
      have hbel := h.bel hT
      obtain rfl := (h.d1 e1).1
      obtain rfl := (h.d2 e2).1
      clear hr hq
      refine wpOp_runN rfl rfl (fun K hK => ?_)
      go_simp
      refine hK _ _ ⟨l0, l1, l2, true, l4, l5, l6, l7, l8, l9, _, _, _, _, _, _, _, _, _, rfl, rfl, ?_⟩
      exact { bel := h.bel, all := fun e => (by rw [hT] at e; cases e), fin := fun e => (by rw [hT] at e; cases e), d0 := h.d0, d1 := h.d1, d2 := h.d2, d3 := fun _ => ⟨rfl, e1, e2⟩, d4 := fun e => absurd (h.d4 e).2 (by rw [hme]; decide), d5 := h.d5, d6 := h.d6, d7 := h.d7, d8 := h.d8 }
    | 4, hq, _ =>
      have hr := ready_depN hq rfl
      have hme : l4 = false := hr.1
      have e3 : l3 = true := hr.2 ⟨3, .data⟩ (by simp) (by kernel_rfl)
      have hT : l9 = false := by
        cases hc9 : l9 with
        | false => rfl
        | true => exact absurd (h.all hc9).2.2.2.2.1 (by rw [hme]; decide)
      have hbel := h.bel hT
      obtain rfl := (h.d3 e3).1
      clear hr hq
      refine wpOp_runN rfl rfl (fun K hK => ?_)
      go_simp
      go_at_call 53
      refine Calls.mono (GO1.out w3 (HBW.out w3 hbel)) ?_
      rintro e w4 ⟨r, rfl, ho, hs4⟩
      have hbel4 := hbel.trans (hs4.mono hbel.size)
      have hnew := rw_of hbel.size (own_of2 ho)
      refine hK _ _ ⟨l0, l1, l2, l3, true, l5, l6, l7, l8, l9, _, _, _, _, _, _, _, _, _, rfl, rfl, ?_⟩
      exact { bel := fun _ => hbel4, all := fun e => (by rw [hT] at e; cases e), fin := fun e => (by rw [hT] at e; cases e), d0 := h.d0, d1 := h.d1, d2 := h.d2, d3 := h.d3, d4 := fun _ => ⟨fun _ => hnew, e3⟩, d5 := h.d5, d6 := h.d6, d7 := fun e => absurd (h.d7 e).2.1 (by rw [hme]; decide), d8 := fun e => absurd (h.d8 e).2.1 (by rw [hme]; decide) }
    | 5, hq, _ =>
      have hr := ready_depN hq rfl
      have hme : l5 = false := hr.1
      have hT : l9 = false := by
        cases hc9 : l9 with
        | false => rfl
        | true => exact absurd (h.all hc9).2.2.2.2.2.1 (by rw [hme]; decide)
      have hbel := h.bel hT
      clear hr hq
      refine wpOp_runN rfl rfl (fun K hK => ?_)
      go_simp
      refine hK _ _ ⟨l0, l1, l2, l3, l4, true, l6, l7, l8, l9, _, _, _, _, _, _, _, _, _, rfl, rfl, ?_⟩
      exact { bel := h.bel, all := fun e => (by rw [hT] at e; cases e), fin := fun e => (by rw [hT] at e; cases e), d0 := h.d0, d1 := h.d1, d2 := h.d2, d3 := h.d3, d4 := h.d4, d5 := fun _ => ⟨rfl, trivial⟩, d6 := fun e => absurd (h.d6 e).2 (by rw [hme]; decide), d7 := h.d7, d8 := h.d8 }
    | 6, hq, _ =>
      have hr := ready_depN hq rfl
      have hme : l6 = false := hr.1
      have e5 : l5 = true := hr.2 ⟨5, .data⟩ (by simp) (by kernel_rfl)
      have hT : l9 = false := by
        cases hc9 : l9 with
        | false => rfl
        | true => exact absurd (h.all hc9).2.2.2.2.2.2.1 (by rw [hme]; decide)
      have hbel := h.bel hT
      obtain rfl := (h.d5 e5).1
      have x3 := HXP.out w3 hbel
      obtain ⟨c0, c1⟩ := x3.cells
      have ch := x3.heap
      have cl := x3.lt
      clear hr hq
      refine wpOp_runN rfl rfl (fun K hK => ?_)
      go_simp
      refine hK _ _ ⟨l0, l1, l2, l3, l4, l5, true, l7, l8, l9, _, _, _, _, _, _, _, _, _, rfl, rfl, ?_⟩
      exact { bel := h.bel, all := fun e => (by rw [hT] at e; cases e), fin := fun e => (by rw [hT] at e; cases e), d0 := h.d0, d1 := h.d1, d2 := h.d2, d3 := h.d3, d4 := h.d4, d5 := h.d5, d6 := fun _ => ⟨rfl, e5⟩, d7 := fun e => absurd (h.d7 e).2.2 (by rw [hme]; decide), d8 := h.d8 }
    | 7, hq, _ =>
      have hr := ready_depN hq rfl
      have hme : l7 = false := hr.1
      have e4 : l4 = true := hr.2 ⟨4, .chain⟩ (by simp) (by kernel_rfl)
      have e6 : l6 = true := hr.2 ⟨6, .data⟩ (by simp) (by kernel_rfl)
      have hT : l9 = false := by
        cases hc9 : l9 with
        | false => rfl
        | true => exact absurd (h.all hc9).2.2.2.2.2.2.2.1 (by rw [hme]; decide)
      have hbel := h.bel hT
      obtain rfl := (h.d6 e6).1
      clear hr hq
      refine wpOp_runN rfl rfl (fun K hK => ?_)
      go_simp
      go_at_call 53
      refine Calls.mono (GO2.out w3 (HBW.out w3 hbel)) ?_
      rintro e w4 ⟨r, rfl, ho, hs4⟩
      have hbel4 := hbel.trans (hs4.mono hbel.size)
      have hnew := rw2_of hbel.size ((h.d4 e4).1 hT) (own_of2 ho)
      refine hK _ _ ⟨l0, l1, l2, l3, l4, l5, l6, true, l8, l9, _, _, _, _, _, _, _, _, _, rfl, rfl, ?_⟩
      exact { bel := fun _ => hbel4, all := fun e => (by rw [hT] at e; cases e), fin := fun e => (by rw [hT] at e; cases e), d0 := h.d0, d1 := h.d1, d2 := h.d2, d3 := h.d3, d4 := fun e => ⟨fun hx => ((h.d4 e).1 hx).below hs4, (h.d4 e).2⟩, d5 := h.d5, d6 := h.d6, d7 := fun _ => ⟨fun _ => hnew, e4, e6⟩, d8 := fun e => absurd (h.d8 e).2.2 (by rw [hme]; decide) }
    | 8, hq, _ =>
      have hr := ready_depN hq rfl
      have hme : l8 = false := hr.1
      have e4 : l4 = true := hr.2 ⟨4, .data⟩ (by simp) (by kernel_rfl)
      have e7 : l7 = true := hr.2 ⟨7, .data⟩ (by simp) (by kernel_rfl)
      have hT : l9 = false := by
        cases hc9 : l9 with
        | false => rfl
        | true => exact absurd (h.all hc9).2.2.2.2.2.2.2.2 (by rw [hme]; decide)
      have hbel := h.bel hT
      obtain ⟨u3a, u3n, u3c, rfl⟩ := ((h.d4 e4).1 hT).shape
      obtain ⟨u9a, u9n, u9c, rfl⟩ := ((h.d7 e7).1 hT).shape
      clear hr hq
      refine wpOp_runN rfl rfl (fun K hK => ?_)
      go_simp
      refine hK _ _ ⟨l0, l1, l2, l3, l4, l5, l6, l7, true, l9, _, _, _, _, _, _, _, _, _, rfl, rfl, ?_⟩
      exact { bel := h.bel, all := fun e => (by rw [hT] at e; cases e), fin := fun e => (by rw [hT] at e; cases e), d0 := h.d0, d1 := h.d1, d2 := h.d2, d3 := h.d3, d4 := h.d4, d5 := h.d5, d6 := h.d6, d7 := h.d7, d8 := fun _ => ⟨rfl, e4, e7⟩ }
    | 9, hq, _ =>
      have hr := ready_depN hq rfl
      have hme : l9 = false := hr.1
      have e0 : l0 = true := hr.2 ⟨0, .phase⟩ (by simp) (by kernel_rfl)
      have e1 : l1 = true := hr.2 ⟨1, .phase⟩ (by simp) (by kernel_rfl)
      have e2 : l2 = true := hr.2 ⟨2, .phase⟩ (by simp) (by kernel_rfl)
      have e3 : l3 = true := hr.2 ⟨3, .phase⟩ (by simp) (by kernel_rfl)
      have e4 : l4 = true := hr.2 ⟨4, .phase⟩ (by simp) (by kernel_rfl)
      have e5 : l5 = true := hr.2 ⟨5, .phase⟩ (by simp) (by kernel_rfl)
      have e6 : l6 = true := hr.2 ⟨6, .phase⟩ (by simp) (by kernel_rfl)
      have e7 : l7 = true := hr.2 ⟨7, .chain⟩ (by simp) (by kernel_rfl)
      have e8 : l8 = true := hr.2 ⟨8, .data⟩ (by simp) (by kernel_rfl)
      have hbel := h.bel hme
      obtain rfl := (h.d0 e0).1
      obtain rfl := (h.d1 e1).1
      obtain rfl := (h.d2 e2).1
      obtain rfl := (h.d3 e3).1
      obtain rfl := (h.d5 e5).1
      obtain rfl := (h.d6 e6).1
      obtain rfl := (h.d8 e8).1
      have y3 := HYP.out w3 hbel
      obtain ⟨k0, k1⟩ := y3.cells
      have kh := y3.heap
      have kl := y3.lt
      have kf0 := y3.frozen 0
      have kf1 := y3.frozen 1
      clear hr hq
      have hF4 := (h.d4 e4).1 hme
      have hF7 := (h.d7 e7).1 hme
      refine wpOp_runN rfl rfl (fun K hK => ?_)
      obtain ⟨u3a, u3n, u3c, rfl⟩ := hF4.shape
      obtain ⟨u9a, u9n, u9c, rfl⟩ := hF7.shape
      go_simp
      refine hK _ _ ⟨l0, l1, l2, l3, l4, l5, l6, l7, l8, true, _, _, _, _, _, _, _, _, _, rfl, rfl, ?_⟩
      exact { bel := fun e => (by cases e), all := fun _ => ⟨e0, e1, e2, e3, e4, e5, e6, e7, e8⟩, fin := fun _ => ⟨w3, hbel, rfl, hF4, hF7⟩, d0 := h.d0, d1 := h.d1, d2 := h.d2, d3 := h.d3, d4 := fun e => ⟨fun e9 => (by cases e9), (h.d4 e).2⟩, d5 := h.d5, d6 := h.d6, d7 := fun e => ⟨fun e9 => (by cases e9), (h.d7 e).2⟩, d8 := h.d8 }
    | k + 10, hq, h18 => exact (Nat.not_lt_of_le (Nat.le_add_left 10 k) h18).elim
  case done =>
    rintro lb9 ac9 w3 ⟨l0, l1, l2, l3, l4, l5, l6, l7, l8, l9, s0, s1, s2, s3, s4, s5, s6, s7, s8, rfl, rfl, h⟩ hr
    cases l0
    · exact (ready_none2N hr 0 rfl rfl rfl).elim
    cases l1
    · exact (ready_none2N hr 1 rfl rfl rfl).elim
    cases l2
    · exact (ready_none2N hr 2 rfl rfl rfl).elim
    cases l3
    · exact (ready_none2N hr 3 rfl rfl rfl).elim
    cases l4
    · exact (ready_none2N hr 4 rfl rfl rfl).elim
    cases l5
    · exact (ready_none2N hr 5 rfl rfl rfl).elim
    cases l6
    · exact (ready_none2N hr 6 rfl rfl rfl).elim
    cases l7
    · exact (ready_none2N hr 7 rfl rfl rfl).elim
    cases l8
    · exact (ready_none2N hr 8 rfl rfl rfl).elim
    cases l9
    · exact (ready_none2N hr 9 rfl rfl rfl).elim
    obtain rfl := (h.d0 rfl).1
    obtain rfl := (h.d1 rfl).1
    obtain rfl := (h.d2 rfl).1
    obtain rfl := (h.d3 rfl).1
    obtain rfl := (h.d5 rfl).1
    obtain rfl := (h.d6 rfl).1
    obtain rfl := (h.d8 rfl).1
    obtain ⟨w4, hbel, rfl, hF4, hF7⟩ := h.fin rfl
    clear h hr
    obtain ⟨u3a, u3n, u3c, rfl⟩ := hF4.shape
    obtain ⟨u9a, u9n, u9c, rfl⟩ := hF7.shape
    have y4 := ((HYP.out w4 hbel).set0 (.slice u3a u3n u3c)).set1 (.slice u9a u9n u9c)
    have hsz4 := hbel.size
    change w0.heap.size ≤ w4.heap.size at hsz4
    have hO := ((ownLa_rw hF4 hF7).setO (b := w.heap.size + 1) (o := 0) (x := .slice u3a u3n u3c) (Or.inl (by show _ < w0.heap.size; omega))).setO (b := w.heap.size + 1) (o := 1) (x := .slice u9a u9n u9c) (Or.inl (by show _ < w0.heap.size; omega))
    have HOL : Hid (OwnLa ((w4.setCell ⟨w.heap.size + 1, 0, none⟩ (.slice u3a u3n u3c)).setCell ⟨w.heap.size + 1, 1, none⟩ (.slice u9a u9n u9c)) w.heap.size ((w4.setCell ⟨w.heap.size + 1, 0, none⟩ (.slice u3a u3n u3c)).setCell ⟨w.heap.size + 1, 1, none⟩ (.slice u9a u9n u9c)).heap.size (.agg #[.slice u3a u3n u3c, .slice u9a u9n u9c]) (xs, ys)) := hO.weak (by show w.heap.size ≤ w0.heap.size; omega) (by rw [size_set, size_set]; exact Nat.le_refl _) (Nat.le_refl _)
    have HBE : Hid (Below w.heap.size w ((w4.setCell ⟨w.heap.size + 1, 0, none⟩ (.slice u3a u3n u3c)).setCell ⟨w.heap.size + 1, 1, none⟩ (.slice u9a u9n u9c))) := ((HBW.out w4 hbel).setCell (by show w.heap.size ≤ w.heap.size + 1; omega) _).setCell (by show w.heap.size ≤ w.heap.size + 1; omega) _
    have hyh := y4.heap
    clear hO hF4 hF7
    go_wp2_with fail
    refine bodyPost_ret (results_cell_row rfl _ _ (w.heap.size + 1) 26 _ (0, 0) _ rfl hyh Try.underlying26 rfl (by kernel_rfl)) rfl ?_
    exact ⟨_, rfl, HOL.out, HBE.out⟩
end Go.Proofs.Ythamdefkcjfjpaa

namespace Go.Proofs.Ythamdefkcjfjpaa
open Go Go.RowKit
open M
set_option linter.unusedVariables false
set_option linter.unusedSimpArgs false

def letR (l : La) (k : Int) : Int := if atB l k = true then letL l k.toNat else 0
def unrR (l : La) (k : Int) : List Int := if atB l k = true then unrL l 0 k.toNat else []
def sufR (l : La) (k : Int) : La := if atB l k = true then sufL l k.toNat else ([], [])
theorem at_parts {l : La} {k : Int} (h : atB l k = true) : goodLa l = true ∧ ∃ n : Nat, k = n ∧ n ≤ 1000 := by
  unfold atB at h
  rw [Bool.and_eq_true, decide_eq_true_eq] at h
  exact ⟨h.1, k.toNat, by omega, by omega⟩
set_option maxRecDepth 100000 in
theorem iLetterAt_any (v : Value) (l : La) (k : Int) (w : World) (h : AtLa w v l) :
    Calls Try.prog 30 #[v, .int .i64 k] w fun e w' => e = .returned (.tuple #[.int .i64 (letR l k), .bool (atB l k)]) ∧ Below w.heap.size w w' := by
  have HG : Hid (∀ w1 : World, Below w.heap.size w w1 → Calls Try.prog 58 #[v, .int .i64 k] w1 fun e w' => e = .returned (.bool (atB l k)) ∧ Below w1.heap.size w1 w') := fun w1 hb => goodAt_any v l k w1 (h.below hb)
  have HLT : Hid (atB l k = true → ∀ w1 : World, Below w.heap.size w w1 → Calls Try.prog 63 #[v, .int .i64 k] w1 fun e w' => e = .returned (.int .i64 (letR l k)) ∧ Below w1.heap.size w1 w') := fun hat w1 hb => by
    obtain ⟨hg, n, rfl, hn⟩ := at_parts hat
    unfold letR
    rw [if_pos hat, Int.toNat_natCast]
    exact letter_any v l hg n (by omega) w1 (h.below hb)
  have HN : Hid (atB l k = false → letR l k = 0) := fun e => by
    unfold letR
    rw [if_neg (by rw [e]; decide)]
  obtain ⟨ga, gn, gc, oa, on, oc, rfl⟩ := h.shape
  have HB0 : Hid (Below w.heap.size w (w.alloc (.cells #[.slice ga gn gc, .slice oa on oc] 26))) := (Below.refl _ _).alloc (Nat.le_refl _) _
  have x0 := box2_alloc w 26 (.slice ga gn gc) (.slice oa on oc)
  have HX0 : Hid _ := x0
  have g := HG.out _ HB0.out
  clear h HG x0
  generalize letR l k = LR at *
  generalize atB l k = AB at *
  cases AB with
  | false =>
    have HZ := HN.out rfl
    subst HZ
    clear HLT HN HX0
    go_enter Try.func30, Try.ntmps30
    go_wp2_with fail
    refine g.mono ?_
    rintro e w1 ⟨rfl, hs⟩
    have HB1 : Hid (Below w.heap.size w w1) := HB0.out.trans (hs.mono HB0.out.size)
    clear g hs
    go_wp2_with fail
    go_ret2
    exact ⟨rfl, HB1.out⟩
  | true =>
    have HL2 : Hid _ := HLT.out rfl
    clear HLT HN
    go_enter Try.func30, Try.ntmps30
    go_wp2_with fail
    refine g.mono ?_
    generalize w.alloc (.cells #[.slice ga gn gc, .slice oa on oc] 26) = w0 at *
    rintro e w1 ⟨rfl, hs⟩
    have HB1 : Hid (Below w.heap.size w w1) := HB0.out.trans (hs.mono HB0.out.size)
    have x1 := HX0.out.below hs HX0.out.lt
    obtain ⟨a0, a1⟩ := x1.cells
    have ah := x1.heap
    have al := x1.lt
    clear g hs x1 HX0
    have g2 := HL2.out _ HB1.out
    go_wp2_with fail
    refine g2.mono ?_
    rintro e w2 ⟨rfl, hs⟩
    have HB2 : Hid (Below w.heap.size w w2) := HB1.out.trans (hs.mono HB1.out.size)
    clear g2 hs a0 a1 ah al
    go_wp2_with fail
    go_ret2
    exact ⟨rfl, HB2.out⟩
set_option maxRecDepth 100000 in
theorem iUnrollOf_any (v : Value) (l : La) (k : Int) (w : World) (h : AtLa w v l) :
    Calls Try.prog 31 #[v, .int .i64 k] w fun e w' => ∃ r, e = .returned (.tuple #[r, .bool (atB l k)]) ∧ OwnOI w' w.heap.size w'.heap.size r (unrR l k) ∧ Below w.heap.size w w' := by
  have HG : Hid (∀ w1 : World, Below w.heap.size w w1 → Calls Try.prog 58 #[v, .int .i64 k] w1 fun e w' => e = .returned (.bool (atB l k)) ∧ Below w1.heap.size w1 w') := fun w1 hb => goodAt_any v l k w1 (h.below hb)
  have HLT : Hid (atB l k = true → ∀ w1 : World, Below w.heap.size w w1 → Calls Try.prog 47 #[v, .int .i64 0, .int .i64 k] w1 fun e w' => ∃ r, e = .returned r ∧ OwnOI w' w1.heap.size w'.heap.size r (unrR l k) ∧ Below w1.heap.size w1 w') := fun hat w1 hb => by
    obtain ⟨hg, n, rfl, hn⟩ := at_parts hat
    unfold unrR
    rw [if_pos hat, Int.toNat_natCast]
    exact between_any v l hg 0 n (Nat.zero_le _) (by omega) w1 (h.below hb)
  have HN : Hid (atB l k = false → unrR l k = []) := fun e => by
    unfold unrR
    rw [if_neg (by rw [e]; decide)]
  obtain ⟨ga, gn, gc, oa, on, oc, rfl⟩ := h.shape
  have HB0 : Hid (Below w.heap.size w (w.alloc (.cells #[.slice ga gn gc, .slice oa on oc] 26))) := (Below.refl _ _).alloc (Nat.le_refl _) _
  have x0 := box2_alloc w 26 (.slice ga gn gc) (.slice oa on oc)
  have HX0 : Hid _ := x0
  have g := HG.out _ HB0.out
  clear h HG x0
  generalize unrR l k = LR at *
  generalize atB l k = AB at *
  cases AB with
  | false =>
    have HZ := HN.out rfl
    subst HZ
    clear HLT HN HX0
    go_enter Try.func31, Try.ntmps31
    go_wp2_with fail
    refine g.mono ?_
    rintro e w1 ⟨rfl, hs⟩
    have HB1 : Hid (Below w.heap.size w w1) := HB0.out.trans (hs.mono HB0.out.size)
    have HE : Hid (OwnOI w1 w.heap.size w1.heap.size (.slice none 0 0) []) := ⟨Nat.le_refl _, Or.inl ⟨rfl, none, 0, rfl, fun _ => rfl, fun ad e => by cases e⟩⟩
    clear g hs
    go_wp2_with fail
    go_ret2
    exact ⟨_, rfl, HE.out, HB1.out⟩
  | true =>
    have HL2 : Hid _ := HLT.out rfl
    clear HLT HN
    go_enter Try.func31, Try.ntmps31
    go_wp2_with fail
    refine g.mono ?_
    generalize w.alloc (.cells #[.slice ga gn gc, .slice oa on oc] 26) = w0 at *
    rintro e w1 ⟨rfl, hs⟩
    have HB1 : Hid (Below w.heap.size w w1) := HB0.out.trans (hs.mono HB0.out.size)
    have x1 := HX0.out.below hs HX0.out.lt
    obtain ⟨a0, a1⟩ := x1.cells
    have ah := x1.heap
    have al := x1.lt
    clear g hs x1 HX0
    have g2 := HL2.out _ HB1.out
    go_wp2_with fail
    refine g2.mono ?_
    rintro e w2 ⟨r, rfl, ho, hs⟩
    have HB2 : Hid (Below w.heap.size w w2) := HB1.out.trans (hs.mono HB1.out.size)
    have HO2 : Hid (OwnOI w2 w.heap.size w2.heap.size r LR) := OffIn.weak ho HB1.out.size (Nat.le_refl _) (Nat.le_refl _)
    clear g2 hs a0 a1 ah al ho
    go_wp2_with fail
    go_ret2
    exact ⟨_, rfl, HO2.out, HB2.out⟩
end Go.Proofs.Ythamdefkcjfjpaa

namespace Go.Proofs.Ythamdefkcjfjpaa
open Go Go.RowKit
open M
set_option linter.unusedVariables false
set_option linter.unusedSimpArgs false

theorem unrR_ok (l : La) (n : Int) : (unrR l n).length ≤ 1048576 := by
  unfold unrR
  by_cases h : atB l n = true
  · rw [if_pos h, unrL_len]
    obtain ⟨_, m, rfl, hm⟩ := at_parts h
    rw [Int.toNat_natCast]
    omega
  · rw [if_neg h]
    simp
theorem own_oi2 {w : World} {B : Nat} {v : Value} {t : List Int} (h : OwnInts2 w B v t) : OwnOI w B w.heap.size v t := offIn_of h
set_option maxRecDepth 100000 in
set_option maxHeartbeats 2000000 in
theorem sLetterAt_any (v : Value) (l : La) (k : Int) (w : World) (h : AtLa w v l) :
    Calls Try.prog 35 #[v, .int .i64 k] w fun e w' => e = .returned (.tuple #[.int .i64 (letR l k), .bool (atB l k)]) ∧ Below w.heap.size w w' := by
  have HG : Hid (∀ w1 : World, Below w.heap.size w w1 → Calls Try.prog 21 #[v] w1 fun e w' => e = .returned (.bool (goodLa l)) ∧ Below w1.heap.size w1 w') := fun w1 hb => sGoodLasso_any v l w1 (h.below hb)
  have HLT : Hid (atB l k = true → ∀ w1 : World, Below w.heap.size w w1 → Calls Try.prog 61 #[v, .int .i64 k] w1 fun e w' => e = .returned (.int .i64 (letR l k)) ∧ Below w1.heap.size w1 w') := fun hat w1 hb => by
    obtain ⟨hg, n, rfl, hn⟩ := at_parts hat
    unfold letR
    rw [if_pos hat, Int.toNat_natCast]
    exact l9At_any v l hg n (by omega) w1 (h.below hb)
  have HN : Hid (atB l k = false → letR l k = 0) := fun e => by
    unfold letR
    rw [if_neg (by rw [e]; decide)]
  have hE : atB l k = (goodLa l && decide (0 ≤ k ∧ k ≤ 1000)) := rfl
  have GI : Hid (∀ w1 : World, Calls Try.prog 55 #[.int .i64 k, .int .i64 0, .int .i64 1000] w1 fun e w' => e = .returned (.bool (decide (0 ≤ k ∧ k ≤ 1000))) ∧ w' = w1) := fun w1 => l1In_any k 0 1000 w1
  obtain ⟨ga, gn, gc, oa, on, oc, rfl⟩ := h.shape
  have HB0 : Hid (Below w.heap.size w (w.alloc (.cells #[.slice ga gn gc, .slice oa on oc] 26))) := (Below.refl _ _).alloc (Nat.le_refl _) _
  have x0 := box2_alloc w 26 (.slice ga gn gc) (.slice oa on oc)
  have HX0 : Hid _ := x0
  have g := HG.out _ HB0.out
  rw [hE] at HLT HN ⊢
  clear h HG x0 hE
  generalize letR l k = LR at *
  generalize goodLa l = AB at *
  generalize decide (0 ≤ k ∧ k ≤ 1000) = IB at *
  cases AB with
  | false =>
    rw [Bool.false_and] at HN ⊢
    have HZ := HN.out rfl
    subst HZ
    clear HLT HN HX0 GI
    go_enter Try.func35, Try.ntmps35
    go_wp2_with fail
    refine g.mono ?_
    rintro e w1 ⟨rfl, hs⟩
    have HB1 : Hid (Below w.heap.size w w1) := HB0.out.trans (hs.mono HB0.out.size)
    clear g hs
    go_wp2_with fail
    go_ret2
    exact ⟨rfl, HB1.out⟩
  | true =>
    rw [Bool.true_and] at HLT HN ⊢
    cases IB with
    | false =>
      have HZ := HN.out rfl
      subst HZ
      clear HLT HN HX0
      go_enter Try.func35, Try.ntmps35
      go_wp2_with fail
      refine g.mono ?_
      rintro e w1 ⟨rfl, hs⟩
      have HB1 : Hid (Below w.heap.size w w1) := HB0.out.trans (hs.mono HB0.out.size)
      clear g hs
      go_wp2_with fail
      refine (GI.out _).mono ?_
      rintro e w2 ⟨rfl, rfl⟩
      go_wp2_with fail
      go_ret2
      exact ⟨rfl, HB1.out⟩
    | true =>
      have HL2 : Hid _ := HLT.out rfl
      clear HLT HN
      go_enter Try.func35, Try.ntmps35
      go_wp2_with fail
      refine g.mono ?_
      generalize w.alloc (.cells #[.slice ga gn gc, .slice oa on oc] 26) = w0 at *
      rintro e w1 ⟨rfl, hs⟩
      have HB1 : Hid (Below w.heap.size w w1) := HB0.out.trans (hs.mono HB0.out.size)
      have x1 := HX0.out.below hs HX0.out.lt
      obtain ⟨a0, a1⟩ := x1.cells
      have ah := x1.heap
      have al := x1.lt
      clear g hs x1 HX0
      go_wp2_with fail
      refine (GI.out _).mono ?_
      rintro e w2 ⟨rfl, rfl⟩
      have g2 := HL2.out _ HB1.out
      go_wp2_with fail
      refine g2.mono ?_
      rintro e w2 ⟨rfl, hs⟩
      have HB2 : Hid (Below w.heap.size w w2) := HB1.out.trans (hs.mono HB1.out.size)
      clear g2 hs a0 a1 ah al
      go_wp2_with fail
      go_ret2
      exact ⟨rfl, HB2.out⟩
set_option maxRecDepth 100000 in
set_option maxHeartbeats 2000000 in
theorem sUnrollOf_any (v : Value) (l : La) (k : Int) (w : World) (h : AtLa w v l) :
    Calls Try.prog 34 #[v, .int .i64 k] w fun e w' => ∃ r, e = .returned (.tuple #[r, .bool (atB l k)]) ∧ OwnOI w' w.heap.size w'.heap.size r (unrR l k) ∧ Below w.heap.size w w' := by
  have HG : Hid (∀ w1 : World, Below w.heap.size w w1 → Calls Try.prog 21 #[v] w1 fun e w' => e = .returned (.bool (goodLa l)) ∧ Below w1.heap.size w1 w') := fun w1 hb => sGoodLasso_any v l w1 (h.below hb)
  have HLT : Hid (atB l k = true → ∀ w1 : World, Below w.heap.size w w1 → Calls Try.prog 52 #[v, .int .i64 0, .int .i64 k] w1 fun e w' => ∃ r, e = .returned r ∧ OwnInts2 w' w1.heap.size r (unrR l k) ∧ Below w1.heap.size w1 w') := fun hat w1 hb => by
    obtain ⟨hg, n, rfl, hn⟩ := at_parts hat
    unfold unrR
    rw [if_pos hat, Int.toNat_natCast]
    exact l9First_any v l hg 0 n (by omega) w1 (h.below hb)
  have HN : Hid (atB l k = false → unrR l k = []) := fun e => by
    unfold unrR
    rw [if_neg (by rw [e]; decide)]
  have hE : atB l k = (goodLa l && decide (0 ≤ k ∧ k ≤ 1000)) := rfl
  have GI : Hid (∀ w1 : World, Calls Try.prog 55 #[.int .i64 k, .int .i64 0, .int .i64 1000] w1 fun e w' => e = .returned (.bool (decide (0 ≤ k ∧ k ≤ 1000))) ∧ w' = w1) := fun w1 => l1In_any k 0 1000 w1
  obtain ⟨ga, gn, gc, oa, on, oc, rfl⟩ := h.shape
  have HB0 : Hid (Below w.heap.size w (w.alloc (.cells #[.slice ga gn gc, .slice oa on oc] 26))) := (Below.refl _ _).alloc (Nat.le_refl _) _
  have x0 := box2_alloc w 26 (.slice ga gn gc) (.slice oa on oc)
  have HX0 : Hid _ := x0
  have g := HG.out _ HB0.out
  rw [hE] at HLT HN ⊢
  clear h HG x0 hE
  generalize unrR l k = LR at *
  generalize goodLa l = AB at *
  generalize decide (0 ≤ k ∧ k ≤ 1000) = IB at *
  cases AB with
  | false =>
    rw [Bool.false_and] at HN ⊢
    have HZ := HN.out rfl
    subst HZ
    clear HLT HN HX0 GI
    go_enter Try.func34, Try.ntmps34
    go_wp2_with fail
    refine g.mono ?_
    rintro e w1 ⟨rfl, hs⟩
    have HB1 : Hid (Below w.heap.size w w1) := HB0.out.trans (hs.mono HB0.out.size)
    have HE : Hid (OwnOI w1 w.heap.size w1.heap.size (.slice none 0 0) []) := ⟨Nat.le_refl _, Or.inl ⟨rfl, none, 0, rfl, fun _ => rfl, fun ad e => by cases e⟩⟩
    clear g hs
    go_wp2_with fail
    go_ret2
    exact ⟨_, rfl, HE.out, HB1.out⟩
  | true =>
    rw [Bool.true_and] at HLT HN ⊢
    cases IB with
    | false =>
      have HZ := HN.out rfl
      subst HZ
      clear HLT HN HX0
      go_enter Try.func34, Try.ntmps34
      go_wp2_with fail
      refine g.mono ?_
      rintro e w1 ⟨rfl, hs⟩
      have HB1 : Hid (Below w.heap.size w w1) := HB0.out.trans (hs.mono HB0.out.size)
      have HE : Hid (OwnOI w1 w.heap.size w1.heap.size (.slice none 0 0) []) := ⟨Nat.le_refl _, Or.inl ⟨rfl, none, 0, rfl, fun _ => rfl, fun ad e => by cases e⟩⟩
      clear g hs
      go_wp2_with fail
      refine (GI.out _).mono ?_
      rintro e w2 ⟨rfl, rfl⟩
      go_wp2_with fail
      go_ret2
      exact ⟨_, rfl, HE.out, HB1.out⟩
    | true =>
      have HL2 : Hid _ := HLT.out rfl
      clear HLT HN
      go_enter Try.func34, Try.ntmps34
      go_wp2_with fail
      refine g.mono ?_
      generalize w.alloc (.cells #[.slice ga gn gc, .slice oa on oc] 26) = w0 at *
      rintro e w1 ⟨rfl, hs⟩
      have HB1 : Hid (Below w.heap.size w w1) := HB0.out.trans (hs.mono HB0.out.size)
      have x1 := HX0.out.below hs HX0.out.lt
      obtain ⟨a0, a1⟩ := x1.cells
      have ah := x1.heap
      have al := x1.lt
      clear g hs x1 HX0
      go_wp2_with fail
      refine (GI.out _).mono ?_
      rintro e w2 ⟨rfl, rfl⟩
      have g2 := HL2.out _ HB1.out
      go_wp2_with fail
      refine g2.mono ?_
      rintro e w2 ⟨r, rfl, ho, hs⟩
      have HB2 : Hid (Below w.heap.size w w2) := HB1.out.trans (hs.mono HB1.out.size)
      have HO2 : Hid (OwnOI w2 w.heap.size w2.heap.size r LR) := OffIn.weak (own_oi2 ho) HB1.out.size (Nat.le_refl _) (Nat.le_refl _)
      clear g2 hs a0 a1 ah al ho
      go_wp2_with fail
      go_ret2
      exact ⟨_, rfl, HO2.out, HB2.out⟩
end Go.Proofs.Ythamdefkcjfjpaa

namespace Go.Proofs.Ythamdefkcjfjpaa
open Go Go.RowKit
open M
set_option linter.unusedVariables false
set_option linter.unusedSimpArgs false

theorem laOk_nil : LaOk ([], []) := ⟨by simp, by simp⟩
theorem sufR_ok (l : La) (k : Int) : LaOk (sufR l k) := by
  unfold sufR
  by_cases h : atB l k = true
  · rw [if_pos h]
    obtain ⟨hg, m, rfl, hm⟩ := at_parts h
    obtain ⟨q1, q2, q3⟩ := good_lens hg
    unfold sufL
    refine ⟨?_, ?_⟩
    · rw [unrL_len]
      have : Nat.max (m : Int).toNat l.1.length ≤ 1024 := Nat.max_le.2 ⟨by rw [Int.toNat_natCast]; omega, by omega⟩
      omega
    · rw [unrL_len]
      omega
  · rw [if_neg h]
    exact laOk_nil
theorem ownLa_one {w : World} {B : Nat} {r : Value} {ys : List Int} (h : OwnOI w B w.heap.size r ys) : OwnLa w B w.heap.size (.agg #[.slice none 0 0, r]) ([], ys) :=
  ⟨_, r, rfl, ⟨Nat.le_refl _, Or.inl ⟨rfl, none, 0, rfl, fun _ => rfl, fun ad e => by cases e⟩⟩, h, fun k h1 _ => by cases h1⟩
theorem ownLa_nil (w : World) (B : Nat) : OwnLa w B w.heap.size (.agg #[.slice none 0 0, .slice none 0 0]) ([], []) := ownLa_one ⟨Nat.le_refl _, Or.inl ⟨rfl, none, 0, rfl, fun _ => rfl, fun ad e => by cases e⟩⟩
set_option maxRecDepth 100000 in
set_option maxHeartbeats 2000000 in
theorem suf_far (ga : Option Addr) (gn gc : Nat) (oa : Option Addr) (on oc k : Nat) (ys : List Int) (hk : gn < k) (hgn : gn ≤ 24) (hon : on ≤ 24) (hk1 : k ≤ 1000) (w : World)
    (GF : Hid (∀ w1 : World, Below w.heap.size w w1 → Calls Try.prog 52 #[.agg #[.slice ga gn gc, .slice oa on oc], .int .i64 k, .int .i64 on] w1 fun e w' => ∃ r, e = .returned r ∧ OwnInts2 w' w1.heap.size r ys ∧ Below w1.heap.size w1 w')) :
    Calls Try.prog 59 #[.agg #[.slice ga gn gc, .slice oa on oc], .int .i64 k] w fun e w' => ∃ u, e = .returned u ∧ OwnLa w' w.heap.size w'.heap.size u ([], ys) ∧ Below w.heap.size w w' := by
  have hb2 : Below w.heap.size w ((w.alloc (.cells #[.slice ga gn gc, .slice oa on oc] 26)).alloc (.cells #[.slice none 0 0, .slice none 0 0] 26)) := ((Below.refl _ _).alloc (Nat.le_refl _) _).alloc (by rw [World.size_alloc]; omega) _
  have HB0 : Hid _ := hb2
  have x0 := (box2_alloc w 26 (.slice ga gn gc) (.slice oa on oc)).alloc (.cells #[.slice none 0 0, .slice none 0 0] 26)
  have y0 := box2_alloc (w.alloc (.cells #[.slice ga gn gc, .slice oa on oc] 26)) 26 (.slice none 0 0) (.slice none 0 0)
  simp only [World.size_alloc] at y0
  have g := GF.out _ HB0.out
  have HY0 : Hid _ := y0
  have hz0 : ((w.alloc (.cells #[.slice ga gn gc, .slice oa on oc] 26)).alloc (.cells #[.slice none 0 0, .slice none 0 0] 26)).heap.size = w.heap.size + 2 := by rw [World.size_alloc, World.size_alloc]
  obtain ⟨a0, a1⟩ := x0.cells
  have ah := x0.heap
  have al := x0.lt
  clear hb2 x0 y0 GF
  go_enter Try.func59, Try.ntmps59
  go_wp2_with fail
  refine g.mono ?_
  clear a0 a1 ah al
  generalize (w.alloc (.cells #[.slice ga gn gc, .slice oa on oc] 26)).alloc (.cells #[.slice none 0 0, .slice none 0 0] 26) = w0 at *
  rintro e w1 ⟨r, rfl, ho, hs⟩
  have HB1 : Hid (Below w.heap.size w w1) := HB0.out.trans (hs.mono (by omega))
  obtain ⟨ra, rn, rc, rfl⟩ := (own_of2 ho).shape
  have y1 := HY0.out.below hs (by omega)
  have hs1 := hs.size
  have HO : Hid _ := own_of2 ho
  obtain ⟨k0, k1⟩ := y1.cells
  have kh := y1.heap
  have kl := y1.lt
  have f0 := y1.frozen 0
  have f1 := y1.frozen 1
  have y2 := (y1.set0 (.slice none 0 0)).set1 (.slice ra rn rc)
  have hyh := y2.heap
  have HOL : Hid (OwnLa ((w1.setCell ⟨w.heap.size + 1, 0, none⟩ (.slice none 0 0)).setCell ⟨w.heap.size + 1, 1, none⟩ (.slice ra rn rc)) w.heap.size ((w1.setCell ⟨w.heap.size + 1, 0, none⟩ (.slice none 0 0)).setCell ⟨w.heap.size + 1, 1, none⟩ (.slice ra rn rc)).heap.size (.agg #[.slice none 0 0, .slice ra rn rc]) ([], ys)) := by
    have h9 := ((ownLa_one (OffIn.weak (lo' := w0.heap.size) (hi' := w1.heap.size) HO.out (Nat.le_refl _) (Nat.le_refl _) (Nat.le_refl _))).setO (b := w.heap.size + 1) (o := 0) (x := .slice none 0 0) (Or.inl (by omega))).setO (b := w.heap.size + 1) (o := 1) (x := .slice ra rn rc) (Or.inl (by omega))
    exact h9.weak (by omega) (by rw [size_set, size_set]; exact Nat.le_refl _) (Nat.le_refl _)
  have HBE : Hid (Below w.heap.size w ((w1.setCell ⟨w.heap.size + 1, 0, none⟩ (.slice none 0 0)).setCell ⟨w.heap.size + 1, 1, none⟩ (.slice ra rn rc))) := (HB1.out.setCell (by show w.heap.size ≤ w.heap.size + 1; omega) _).setCell (by show w.heap.size ≤ w.heap.size + 1; omega) _
  clear g ho hs y1 HY0 HO
  go_wp2_with fail
  refine bodyPost_ret (results_cell_row rfl _ _ (w.heap.size + 1) 26 _ (0, 0) _ rfl hyh Try.underlying26 rfl (by kernel_rfl)) rfl ?_
  exact ⟨_, rfl, HOL.out, HBE.out⟩
theorem srcO_drop {w : World} {b off cap k : Nat} {t : List Int} (hk : k ≤ t.length) (hc : t.length ≤ cap) (h : IntsAt w (.slice (some ⟨b, off, none⟩) t.length cap) t) :
    SrcO w (.slice (if cap = k then some (⟨b, off, none⟩ : Addr) else some ⟨b, off + k, none⟩) (t.length - k) (cap - k)) (t.length - k) (cellsI (t.drop k)) := by
  by_cases e : cap = k
  · rw [if_pos e]
    refine Or.inr ⟨b, off, cap - k, rfl, fun h0 => by omega, fun j u hu => ?_⟩
    have hj := (List.getElem?_eq_some_iff.1 hu).1
    rw [cellsI_len, List.length_drop] at hj
    omega
  · rw [if_neg e]
    refine Or.inr ⟨b, off + k, cap - k, rfl, fun h0 => ?_, fun j u hu => ?_⟩
    · rcases h.2 with ⟨h1, _⟩ | ⟨b', off', cap', hv, hlt, _⟩
      · rw [h1] at h0
        simp at h0
      · injection hv with e1
        injection e1 with e1
        injection e1 with e1
        omega
    · unfold cellsI at hu
      rw [List.getElem?_map, Option.map_eq_some_iff] at hu
      obtain ⟨x, hx, rfl⟩ := hu
      rw [List.getElem?_drop] at hx
      rcases h.2 with ⟨h1, _⟩ | ⟨b', off', cap', hv, hlt, hc'⟩
      · rw [h1] at hx
        simp at hx
      · injection hv with e1
        injection e1 with e1
        injection e1 with e1 e2
        subst e1 e2
        rw [add_eq, Nat.add_assoc]
        exact hc' _ x hx
theorem l9Suffix_any (v : Value) (l : La) (hg : goodLa l = true) (k : Nat) (hk : k ≤ 1000) (w : World) (h : AtLS w v l) :
    Calls Try.prog 59 #[v, .int .i64 k] w fun e w' => ∃ u, e = .returned u ∧ OwnLa w' w.heap.size w'.heap.size u (sufL l k) ∧ Below w.heap.size w w' := by
  obtain ⟨q1, q2, q3⟩ := good_lens hg
  have hat := h.at
  obtain ⟨g, o, rfl, h1, h2, h3, h4⟩ := h
  have so := srcO_ints h2 h4
  obtain ⟨oa, oc, rfl⟩ := h2.shape
  have GO2 : Hid (∀ w1 : World, Below w.heap.size w w1 → Calls Try.prog 53 #[.slice oa l.2.length oc] w1 fun e w' => ∃ r, e = .returned r ∧ OwnInts2 w' w1.heap.size r l.2 ∧ Below w1.heap.size w1 w') := fun w1 hb => l1OwnO_any oa _ oc l.2 rfl (by omega) w1 (so.below (cellsI_len _) hb)
  by_cases hle : k ≤ l.1.length
  · rw [sufL_stem l k hle]
    obtain ⟨a', n', c', e, hz, hsp, hgc⟩ := h3
    obtain ⟨ga, gc, e2⟩ := h1.shape
    rw [e2] at e
    injection e with e3 e4 e5
    subst e3 e4 e5 e2
    cases ga with
    | none =>
      obtain ⟨z1, z2⟩ := hz rfl
      have hk0 : k = 0 := by omega
      have hnil : l.1 = [] := List.length_eq_zero_iff.1 z1
      subst hk0
      rw [z1, z2]
      have hd : l.1.drop 0 = [] := by rw [hnil]; rfl
      rw [hd]
      exact suf_none oa _ oc 0 rfl [] l.2 w (fun w1 hb => l1OwnO_any none 0 0 [] rfl (by omega) w1 (Or.inl ⟨rfl, rfl, rfl⟩)) GO2
    | some ad =>
      obtain ⟨b, off, s⟩ := ad
      have hs := hsp _ rfl
      simp only at hs
      subst hs
      refine suf_some oa _ oc k b off _ gc _ hle q1 hgc rfl (l.1.drop k) l.2 w (fun w1 hb => ?_) GO2
      have h9 := srcO_drop hle hgc (h1.below hb)
      exact l1OwnO_any _ _ _ _ (by rw [List.length_drop]) (by omega) w1 h9
  · rw [sufL_loop l k (by omega)]
    obtain ⟨ga, gc, rfl⟩ := h1.shape
    exact suf_far ga _ gc oa _ oc k (unrL l k l.2.length) (by omega) q1 q3 hk w (fun w1 hb => l9First_any _ l hg k l.2.length (by omega) w1 (hat.below hb))
end Go.Proofs.Ythamdefkcjfjpaa

namespace Go.Proofs.Ythamdefkcjfjpaa
open Go Go.RowKit
open M
set_option linter.unusedVariables false
set_option linter.unusedSimpArgs false

def turnLa (l : La) : La := (unrL l 0 (l.1.length + 1), unrL l (l.1.length + 1) l.2.length)
def turnB (l : La) : Bool := goodLa l && goodLa (turnLa l)
def turnR (l : La) : La := if turnB l = true then turnLa l else ([], [])
theorem turnR_ok (l : La) : LaOk (turnR l) := by
  unfold turnR
  by_cases h : turnB l = true
  · rw [if_pos h]
    unfold turnB at h
    rw [Bool.and_eq_true] at h
    obtain ⟨q1, q2, q3⟩ := good_lens h.2
    exact ⟨by omega, by omega⟩
  · rw [if_neg h]
    exact laOk_nil
theorem turnLa_cut (l : La) : turnLa l = cutL l 0 (l.1.length + 1) l.2.length := rfl
theorem turnLa_ok {l : La} (h : goodLa l = true) : LaOk (turnLa l) := by
  obtain ⟨q1, q2, q3⟩ := good_lens h
  unfold turnLa
  exact ⟨by rw [unrL_len]; omega, by rw [unrL_len]; omega⟩
set_option maxRecDepth 100000 in
set_option maxHeartbeats 4000000 in
theorem iTurnLoop_any (v : Value) (l : La) (w : World) (h : AtLa w v l) :
    Calls Try.prog 27 #[v] w fun e w' => ∃ r, e = .returned (.tuple #[r, .bool (turnB l)]) ∧ OwnLa w' w.heap.size w'.heap.size r (turnR l) ∧ Below w.heap.size w w' := by
  have HG : Hid (∀ w1 : World, Below w.heap.size w w1 → Calls Try.prog 20 #[v] w1 fun e w' => e = .returned (.bool (goodLa l)) ∧ Below w1.heap.size w1 w') := fun w1 hb => iGoodLasso_any v l w1 (h.below hb)
  have hR : turnR l = bif goodLa l && goodLa (turnLa l) then turnLa l else ([], []) := by
    show (if (goodLa l && goodLa (turnLa l)) = true then _ else _) = _
    cases goodLa l && goodLa (turnLa l) <;> rfl
  have hB : turnB l = (goodLa l && goodLa (turnLa l)) := rfl
  have HLT : Hid (goodLa l = true → ∃ N : Nat, l.1.length + 1 = N ∧ N ≤ 25 ∧ l.2.length ≤ 24 ∧ LaOk (turnLa l) ∧ ∀ w1 : World, Below w.heap.size w w1 → Calls Try.prog 50 #[v, .int .i64 0, .int .i64 N, .int .i64 l.2.length] w1 fun e w' => ∃ r, e = .returned r ∧ OwnLa w' w1.heap.size w'.heap.size r (turnLa l) ∧ Below w1.heap.size w1 w') := fun hg => by
    obtain ⟨q1, q2, q3⟩ := good_lens hg
    exact ⟨_, rfl, by omega, q3, turnLa_ok hg, fun w1 hb => cutAt_any v l hg 0 (l.1.length + 1) l.2.length (Nat.zero_le _) (by omega) w1 (h.below hb)⟩
  have HM : Hid (∀ (w1 : World) (x : Value), Below w.heap.size w w1 → AtLa w1 x (turnLa l) → Calls Try.prog 60 #[x] w1 fun e w' => e = .returned (.tuple #[bif goodLa (turnLa l) then x else .agg #[.slice none 0 0, .slice none 0 0], .bool (goodLa (turnLa l))]) ∧ Below w1.heap.size w1 w') := fun w1 x _ hx => ifGood_any x (turnLa l) w1 hx
  obtain ⟨g_, o_, hv, h1, h2⟩ := h
  obtain ⟨ga, gc, e1⟩ := h1.shape
  obtain ⟨oa, oc, e2⟩ := h2.shape
  subst e1 e2 hv
  generalize l.1.length = gn at *
  generalize l.2.length = on at *
  have hb2 : Below w.heap.size w ((w.alloc (.cells #[.slice ga gn gc, .slice oa on oc] 26)).alloc (.cells #[.slice none 0 0, .slice none 0 0] 26)) := ((Below.refl _ _).alloc (Nat.le_refl _) _).alloc (by rw [World.size_alloc]; omega) _
  have HB0 : Hid _ := hb2
  have x0 := (box2_alloc w 26 (.slice ga gn gc) (.slice oa on oc)).alloc (.cells #[.slice none 0 0, .slice none 0 0] 26)
  have y0 := box2_alloc (w.alloc (.cells #[.slice ga gn gc, .slice oa on oc] 26)) 26 (.slice none 0 0) (.slice none 0 0)
  simp only [World.size_alloc] at y0
  have HX0 : Hid _ := x0
  have HY0 : Hid _ := y0
  have hz0 : ((w.alloc (.cells #[.slice ga gn gc, .slice oa on oc] 26)).alloc (.cells #[.slice none 0 0, .slice none 0 0] 26)).heap.size = w.heap.size + 2 := by rw [World.size_alloc, World.size_alloc]
  obtain ⟨a0, a1⟩ := x0.cells
  have ah := x0.heap
  have al := x0.lt
  have g := HG.out _ HB0.out
  rw [hR, hB]
  clear h1 h2 HG hb2 x0 y0 hR hB
  generalize turnLa l = LR at *
  generalize goodLa l = AB at *
  generalize goodLa LR = CB at *
  cases AB with
  | false =>
    rw [Bool.false_and]
    show Calls _ _ _ _ (fun e w' => ∃ r, e = .returned (.tuple #[r, .bool false]) ∧ OwnLa w' w.heap.size w'.heap.size r ([], []) ∧ Below w.heap.size w w')
    clear HLT HM
    go_enter Try.func27, Try.ntmps27
    go_wp2_with fail
    refine g.mono ?_
    clear a0 a1 ah al
    generalize (w.alloc (.cells #[.slice ga gn gc, .slice oa on oc] 26)).alloc (.cells #[.slice none 0 0, .slice none 0 0] 26) = w0 at *
    rintro e w1 ⟨rfl, hs⟩
    have HB1 : Hid (Below w.heap.size w w1) := HB0.out.trans (hs.mono (by omega))
    have y1 := HY0.out.below hs (by omega)
    have x1 := HX0.out.below hs (by omega)
    have hs1 := hs.size
    clear g hs
    clear x1
    have HZO : Hid (OwnLa ((w1.setCell ⟨w.heap.size + 1, 0, none⟩ (.slice none 0 0)).setCell ⟨w.heap.size + 1, 1, none⟩ (.slice none 0 0)) w.heap.size ((w1.setCell ⟨w.heap.size + 1, 0, none⟩ (.slice none 0 0)).setCell ⟨w.heap.size + 1, 1, none⟩ (.slice none 0 0)).heap.size (.agg #[.slice none 0 0, .slice none 0 0]) ([], [])) := ownLa_nil _ _
    obtain ⟨k0, k1⟩ := y1.cells
    have kh := y1.heap
    have kl := y1.lt
    have kf0 := y1.frozen 0
    have kf1 := y1.frozen 1
    have y9 := (y1.set0 (.slice none 0 0)).set1 (.slice none 0 0)
    have hyh := y9.heap
    have HBE : Hid (Below w.heap.size w ((w1.setCell ⟨w.heap.size + 1, 0, none⟩ (.slice none 0 0)).setCell ⟨w.heap.size + 1, 1, none⟩ (.slice none 0 0))) := (HB1.out.setCell (by show w.heap.size ≤ w.heap.size + 1; omega) _).setCell (by show w.heap.size ≤ w.heap.size + 1; omega) _
    clear HX0 HY0 y9 y1
    go_wp2_with fail
    refine bodyPost_ret (results_la rfl _ _ (w.heap.size + 1) 26 _ (0, 0) _ rfl hyh Try.underlying26 rfl (by kernel_rfl)) rfl ?_
    exact ⟨_, rfl, HZO.out, HBE.out⟩
  | true =>
    rw [Bool.true_and]
    obtain ⟨N, hN, hN25, hon24, HOK0, HC0⟩ := HLT.out rfl
    have HOK : Hid _ := HOK0
    have HC : Hid _ := HC0
    have hNi : (gn : Int) + 1 = (N : Int) := by omega
    clear HLT HOK0 HC0 hN
    cases CB with
    | false =>
      show Calls _ _ _ _ (fun e w' => ∃ r, e = .returned (.tuple #[r, .bool false]) ∧ OwnLa w' w.heap.size w'.heap.size r ([], []) ∧ Below w.heap.size w w')
      go_enter Try.func27, Try.ntmps27
      go_wp2_with fail
      refine g.mono ?_
      clear a0 a1 ah al
      generalize (w.alloc (.cells #[.slice ga gn gc, .slice oa on oc] 26)).alloc (.cells #[.slice none 0 0, .slice none 0 0] 26) = w0 at *
      rintro e w1 ⟨rfl, hs⟩
      have HB1 : Hid (Below w.heap.size w w1) := HB0.out.trans (hs.mono (by omega))
      have y1 := HY0.out.below hs (by omega)
      have x1 := HX0.out.below hs (by omega)
      have hs1 := hs.size
      clear g hs
      obtain ⟨a0, a1⟩ := x1.cells
      have ah := x1.heap
      have al := x1.lt
      clear x1 HX0
      have g2 := HC.out _ HB1.out
      go_wp2_with fail
      refine g2.mono ?_
      rintro e w8 ⟨r, rfl, ho, hs⟩
      have HB8 : Hid (Below w.heap.size w w8) := HB1.out.trans (hs.mono (by omega))
      have y8 := y1.below hs (by omega)
      have g3 := HM.out w8 _ HB8.out (ho.reads HOK.out)
      obtain ⟨ua, un, uc, va, vn, vc, rfl⟩ := ho.shape
      have HO8 : Hid (OwnLa w8 w1.heap.size w8.heap.size (.agg #[.slice ua un uc, .slice va vn vc]) LR) := ho
      have hs8 := hs.size
      clear g2 hs a0 a1 ah al ho y1
      go_wp2_with fail
      refine g3.mono ?_
      rintro e w2 ⟨rfl, hs⟩
      have HB2 : Hid (Below w.heap.size w w2) := HB8.out.trans (hs.mono (by omega))
      have y2 := y8.below hs (by omega)
      have hs2 := hs.size
      clear g3 hs y8
      have HZO : Hid (OwnLa ((w2.setCell ⟨w.heap.size + 1, 0, none⟩ (.slice none 0 0)).setCell ⟨w.heap.size + 1, 1, none⟩ (.slice none 0 0)) w.heap.size ((w2.setCell ⟨w.heap.size + 1, 0, none⟩ (.slice none 0 0)).setCell ⟨w.heap.size + 1, 1, none⟩ (.slice none 0 0)).heap.size (.agg #[.slice none 0 0, .slice none 0 0]) ([], [])) := ownLa_nil _ _
      obtain ⟨k0, k1⟩ := y2.cells
      have kh := y2.heap
      have kl := y2.lt
      have kf0 := y2.frozen 0
      have kf1 := y2.frozen 1
      have y9 := (y2.set0 (.slice none 0 0)).set1 (.slice none 0 0)
      have hyh := y9.heap
      have HBE : Hid (Below w.heap.size w ((w2.setCell ⟨w.heap.size + 1, 0, none⟩ (.slice none 0 0)).setCell ⟨w.heap.size + 1, 1, none⟩ (.slice none 0 0))) := (HB2.out.setCell (by show w.heap.size ≤ w.heap.size + 1; omega) _).setCell (by show w.heap.size ≤ w.heap.size + 1; omega) _
      clear HY0 y9 y2
      go_wp2_with fail
      refine bodyPost_ret (results_la rfl _ _ (w.heap.size + 1) 26 _ (0, 0) _ rfl hyh Try.underlying26 rfl (by kernel_rfl)) rfl ?_
      exact ⟨_, rfl, HZO.out, HBE.out⟩
    | true =>
      show Calls _ _ _ _ (fun e w' => ∃ r, e = .returned (.tuple #[r, .bool true]) ∧ OwnLa w' w.heap.size w'.heap.size r LR ∧ Below w.heap.size w w')
      go_enter Try.func27, Try.ntmps27
      go_wp2_with fail
      refine g.mono ?_
      clear a0 a1 ah al
      generalize (w.alloc (.cells #[.slice ga gn gc, .slice oa on oc] 26)).alloc (.cells #[.slice none 0 0, .slice none 0 0] 26) = w0 at *
      rintro e w1 ⟨rfl, hs⟩
      have HB1 : Hid (Below w.heap.size w w1) := HB0.out.trans (hs.mono (by omega))
      have y1 := HY0.out.below hs (by omega)
      have x1 := HX0.out.below hs (by omega)
      have hs1 := hs.size
      clear g hs
      obtain ⟨a0, a1⟩ := x1.cells
      have ah := x1.heap
      have al := x1.lt
      clear x1 HX0
      have g2 := HC.out _ HB1.out
      go_wp2_with fail
      refine g2.mono ?_
      rintro e w8 ⟨r, rfl, ho, hs⟩
      have HB8 : Hid (Below w.heap.size w w8) := HB1.out.trans (hs.mono (by omega))
      have y8 := y1.below hs (by omega)
      have g3 := HM.out w8 _ HB8.out (ho.reads HOK.out)
      obtain ⟨ua, un, uc, va, vn, vc, rfl⟩ := ho.shape
      have HO8 : Hid (OwnLa w8 w1.heap.size w8.heap.size (.agg #[.slice ua un uc, .slice va vn vc]) LR) := ho
      have hs8 := hs.size
      clear g2 hs a0 a1 ah al ho y1
      go_wp2_with fail
      refine g3.mono ?_
      rintro e w2 ⟨rfl, hs⟩
      have HB2 : Hid (Below w.heap.size w w2) := HB8.out.trans (hs.mono (by omega))
      have y2 := y8.below hs (by omega)
      have hs2 := hs.size
      have HO : Hid (OwnLa w2 w1.heap.size w2.heap.size (.agg #[.slice ua un uc, .slice va vn vc]) LR) := (HO8.out.same hs.size (fun i _ h9 => hs.block i h9)).weak (Nat.le_refl _) hs.size (Nat.le_refl _)
      clear g3 hs y8 HO8
      obtain ⟨k0, k1⟩ := y2.cells
      have kh := y2.heap
      have kl := y2.lt
      have kf0 := y2.frozen 0
      have kf1 := y2.frozen 1
      have y9 := (y2.set0 (.slice ua un uc)).set1 (.slice va vn vc)
      have hyh := y9.heap
      have HOL : Hid (OwnLa ((w2.setCell ⟨w.heap.size + 1, 0, none⟩ (.slice ua un uc)).setCell ⟨w.heap.size + 1, 1, none⟩ (.slice va vn vc)) w.heap.size ((w2.setCell ⟨w.heap.size + 1, 0, none⟩ (.slice ua un uc)).setCell ⟨w.heap.size + 1, 1, none⟩ (.slice va vn vc)).heap.size (.agg #[.slice ua un uc, .slice va vn vc]) LR) := ((HO.out.setO (b := w.heap.size + 1) (o := 0) (x := .slice ua un uc) (Or.inl (by omega))).setO (b := w.heap.size + 1) (o := 1) (x := .slice va vn vc) (Or.inl (by omega))).weak (by omega) (by rw [size_set, size_set]; exact Nat.le_refl _) (Nat.le_refl _)
      have HBE : Hid (Below w.heap.size w ((w2.setCell ⟨w.heap.size + 1, 0, none⟩ (.slice ua un uc)).setCell ⟨w.heap.size + 1, 1, none⟩ (.slice va vn vc))) := (HB2.out.setCell (by show w.heap.size ≤ w.heap.size + 1; omega) _).setCell (by show w.heap.size ≤ w.heap.size + 1; omega) _
      clear HY0 y9 y2
      go_wp2_with fail
      refine bodyPost_ret (results_la rfl _ _ (w.heap.size + 1) 26 _ (0, 0) _ rfl hyh Try.underlying26 rfl (by kernel_rfl)) rfl ?_
      exact ⟨_, rfl, HOL.out, HBE.out⟩
end Go.Proofs.Ythamdefkcjfjpaa

namespace Go.Proofs.Ythamdefkcjfjpaa
open Go Go.RowKit
open M
set_option linter.unusedVariables false
set_option linter.unusedSimpArgs false

structure RegTurnY (W w' : World) (B X Y : Nat) (ga : Option Addr) (gn gc : Nat) (oa : Option Addr) (on oc N : Nat) (xs ys : List Int) (l0 l1 l2 l3 l4 l5 l6 l7 l8 l9 l10 l11 l12 l13 l14 : Bool) (s0 s1 s2 s3 s4 s5 s6 s7 s8 s9 s10 s11 s12 s14 : Value) : Prop where
  (bel : l13 = false → Below W.heap.size W w')
  (all : l13 = true → l0 = true ∧ l1 = true ∧ l2 = true ∧ l3 = true ∧ l4 = true ∧ l5 = true ∧ l6 = true ∧ l7 = true ∧ l8 = true ∧ l9 = true ∧ l10 = true ∧ l11 = true ∧ l12 = true)
  (fin : l13 = true → ∃ w4 : World, Below W.heap.size W w4 ∧ w' = ((w4.setCell ⟨Y, 0, none⟩ s2).setCell ⟨Y, 1, none⟩ s8) ∧ Rw B w4 s2 xs ∧ Rw2 B w4 s2 s8 ys)
  (d0 : l0 = true → s0 = .agg #[.slice ga gn gc, .slice oa on oc] ∧ True)
  (d1 : l1 = true → s1 = .int .i64 N ∧ True)
  (d2 : l2 = true → (l13 = false → Rw B w' s2 xs) ∧ l0 = true ∧ l1 = true)
  (d3 : l3 = true → s3 = .agg #[.slice ga gn gc, .slice oa on oc] ∧ True)
  (d4 : l4 = true → s4 = .int .i64 N ∧ True)
  (d5 : l5 = true → s5 = .pointer (some ⟨X, 1, none⟩) ∧ True)
  (d6 : l6 = true → s6 = .slice oa on oc ∧ l5 = true)
  (d7 : l7 = true → s7 = .int .i64 on ∧ l6 = true)
  (d8 : l8 = true → (l13 = false → Rw2 B w' s2 s8 ys) ∧ l2 = true ∧ l3 = true ∧ l4 = true ∧ l7 = true)
  (d9 : l9 = true → s9 = .agg #[s2, s8] ∧ l2 = true ∧ l8 = true)
  (d10 : l10 = true → s10 = .tuple #[.agg #[s2, s8], .bool true] ∧ l2 = true ∧ l8 = true ∧ l9 = true)
  (d11 : l11 = true → s11 = .agg #[s2, s8] ∧ l2 = true ∧ l8 = true ∧ l10 = true)
  (d12 : l12 = true → s12 = .bool true ∧ l2 = true ∧ l8 = true ∧ l10 = true)
  (d14 : l14 = true → s14 = .bool true ∧ l0 = true ∧ l1 = true ∧ l2 = true ∧ l3 = true ∧ l4 = true ∧ l5 = true ∧ l6 = true ∧ l7 = true ∧ l8 = true ∧ l9 = true ∧ l10 = true ∧ l11 = true ∧ l12 = true ∧ l13 = true)
structure RegTurnN (W w' : World) (B X Y : Nat) (ga : Option Addr) (gn gc : Nat) (oa : Option Addr) (on oc N : Nat) (xs ys : List Int) (l0 l1 l2 l3 l4 l5 l6 l7 l8 l9 l10 l11 l12 l13 l14 : Bool) (s0 s1 s2 s3 s4 s5 s6 s7 s8 s9 s10 s11 s12 s14 : Value) : Prop where
  (bel : l13 = false → Below W.heap.size W w')
  (all : l13 = true → l0 = true ∧ l1 = true ∧ l2 = true ∧ l3 = true ∧ l4 = true ∧ l5 = true ∧ l6 = true ∧ l7 = true ∧ l8 = true ∧ l9 = true ∧ l10 = true ∧ l11 = true ∧ l12 = true)
  (fin : l13 = true → ∃ w4 : World, Below W.heap.size W w4 ∧ w' = ((w4.setCell ⟨Y, 0, none⟩ (.slice none 0 0)).setCell ⟨Y, 1, none⟩ (.slice none 0 0)) ∧ Rw B w4 s2 xs ∧ Rw2 B w4 s2 s8 ys)
  (d0 : l0 = true → s0 = .agg #[.slice ga gn gc, .slice oa on oc] ∧ True)
  (d1 : l1 = true → s1 = .int .i64 N ∧ True)
  (d2 : l2 = true → (l13 = false → Rw B w' s2 xs) ∧ l0 = true ∧ l1 = true)
  (d3 : l3 = true → s3 = .agg #[.slice ga gn gc, .slice oa on oc] ∧ True)
  (d4 : l4 = true → s4 = .int .i64 N ∧ True)
  (d5 : l5 = true → s5 = .pointer (some ⟨X, 1, none⟩) ∧ True)
  (d6 : l6 = true → s6 = .slice oa on oc ∧ l5 = true)
  (d7 : l7 = true → s7 = .int .i64 on ∧ l6 = true)
  (d8 : l8 = true → (l13 = false → Rw2 B w' s2 s8 ys) ∧ l2 = true ∧ l3 = true ∧ l4 = true ∧ l7 = true)
  (d9 : l9 = true → s9 = .agg #[s2, s8] ∧ l2 = true ∧ l8 = true)
  (d10 : l10 = true → s10 = .tuple #[.agg #[.slice none 0 0, .slice none 0 0], .bool false] ∧ l2 = true ∧ l8 = true ∧ l9 = true)
  (d11 : l11 = true → s11 = .agg #[.slice none 0 0, .slice none 0 0] ∧ l2 = true ∧ l8 = true ∧ l10 = true)
  (d12 : l12 = true → s12 = .bool false ∧ l2 = true ∧ l8 = true ∧ l10 = true)
  (d14 : l14 = true → s14 = .bool false ∧ l0 = true ∧ l1 = true ∧ l2 = true ∧ l3 = true ∧ l4 = true ∧ l5 = true ∧ l6 = true ∧ l7 = true ∧ l8 = true ∧ l9 = true ∧ l10 = true ∧ l11 = true ∧ l12 = true ∧ l13 = true)
set_option maxRecDepth 100000 in
set_option maxHeartbeats 8000000 in
theorem sTurnLoop_any (v : Value) (l : La) (w : World) (h : AtLa w v l) :
    Calls Try.prog 28 #[v] w fun e w' => ∃ r, e = .returned (.tuple #[r, .bool (turnB l)]) ∧ OwnLa w' w.heap.size w'.heap.size r (turnR l) ∧ Below w.heap.size w w' := by
  have HG : Hid (∀ w1 : World, Below w.heap.size w w1 → Calls Try.prog 21 #[v] w1 fun e w' => e = .returned (.bool (goodLa l)) ∧ Below w1.heap.size w1 w') := fun w1 hb => sGoodLasso_any v l w1 (h.below hb)
  have hR : turnR l = bif goodLa l && goodLa (turnLa l) then turnLa l else ([], []) := by
    show (if (goodLa l && goodLa (turnLa l)) = true then _ else _) = _
    cases goodLa l && goodLa (turnLa l) <;> rfl
  have hB : turnB l = (goodLa l && goodLa (turnLa l)) := rfl
  have hTL : turnLa l = (unrL l 0 (l.1.length + 1), unrL l (l.1.length + 1) l.2.length) := rfl
  have HLT : Hid (goodLa l = true → ∃ N : Nat, l.1.length + 1 = N ∧ N ≤ 25 ∧ l.2.length ≤ 24 ∧ (unrL l 0 (l.1.length + 1)).length ≤ 1048576 ∧ (unrL l (l.1.length + 1) l.2.length).length ≤ 1048576 ∧
      (∀ w1 : World, Below w.heap.size w w1 → Calls Try.prog 52 #[v, .int .i64 0, .int .i64 N] w1 fun e w' => ∃ r, e = .returned r ∧ OwnInts2 w' w1.heap.size r (unrL l 0 (l.1.length + 1)) ∧ Below w1.heap.size w1 w') ∧
      (∀ w1 : World, Below w.heap.size w w1 → Calls Try.prog 52 #[v, .int .i64 N, .int .i64 l.2.length] w1 fun e w' => ∃ r, e = .returned r ∧ OwnInts2 w' w1.heap.size r (unrL l (l.1.length + 1) l.2.length) ∧ Below w1.heap.size w1 w')) := fun hg => by
    obtain ⟨q1, q2, q3⟩ := good_lens hg
    exact ⟨_, rfl, by omega, q3, by rw [unrL_len]; omega, by rw [unrL_len]; omega, fun w1 hb => l9First_any v l hg 0 (l.1.length + 1) (by omega) w1 (h.below hb), fun w1 hb => l9First_any v l hg (l.1.length + 1) l.2.length (by omega) w1 (h.below hb)⟩
  have HM : Hid (∀ (w1 : World) (x : Value), Below w.heap.size w w1 → AtLa w1 x (unrL l 0 (l.1.length + 1), unrL l (l.1.length + 1) l.2.length) → Calls Try.prog 62 #[x] w1 fun e w' => e = .returned (.tuple #[bif goodLa (turnLa l) then x else .agg #[.slice none 0 0, .slice none 0 0], .bool (goodLa (turnLa l))]) ∧ Below w1.heap.size w1 w') := fun w1 x _ hx => l9Made_any x (turnLa l) w1 hx
  obtain ⟨g_, o_, hv, h1, h2⟩ := h
  obtain ⟨ga, gc, e1⟩ := h1.shape
  obtain ⟨oa, oc, e2⟩ := h2.shape
  subst e1 e2 hv
  rw [hR, hB]
  generalize goodLa (turnLa l) = CB at *
  rw [hTL]
  generalize unrL l 0 (l.1.length + 1) = xs at *
  generalize unrL l (l.1.length + 1) l.2.length = ys at *
  generalize l.1.length = gn at *
  generalize l.2.length = on at *
  have hb2 : Below w.heap.size w ((w.alloc (.cells #[.slice ga gn gc, .slice oa on oc] 26)).alloc (.cells #[.slice none 0 0, .slice none 0 0] 26)) := ((Below.refl _ _).alloc (Nat.le_refl _) _).alloc (by rw [World.size_alloc]; omega) _
  have HB0 : Hid _ := hb2
  have x0 := (box2_alloc w 26 (.slice ga gn gc) (.slice oa on oc)).alloc (.cells #[.slice none 0 0, .slice none 0 0] 26)
  have y0 := box2_alloc (w.alloc (.cells #[.slice ga gn gc, .slice oa on oc] 26)) 26 (.slice none 0 0) (.slice none 0 0)
  simp only [World.size_alloc] at y0
  have HX0 : Hid _ := x0
  have HY0 : Hid _ := y0
  have hz0 : ((w.alloc (.cells #[.slice ga gn gc, .slice oa on oc] 26)).alloc (.cells #[.slice none 0 0, .slice none 0 0] 26)).heap.size = w.heap.size + 2 := by rw [World.size_alloc, World.size_alloc]
  obtain ⟨a0, a1⟩ := x0.cells
  have ah := x0.heap
  have al := x0.lt
  have g := HG.out _ HB0.out
  clear h1 h2 HG hb2 x0 y0 hR hB hTL
  generalize goodLa l = AB at *
  cases AB with
  | false =>
    rw [Bool.false_and]
    show Calls _ _ _ _ (fun e w' => ∃ r, e = .returned (.tuple #[r, .bool false]) ∧ OwnLa w' w.heap.size w'.heap.size r ([], []) ∧ Below w.heap.size w w')
    clear HLT HM
    go_enter Try.func28, Try.ntmps28
    go_wp2_with fail
    refine g.mono ?_
    clear a0 a1 ah al
    generalize (w.alloc (.cells #[.slice ga gn gc, .slice oa on oc] 26)).alloc (.cells #[.slice none 0 0, .slice none 0 0] 26) = w0 at *
    rintro e w1 ⟨rfl, hs⟩
    have HB1 : Hid (Below w.heap.size w w1) := HB0.out.trans (hs.mono (by omega))
    have y1 := HY0.out.below hs (by omega)
    have x1 := HX0.out.below hs (by omega)
    have hs1 := hs.size
    clear g hs
    clear x1
    have HZO : Hid (OwnLa ((w1.setCell ⟨w.heap.size + 1, 0, none⟩ (.slice none 0 0)).setCell ⟨w.heap.size + 1, 1, none⟩ (.slice none 0 0)) w.heap.size ((w1.setCell ⟨w.heap.size + 1, 0, none⟩ (.slice none 0 0)).setCell ⟨w.heap.size + 1, 1, none⟩ (.slice none 0 0)).heap.size (.agg #[.slice none 0 0, .slice none 0 0]) ([], [])) := ownLa_nil _ _
    obtain ⟨k0, k1⟩ := y1.cells
    have kh := y1.heap
    have kl := y1.lt
    have kf0 := y1.frozen 0
    have kf1 := y1.frozen 1
    have y9 := (y1.set0 (.slice none 0 0)).set1 (.slice none 0 0)
    have hyh := y9.heap
    have HBE : Hid (Below w.heap.size w ((w1.setCell ⟨w.heap.size + 1, 0, none⟩ (.slice none 0 0)).setCell ⟨w.heap.size + 1, 1, none⟩ (.slice none 0 0))) := (HB1.out.setCell (by show w.heap.size ≤ w.heap.size + 1; omega) _).setCell (by show w.heap.size ≤ w.heap.size + 1; omega) _
    clear HX0 HY0 y9 y1
    go_wp2_with fail
    refine bodyPost_ret (results_la rfl _ _ (w.heap.size + 1) 26 _ (0, 0) _ rfl hyh Try.underlying26 rfl (by kernel_rfl)) rfl ?_
    exact ⟨_, rfl, HZO.out, HBE.out⟩
  | true =>
    rw [Bool.true_and]
    obtain ⟨N, hN, hN25, hon24, hxl, hyl, hg1, hg2⟩ := HLT.out rfl
    have HXL : Hid _ := hxl
    have HYL : Hid _ := hyl
    have G1 : Hid _ := hg1
    have G2 : Hid _ := hg2
    have hNi : (gn : Int) + 1 = (N : Int) := by omega
    clear HLT hxl hyl hg1 hg2 hN
    cases CB with
    | false =>
      show Calls _ _ _ _ (fun e w' => ∃ r, e = .returned (.tuple #[r, .bool false]) ∧ OwnLa w' w.heap.size w'.heap.size r ([], []) ∧ Below w.heap.size w w')
      go_enter Try.func28, Try.ntmps28
      go_wp2_with fail
      refine g.mono ?_
      clear a0 a1 ah al
      generalize (w.alloc (.cells #[.slice ga gn gc, .slice oa on oc] 26)).alloc (.cells #[.slice none 0 0, .slice none 0 0] 26) = w0 at *
      rintro e w1 ⟨rfl, hs⟩
      have HB1 : Hid (Below w.heap.size w w1) := HB0.out.trans (hs.mono (by omega))
      have y1 := HY0.out.below hs (by omega)
      have x1 := HX0.out.below hs (by omega)
      have hs1 := hs.size
      clear g hs
      obtain ⟨a0, a1⟩ := x1.cells
      have ah := x1.heap
      have al := x1.lt
      have HXP : Hid (∀ w3, Below w1.drew.heap.size w1.drew w3 → Box2 w3 w.heap.size 26 (.slice ga gn gc) (.slice oa on oc)) := fun w3 hb3 => Box2.below (w := w1.drew) ⟨x1.heap⟩ hb3 (by show _ < w1.heap.size; omega)
      have HYP : Hid (∀ w3, Below w1.drew.heap.size w1.drew w3 → Box2 w3 (w.heap.size + 1) 26 (.slice none 0 0) (.slice none 0 0)) := fun w3 hb3 => Box2.below (w := w1.drew) ⟨y1.heap⟩ hb3 (by show _ < w1.heap.size; omega)
      have HBW : Hid (∀ w3, Below w1.drew.heap.size w1.drew w3 → Below w.heap.size w w3) := fun w3 hb3 => HB1.out.drew.trans (hb3.mono (by show w.heap.size ≤ w1.heap.size; omega))
      clear x1 y1 HX0 HY0
      go_wp2_with fail
      refine wp_region_any (by kernel_rfl) ?_
      change wpAny _ _ _ _ _ _ _ (World.drew _)
      refine wpAny_invN (fun lb9 ac9 w' => ∃ (l0 l1 l2 l3 l4 l5 l6 l7 l8 l9 l10 l11 l12 l13 l14 : Bool) (s0 s1 s2 s3 s4 s5 s6 s7 s8 s9 s10 s11 s12 s14 : Value), lb9 = #[l0, l1, l2, l3, l4, l5, l6, l7, l8, l9, l10, l11, l12, l13, l14] ∧ ac9 = { tmps := #[.agg #[.slice ga gn gc, .slice oa on oc], .pointer (some ⟨w.heap.size, 0, none⟩), .pointer (some ⟨w.heap.size + 1, 0, none⟩), s14, .int .i64 N, .agg #[.slice ga gn gc, .slice oa on oc], .bool true, .bool false, undef, .pointer (some ⟨w.heap.size, 0, none⟩), .slice ga gn gc, .int .i64 gn, .int .i64 N, s0, s1, s2, s3, s4, s5, s6, s7, s8, s9, s10, s11, s12], defers := [] } ∧ RegTurnN w1.drew w' w1.drew.heap.size w.heap.size (w.heap.size + 1) ga gn gc oa on oc N xs ys l0 l1 l2 l3 l4 l5 l6 l7 l8 l9 l10 l11 l12 l13 l14 s0 s1 s2 s3 s4 s5 s6 s7 s8 s9 s10 s11 s12 s14) ?done ?step 15 _ _ _ ⟨false, false, false, false, false, false, false, false, false, false, false, false, false, false, false, _, _, _, _, _, _, _, _, _, _, _, _, _, _, rfl, rfl, ?init⟩ (by decide)
      case init => exact { bel := fun _ => Below.refl _ _, all := fun e => (by cases e), fin := fun e => (by cases e), d0 := fun e => (by cases e), d1 := fun e => (by cases e), d2 := fun e => (by cases e), d3 := fun e => (by cases e), d4 := fun e => (by cases e), d5 := fun e => (by cases e), d6 := fun e => (by cases e), d7 := fun e => (by cases e), d8 := fun e => (by cases e), d9 := fun e => (by cases e), d10 := fun e => (by cases e), d11 := fun e => (by cases e), d12 := fun e => (by cases e), d14 := fun e => (by cases e) }
      case step =>
        rintro lb9 ac9 w3 ⟨l0, l1, l2, l3, l4, l5, l6, l7, l8, l9, l10, l11, l12, l13, l14, s0, s1, s2, s3, s4, s5, s6, s7, s8, s9, s10, s11, s12, s14, rfl, rfl, h⟩
        intro q hq
        have hlt9 := ready_ltN hq
        match q, hq, hlt9 with
        | 0, hq, _ =>
          have hr := ready_depN hq rfl
          have hme : l0 = false := hr.1
          have hT : l13 = false := by
            cases hc9 : l13 with
            | false => rfl
            | true => exact absurd (h.all hc9).1 (by rw [hme]; decide)
          have hbel := h.bel hT
          have x3 := HXP.out w3 hbel
          obtain ⟨c0, c1⟩ := x3.cells
          have ch := x3.heap
          have cl := x3.lt
          clear hr hq
          refine wpOp_runN rfl rfl (fun K hK => ?_)
          go_simp
          refine hK _ _ ⟨true, l1, l2, l3, l4, l5, l6, l7, l8, l9, l10, l11, l12, l13, l14, _, _, _, _, _, _, _, _, _, _, _, _, _, _, rfl, rfl, ?_⟩
          exact { bel := h.bel, all := fun e => (by rw [hT] at e; cases e), fin := fun e => (by rw [hT] at e; cases e), d0 := fun _ => ⟨rfl, trivial⟩, d1 := h.d1, d2 := fun e => absurd (h.d2 e).2.1 (by rw [hme]; decide), d3 := h.d3, d4 := h.d4, d5 := h.d5, d6 := h.d6, d7 := h.d7, d8 := h.d8, d9 := h.d9, d10 := h.d10, d11 := h.d11, d12 := h.d12, d14 := fun e => absurd (h.d14 e).2.1 (by rw [hme]; decide) }
        | 1, hq, _ =>
          have hr := ready_depN hq rfl
          have hme : l1 = false := hr.1
          have hT : l13 = false := by
            cases hc9 : l13 with
            | false => rfl
            | true => exact absurd (h.all hc9).2.1 (by rw [hme]; decide)
          have hbel := h.bel hT
          clear hr hq
          refine wpOp_runN rfl rfl (fun K hK => ?_)
          go_simp
          refine hK _ _ ⟨l0, true, l2, l3, l4, l5, l6, l7, l8, l9, l10, l11, l12, l13, l14, _, _, _, _, _, _, _, _, _, _, _, _, _, _, rfl, rfl, ?_⟩
          exact { bel := h.bel, all := fun e => (by rw [hT] at e; cases e), fin := fun e => (by rw [hT] at e; cases e), d0 := h.d0, d1 := fun _ => ⟨rfl, trivial⟩, d2 := fun e => absurd (h.d2 e).2.2 (by rw [hme]; decide), d3 := h.d3, d4 := h.d4, d5 := h.d5, d6 := h.d6, d7 := h.d7, d8 := h.d8, d9 := h.d9, d10 := h.d10, d11 := h.d11, d12 := h.d12, d14 := fun e => absurd (h.d14 e).2.2.1 (by rw [hme]; decide) }
        | 2, hq, _ =>
          have hr := ready_depN hq rfl
          have hme : l2 = false := hr.1
          have e0 : l0 = true := hr.2 ⟨0, .data⟩ (by simp) (by kernel_rfl)
          have e1 : l1 = true := hr.2 ⟨1, .data⟩ (by simp) (by kernel_rfl)
          have hT : l13 = false := by
            cases hc9 : l13 with
            | false => rfl
            | true => exact absurd (h.all hc9).2.2.1 (by rw [hme]; decide)
          have hbel := h.bel hT
          obtain rfl := (h.d0 e0).1
          obtain rfl := (h.d1 e1).1
          clear hr hq
          refine wpOp_runN rfl rfl (fun K hK => ?_)
          go_simp
          go_at_call 52
          refine Calls.mono (G1.out w3 (HBW.out w3 hbel)) ?_
          rintro e w4 ⟨r, rfl, ho, hs4⟩
          have hbel4 := hbel.trans (hs4.mono hbel.size)
          have hnew := rw_of hbel.size (own_of2 ho)
          refine hK _ _ ⟨l0, l1, true, l3, l4, l5, l6, l7, l8, l9, l10, l11, l12, l13, l14, _, _, _, _, _, _, _, _, _, _, _, _, _, _, rfl, rfl, ?_⟩
          exact { bel := fun _ => hbel4, all := fun e => (by rw [hT] at e; cases e), fin := fun e => (by rw [hT] at e; cases e), d0 := h.d0, d1 := h.d1, d2 := fun _ => ⟨fun _ => hnew, e0, e1⟩, d3 := h.d3, d4 := h.d4, d5 := h.d5, d6 := h.d6, d7 := h.d7, d8 := fun e => absurd (h.d8 e).2.1 (by rw [hme]; decide), d9 := fun e => absurd (h.d9 e).2.1 (by rw [hme]; decide), d10 := fun e => absurd (h.d10 e).2.1 (by rw [hme]; decide), d11 := fun e => absurd (h.d11 e).2.1 (by rw [hme]; decide), d12 := fun e => absurd (h.d12 e).2.1 (by rw [hme]; decide), d14 := fun e => absurd (h.d14 e).2.2.2.1 (by rw [hme]; decide) }
        | 3, hq, _ =>
          have hr := ready_depN hq rfl
          have hme : l3 = false := hr.1
          have hT : l13 = false := by
            cases hc9 : l13 with
            | false => rfl
            | true => exact absurd (h.all hc9).2.2.2.1 (by rw [hme]; decide)
          have hbel := h.bel hT
          have x3 := HXP.out w3 hbel
          obtain ⟨c0, c1⟩ := x3.cells
          have ch := x3.heap
          have cl := x3.lt
          clear hr hq
          refine wpOp_runN rfl rfl (fun K hK => ?_)
          go_simp
          refine hK _ _ ⟨l0, l1, l2, true, l4, l5, l6, l7, l8, l9, l10, l11, l12, l13, l14, _, _, _, _, _, _, _, _, _, _, _, _, _, _, rfl, rfl, ?_⟩
          exact { bel := h.bel, all := fun e => (by rw [hT] at e; cases e), fin := fun e => (by rw [hT] at e; cases e), d0 := h.d0, d1 := h.d1, d2 := h.d2, d3 := fun _ => ⟨rfl, trivial⟩, d4 := h.d4, d5 := h.d5, d6 := h.d6, d7 := h.d7, d8 := fun e => absurd (h.d8 e).2.2.1 (by rw [hme]; decide), d9 := h.d9, d10 := h.d10, d11 := h.d11, d12 := h.d12, d14 := fun e => absurd (h.d14 e).2.2.2.2.1 (by rw [hme]; decide) }
        | 4, hq, _ =>
          have hr := ready_depN hq rfl
          have hme : l4 = false := hr.1
          have hT : l13 = false := by
            cases hc9 : l13 with
            | false => rfl
            | true => exact absurd (h.all hc9).2.2.2.2.1 (by rw [hme]; decide)
          have hbel := h.bel hT
          clear hr hq
          refine wpOp_runN rfl rfl (fun K hK => ?_)
          go_simp
          refine hK _ _ ⟨l0, l1, l2, l3, true, l5, l6, l7, l8, l9, l10, l11, l12, l13, l14, _, _, _, _, _, _, _, _, _, _, _, _, _, _, rfl, rfl, ?_⟩
          exact { bel := h.bel, all := fun e => (by rw [hT] at e; cases e), fin := fun e => (by rw [hT] at e; cases e), d0 := h.d0, d1 := h.d1, d2 := h.d2, d3 := h.d3, d4 := fun _ => ⟨rfl, trivial⟩, d5 := h.d5, d6 := h.d6, d7 := h.d7, d8 := fun e => absurd (h.d8 e).2.2.2.1 (by rw [hme]; decide), d9 := h.d9, d10 := h.d10, d11 := h.d11, d12 := h.d12, d14 := fun e => absurd (h.d14 e).2.2.2.2.2.1 (by rw [hme]; decide) }
        | 5, hq, _ =>
          have hr := ready_depN hq rfl
          have hme : l5 = false := hr.1
          have hT : l13 = false := by
            cases hc9 : l13 with
            | false => rfl
            | true => exact absurd (h.all hc9).2.2.2.2.2.1 (by rw [hme]; decide)
          have hbel := h.bel hT
          clear hr hq
          refine wpOp_runN rfl rfl (fun K hK => ?_)
          go_simp
          refine hK _ _ ⟨l0, l1, l2, l3, l4, true, l6, l7, l8, l9, l10, l11, l12, l13, l14, _, _, _, _, _, _, _, _, _, _, _, _, _, _, rfl, rfl, ?_⟩
          exact { bel := h.bel, all := fun e => (by rw [hT] at e; cases e), fin := fun e => (by rw [hT] at e; cases e), d0 := h.d0, d1 := h.d1, d2 := h.d2, d3 := h.d3, d4 := h.d4, d5 := fun _ => ⟨rfl, trivial⟩, d6 := fun e => absurd (h.d6 e).2 (by rw [hme]; decide), d7 := h.d7, d8 := h.d8, d9 := h.d9, d10 := h.d10, d11 := h.d11, d12 := h.d12, d14 := fun e => absurd (h.d14 e).2.2.2.2.2.2.1 (by rw [hme]; decide) }
        | 6, hq, _ =>
          have hr := ready_depN hq rfl
          have hme : l6 = false := hr.1
          have e5 : l5 = true := hr.2 ⟨5, .data⟩ (by simp) (by kernel_rfl)
          have hT : l13 = false := by
            cases hc9 : l13 with
            | false => rfl
            | true => exact absurd (h.all hc9).2.2.2.2.2.2.1 (by rw [hme]; decide)
          have hbel := h.bel hT
          obtain rfl := (h.d5 e5).1
          have x3 := HXP.out w3 hbel
          obtain ⟨c0, c1⟩ := x3.cells
          have ch := x3.heap
          have cl := x3.lt
          clear hr hq
          refine wpOp_runN rfl rfl (fun K hK => ?_)
          go_simp
          refine hK _ _ ⟨l0, l1, l2, l3, l4, l5, true, l7, l8, l9, l10, l11, l12, l13, l14, _, _, _, _, _, _, _, _, _, _, _, _, _, _, rfl, rfl, ?_⟩
          exact { bel := h.bel, all := fun e => (by rw [hT] at e; cases e), fin := fun e => (by rw [hT] at e; cases e), d0 := h.d0, d1 := h.d1, d2 := h.d2, d3 := h.d3, d4 := h.d4, d5 := h.d5, d6 := fun _ => ⟨rfl, e5⟩, d7 := fun e => absurd (h.d7 e).2 (by rw [hme]; decide), d8 := h.d8, d9 := h.d9, d10 := h.d10, d11 := h.d11, d12 := h.d12, d14 := fun e => absurd (h.d14 e).2.2.2.2.2.2.2.1 (by rw [hme]; decide) }
        | 7, hq, _ =>
          have hr := ready_depN hq rfl
          have hme : l7 = false := hr.1
          have e6 : l6 = true := hr.2 ⟨6, .data⟩ (by simp) (by kernel_rfl)
          have hT : l13 = false := by
            cases hc9 : l13 with
            | false => rfl
            | true => exact absurd (h.all hc9).2.2.2.2.2.2.2.1 (by rw [hme]; decide)
          have hbel := h.bel hT
          obtain rfl := (h.d6 e6).1
          clear hr hq
          refine wpOp_runN rfl rfl (fun K hK => ?_)
          go_simp
          refine hK _ _ ⟨l0, l1, l2, l3, l4, l5, l6, true, l8, l9, l10, l11, l12, l13, l14, _, _, _, _, _, _, _, _, _, _, _, _, _, _, rfl, rfl, ?_⟩
          exact { bel := h.bel, all := fun e => (by rw [hT] at e; cases e), fin := fun e => (by rw [hT] at e; cases e), d0 := h.d0, d1 := h.d1, d2 := h.d2, d3 := h.d3, d4 := h.d4, d5 := h.d5, d6 := h.d6, d7 := fun _ => ⟨rfl, e6⟩, d8 := fun e => absurd (h.d8 e).2.2.2.2 (by rw [hme]; decide), d9 := h.d9, d10 := h.d10, d11 := h.d11, d12 := h.d12, d14 := fun e => absurd (h.d14 e).2.2.2.2.2.2.2.2.1 (by rw [hme]; decide) }
        | 8, hq, _ =>
          have hr := ready_depN hq rfl
          have hme : l8 = false := hr.1
          have e2 : l2 = true := hr.2 ⟨2, .chain⟩ (by simp) (by kernel_rfl)
          have e3 : l3 = true := hr.2 ⟨3, .data⟩ (by simp) (by kernel_rfl)
          have e4 : l4 = true := hr.2 ⟨4, .data⟩ (by simp) (by kernel_rfl)
          have e7 : l7 = true := hr.2 ⟨7, .data⟩ (by simp) (by kernel_rfl)
          have hT : l13 = false := by
            cases hc9 : l13 with
            | false => rfl
            | true => exact absurd (h.all hc9).2.2.2.2.2.2.2.2.1 (by rw [hme]; decide)
          have hbel := h.bel hT
          obtain rfl := (h.d3 e3).1
          obtain rfl := (h.d4 e4).1
          obtain rfl := (h.d7 e7).1
          clear hr hq
          refine wpOp_runN rfl rfl (fun K hK => ?_)
          go_simp
          go_at_call 52
          refine Calls.mono (G2.out w3 (HBW.out w3 hbel)) ?_
          rintro e w4 ⟨r, rfl, ho, hs4⟩
          have hbel4 := hbel.trans (hs4.mono hbel.size)
          have hnew := rw2_of hbel.size ((h.d2 e2).1 hT) (own_of2 ho)
          refine hK _ _ ⟨l0, l1, l2, l3, l4, l5, l6, l7, true, l9, l10, l11, l12, l13, l14, _, _, _, _, _, _, _, _, _, _, _, _, _, _, rfl, rfl, ?_⟩
          exact { bel := fun _ => hbel4, all := fun e => (by rw [hT] at e; cases e), fin := fun e => (by rw [hT] at e; cases e), d0 := h.d0, d1 := h.d1, d2 := fun e => ⟨fun hx => ((h.d2 e).1 hx).below hs4, (h.d2 e).2⟩, d3 := h.d3, d4 := h.d4, d5 := h.d5, d6 := h.d6, d7 := h.d7, d8 := fun _ => ⟨fun _ => hnew, e2, e3, e4, e7⟩, d9 := fun e => absurd (h.d9 e).2.2 (by rw [hme]; decide), d10 := fun e => absurd (h.d10 e).2.2.1 (by rw [hme]; decide), d11 := fun e => absurd (h.d11 e).2.2.1 (by rw [hme]; decide), d12 := fun e => absurd (h.d12 e).2.2.1 (by rw [hme]; decide), d14 := fun e => absurd (h.d14 e).2.2.2.2.2.2.2.2.2.1 (by rw [hme]; decide) }
        | 9, hq, _ =>
          have hr := ready_depN hq rfl
          have hme : l9 = false := hr.1
          have e2 : l2 = true := hr.2 ⟨2, .data⟩ (by simp) (by kernel_rfl)
          have e8 : l8 = true := hr.2 ⟨8, .data⟩ (by simp) (by kernel_rfl)
          have hT : l13 = false := by
            cases hc9 : l13 with
            | false => rfl
            | true => exact absurd (h.all hc9).2.2.2.2.2.2.2.2.2.1 (by rw [hme]; decide)
          have hbel := h.bel hT
          obtain ⟨u3a, u3n, u3c, rfl⟩ := ((h.d2 e2).1 hT).shape
          obtain ⟨u9a, u9n, u9c, rfl⟩ := ((h.d8 e8).1 hT).shape
          clear hr hq
          refine wpOp_runN rfl rfl (fun K hK => ?_)
          go_simp
          refine hK _ _ ⟨l0, l1, l2, l3, l4, l5, l6, l7, l8, true, l10, l11, l12, l13, l14, _, _, _, _, _, _, _, _, _, _, _, _, _, _, rfl, rfl, ?_⟩
          exact { bel := h.bel, all := fun e => (by rw [hT] at e; cases e), fin := fun e => (by rw [hT] at e; cases e), d0 := h.d0, d1 := h.d1, d2 := h.d2, d3 := h.d3, d4 := h.d4, d5 := h.d5, d6 := h.d6, d7 := h.d7, d8 := h.d8, d9 := fun _ => ⟨rfl, e2, e8⟩, d10 := fun e => absurd (h.d10 e).2.2.2 (by rw [hme]; decide), d11 := h.d11, d12 := h.d12, d14 := fun e => absurd (h.d14 e).2.2.2.2.2.2.2.2.2.2.1 (by rw [hme]; decide) }
        | 10, hq, _ =>
          have hr := ready_depN hq rfl
          have hme : l10 = false := hr.1
          have e8 : l8 = true := hr.2 ⟨8, .chain⟩ (by simp) (by kernel_rfl)
          have e9 : l9 = true := hr.2 ⟨9, .data⟩ (by simp) (by kernel_rfl)
          have e2 : l2 = true := (h.d9 e9).2.1
          have hT : l13 = false := by
            cases hc9 : l13 with
            | false => rfl
            | true => exact absurd (h.all hc9).2.2.2.2.2.2.2.2.2.2.1 (by rw [hme]; decide)
          have hbel := h.bel hT
          obtain rfl := (h.d9 e9).1
          clear hr hq
          refine wpOp_runN rfl rfl (fun K hK => ?_)
          go_simp
          go_at_call 62
          refine Calls.mono (HM.out w3 _ (HBW.out w3 hbel) ⟨_, _, rfl, ((h.d2 e2).1 hT).reads HXL.out, ((h.d8 e8).1 hT).rw.reads HYL.out⟩) ?_
          rintro e w4 ⟨rfl, hs4⟩
          have hbel4 := hbel.trans (hs4.mono hbel.size)
          refine hK _ _ ⟨l0, l1, l2, l3, l4, l5, l6, l7, l8, l9, true, l11, l12, l13, l14, _, _, _, _, _, _, _, _, _, _, _, _, _, _, rfl, rfl, ?_⟩
          exact { bel := fun _ => hbel4, all := fun e => (by rw [hT] at e; cases e), fin := fun e => (by rw [hT] at e; cases e), d0 := h.d0, d1 := h.d1, d2 := fun e => ⟨fun hx => ((h.d2 e).1 hx).below hs4, (h.d2 e).2⟩, d3 := h.d3, d4 := h.d4, d5 := h.d5, d6 := h.d6, d7 := h.d7, d8 := fun e => ⟨fun hx => ((h.d8 e).1 hx).below hs4, (h.d8 e).2⟩, d9 := h.d9, d10 := fun _ => ⟨rfl, e2, e8, e9⟩, d11 := fun e => absurd (h.d11 e).2.2.2 (by rw [hme]; decide), d12 := fun e => absurd (h.d12 e).2.2.2 (by rw [hme]; decide), d14 := fun e => absurd (h.d14 e).2.2.2.2.2.2.2.2.2.2.2.1 (by rw [hme]; decide) }
        | 11, hq, _ =>
          have hr := ready_depN hq rfl
          have hme : l11 = false := hr.1
          have e10 : l10 = true := hr.2 ⟨10, .data⟩ (by simp) (by kernel_rfl)
          have e2 : l2 = true := (h.d10 e10).2.1
          have e8 : l8 = true := (h.d10 e10).2.2.1
          have hT : l13 = false := by
            cases hc9 : l13 with
            | false => rfl
            | true => exact absurd (h.all hc9).2.2.2.2.2.2.2.2.2.2.2.1 (by rw [hme]; decide)
          have hbel := h.bel hT
          obtain rfl := (h.d10 e10).1
          clear hr hq
          refine wpOp_runN rfl rfl (fun K hK => ?_)
          go_simp
          refine hK _ _ ⟨l0, l1, l2, l3, l4, l5, l6, l7, l8, l9, l10, true, l12, l13, l14, _, _, _, _, _, _, _, _, _, _, _, _, _, _, rfl, rfl, ?_⟩
          exact { bel := h.bel, all := fun e => (by rw [hT] at e; cases e), fin := fun e => (by rw [hT] at e; cases e), d0 := h.d0, d1 := h.d1, d2 := h.d2, d3 := h.d3, d4 := h.d4, d5 := h.d5, d6 := h.d6, d7 := h.d7, d8 := h.d8, d9 := h.d9, d10 := h.d10, d11 := fun _ => ⟨rfl, e2, e8, e10⟩, d12 := h.d12, d14 := fun e => absurd (h.d14 e).2.2.2.2.2.2.2.2.2.2.2.2.1 (by rw [hme]; decide) }
        | 12, hq, _ =>
          have hr := ready_depN hq rfl
          have hme : l12 = false := hr.1
          have e10 : l10 = true := hr.2 ⟨10, .data⟩ (by simp) (by kernel_rfl)
          have e2 : l2 = true := (h.d10 e10).2.1
          have e8 : l8 = true := (h.d10 e10).2.2.1
          have hT : l13 = false := by
            cases hc9 : l13 with
            | false => rfl
            | true => exact absurd (h.all hc9).2.2.2.2.2.2.2.2.2.2.2.2 (by rw [hme]; decide)
          have hbel := h.bel hT
          obtain rfl := (h.d10 e10).1
          clear hr hq
          refine wpOp_runN rfl rfl (fun K hK => ?_)
          go_simp
          refine hK _ _ ⟨l0, l1, l2, l3, l4, l5, l6, l7, l8, l9, l10, l11, true, l13, l14, _, _, _, _, _, _, _, _, _, _, _, _, _, _, rfl, rfl, ?_⟩
          exact { bel := h.bel, all := fun e => (by rw [hT] at e; cases e), fin := fun e => (by rw [hT] at e; cases e), d0 := h.d0, d1 := h.d1, d2 := h.d2, d3 := h.d3, d4 := h.d4, d5 := h.d5, d6 := h.d6, d7 := h.d7, d8 := h.d8, d9 := h.d9, d10 := h.d10, d11 := h.d11, d12 := fun _ => ⟨rfl, e2, e8, e10⟩, d14 := fun e => absurd (h.d14 e).2.2.2.2.2.2.2.2.2.2.2.2.2.1 (by rw [hme]; decide) }
        | 13, hq, _ =>
          have hr := ready_depN hq rfl
          have hme : l13 = false := hr.1
          have e0 : l0 = true := hr.2 ⟨0, .phase⟩ (by simp) (by kernel_rfl)
          have e1 : l1 = true := hr.2 ⟨1, .phase⟩ (by simp) (by kernel_rfl)
          have e2 : l2 = true := hr.2 ⟨2, .phase⟩ (by simp) (by kernel_rfl)
          have e3 : l3 = true := hr.2 ⟨3, .phase⟩ (by simp) (by kernel_rfl)
          have e4 : l4 = true := hr.2 ⟨4, .phase⟩ (by simp) (by kernel_rfl)
          have e5 : l5 = true := hr.2 ⟨5, .phase⟩ (by simp) (by kernel_rfl)
          have e6 : l6 = true := hr.2 ⟨6, .phase⟩ (by simp) (by kernel_rfl)
          have e7 : l7 = true := hr.2 ⟨7, .phase⟩ (by simp) (by kernel_rfl)
          have e8 : l8 = true := hr.2 ⟨8, .phase⟩ (by simp) (by kernel_rfl)
          have e9 : l9 = true := hr.2 ⟨9, .phase⟩ (by simp) (by kernel_rfl)
          have e10 : l10 = true := hr.2 ⟨10, .chain⟩ (by simp) (by kernel_rfl)
          have e11 : l11 = true := hr.2 ⟨11, .data⟩ (by simp) (by kernel_rfl)
          have e12 : l12 = true := hr.2 ⟨12, .phase⟩ (by simp) (by kernel_rfl)
          have hbel := h.bel hme
          obtain rfl := (h.d0 e0).1
          obtain rfl := (h.d1 e1).1
          obtain rfl := (h.d3 e3).1
          obtain rfl := (h.d4 e4).1
          obtain rfl := (h.d5 e5).1
          obtain rfl := (h.d6 e6).1
          obtain rfl := (h.d7 e7).1
          obtain rfl := (h.d9 e9).1
          obtain rfl := (h.d10 e10).1
          obtain rfl := (h.d11 e11).1
          obtain rfl := (h.d12 e12).1
          have y3 := HYP.out w3 hbel
          obtain ⟨k0, k1⟩ := y3.cells
          have kh := y3.heap
          have kl := y3.lt
          have kf0 := y3.frozen 0
          have kf1 := y3.frozen 1
          clear hr hq
          have hF2 := (h.d2 e2).1 hme
          have hF8 := (h.d8 e8).1 hme
          refine wpOp_runN rfl rfl (fun K hK => ?_)
          go_simp
          refine hK _ _ ⟨l0, l1, l2, l3, l4, l5, l6, l7, l8, l9, l10, l11, l12, true, l14, _, _, _, _, _, _, _, _, _, _, _, _, _, _, rfl, rfl, ?_⟩
          exact { bel := fun e => (by cases e), all := fun _ => ⟨e0, e1, e2, e3, e4, e5, e6, e7, e8, e9, e10, e11, e12⟩, fin := fun _ => ⟨w3, hbel, rfl, hF2, hF8⟩, d0 := h.d0, d1 := h.d1, d2 := fun e => ⟨fun e9 => (by cases e9), (h.d2 e).2⟩, d3 := h.d3, d4 := h.d4, d5 := h.d5, d6 := h.d6, d7 := h.d7, d8 := fun e => ⟨fun e9 => (by cases e9), (h.d8 e).2⟩, d9 := h.d9, d10 := h.d10, d11 := h.d11, d12 := h.d12, d14 := fun e => absurd (h.d14 e).2.2.2.2.2.2.2.2.2.2.2.2.2.2 (by rw [hme]; decide) }
        | 14, hq, _ =>
          have hr := ready_depN hq rfl
          have hme : l14 = false := hr.1
          have e0 : l0 = true := hr.2 ⟨0, .phase⟩ (by simp) (by kernel_rfl)
          have e1 : l1 = true := hr.2 ⟨1, .phase⟩ (by simp) (by kernel_rfl)
          have e2 : l2 = true := hr.2 ⟨2, .phase⟩ (by simp) (by kernel_rfl)
          have e3 : l3 = true := hr.2 ⟨3, .phase⟩ (by simp) (by kernel_rfl)
          have e4 : l4 = true := hr.2 ⟨4, .phase⟩ (by simp) (by kernel_rfl)
          have e5 : l5 = true := hr.2 ⟨5, .phase⟩ (by simp) (by kernel_rfl)
          have e6 : l6 = true := hr.2 ⟨6, .phase⟩ (by simp) (by kernel_rfl)
          have e7 : l7 = true := hr.2 ⟨7, .phase⟩ (by simp) (by kernel_rfl)
          have e8 : l8 = true := hr.2 ⟨8, .phase⟩ (by simp) (by kernel_rfl)
          have e9 : l9 = true := hr.2 ⟨9, .phase⟩ (by simp) (by kernel_rfl)
          have e10 : l10 = true := hr.2 ⟨10, .phase⟩ (by simp) (by kernel_rfl)
          have e11 : l11 = true := hr.2 ⟨11, .phase⟩ (by simp) (by kernel_rfl)
          have e12 : l12 = true := hr.2 ⟨12, .data⟩ (by simp) (by kernel_rfl)
          have e13 : l13 = true := hr.2 ⟨13, .chain⟩ (by simp) (by kernel_rfl)
          obtain rfl := (h.d0 e0).1
          obtain rfl := (h.d1 e1).1
          obtain rfl := (h.d3 e3).1
          obtain rfl := (h.d4 e4).1
          obtain rfl := (h.d5 e5).1
          obtain rfl := (h.d6 e6).1
          obtain rfl := (h.d7 e7).1
          obtain rfl := (h.d9 e9).1
          obtain rfl := (h.d10 e10).1
          obtain rfl := (h.d11 e11).1
          obtain rfl := (h.d12 e12).1
          clear hr hq
          refine wpOp_runN rfl rfl (fun K hK => ?_)
          go_simp
          refine hK _ _ ⟨l0, l1, l2, l3, l4, l5, l6, l7, l8, l9, l10, l11, l12, l13, true, _, _, _, _, _, _, _, _, _, _, _, _, _, _, rfl, rfl, ?_⟩
          exact { bel := h.bel, all := h.all, fin := h.fin, d0 := h.d0, d1 := h.d1, d2 := h.d2, d3 := h.d3, d4 := h.d4, d5 := h.d5, d6 := h.d6, d7 := h.d7, d8 := h.d8, d9 := h.d9, d10 := h.d10, d11 := h.d11, d12 := h.d12, d14 := fun _ => ⟨rfl, e0, e1, e2, e3, e4, e5, e6, e7, e8, e9, e10, e11, e12, e13⟩ }
        | k + 15, hq, h18 => exact (Nat.not_lt_of_le (Nat.le_add_left 15 k) h18).elim
      case done =>
        rintro lb9 ac9 w3 ⟨l0, l1, l2, l3, l4, l5, l6, l7, l8, l9, l10, l11, l12, l13, l14, s0, s1, s2, s3, s4, s5, s6, s7, s8, s9, s10, s11, s12, s14, rfl, rfl, h⟩ hr
        cases l0
        · exact (ready_none2N hr 0 rfl rfl rfl).elim
        cases l1
        · exact (ready_none2N hr 1 rfl rfl rfl).elim
        cases l2
        · exact (ready_none2N hr 2 rfl rfl rfl).elim
        cases l3
        · exact (ready_none2N hr 3 rfl rfl rfl).elim
        cases l4
        · exact (ready_none2N hr 4 rfl rfl rfl).elim
        cases l5
        · exact (ready_none2N hr 5 rfl rfl rfl).elim
        cases l6
        · exact (ready_none2N hr 6 rfl rfl rfl).elim
        cases l7
        · exact (ready_none2N hr 7 rfl rfl rfl).elim
        cases l8
        · exact (ready_none2N hr 8 rfl rfl rfl).elim
        cases l9
        · exact (ready_none2N hr 9 rfl rfl rfl).elim
        cases l10
        · exact (ready_none2N hr 10 rfl rfl rfl).elim
        cases l11
        · exact (ready_none2N hr 11 rfl rfl rfl).elim
        cases l12
        · exact (ready_none2N hr 12 rfl rfl rfl).elim
        cases l13
        · exact (ready_none2N hr 13 rfl rfl rfl).elim
        cases l14
        · exact (ready_none2N hr 14 rfl rfl rfl).elim
        obtain rfl := (h.d0 rfl).1
        obtain rfl := (h.d1 rfl).1
        obtain rfl := (h.d3 rfl).1
        obtain rfl := (h.d4 rfl).1
        obtain rfl := (h.d5 rfl).1
        obtain rfl := (h.d6 rfl).1
        obtain rfl := (h.d7 rfl).1
        obtain rfl := (h.d9 rfl).1
        obtain rfl := (h.d10 rfl).1
        obtain rfl := (h.d11 rfl).1
        obtain rfl := (h.d12 rfl).1
        obtain rfl := (h.d14 rfl).1
        obtain ⟨w4, hbel, rfl, hF2, hF8⟩ := h.fin rfl
        clear h hr
        have y4 := ((HYP.out w4 hbel).set0 (.slice none 0 0)).set1 (.slice none 0 0)
        have hsz4 := hbel.size
        change w1.heap.size ≤ w4.heap.size at hsz4
        have HOL : Hid (OwnLa ((w4.setCell ⟨w.heap.size + 1, 0, none⟩ (.slice none 0 0)).setCell ⟨w.heap.size + 1, 1, none⟩ (.slice none 0 0)) w.heap.size ((w4.setCell ⟨w.heap.size + 1, 0, none⟩ (.slice none 0 0)).setCell ⟨w.heap.size + 1, 1, none⟩ (.slice none 0 0)).heap.size (.agg #[(.slice none 0 0), (.slice none 0 0)]) ([], [])) := ownLa_nil _ _
        have HBE : Hid (Below w.heap.size w ((w4.setCell ⟨w.heap.size + 1, 0, none⟩ (.slice none 0 0)).setCell ⟨w.heap.size + 1, 1, none⟩ (.slice none 0 0))) := ((HBW.out w4 hbel).setCell (by show w.heap.size ≤ w.heap.size + 1; omega) _).setCell (by show w.heap.size ≤ w.heap.size + 1; omega) _
        have hyh := y4.heap
        clear hF2 hF8
        go_wp2_with fail
        refine bodyPost_ret (results_la rfl _ _ (w.heap.size + 1) 26 _ (0, 0) _ rfl hyh Try.underlying26 rfl (by kernel_rfl)) rfl ?_
        exact ⟨_, rfl, HOL.out, HBE.out⟩
    | true =>
      show Calls _ _ _ _ (fun e w' => ∃ r, e = .returned (.tuple #[r, .bool true]) ∧ OwnLa w' w.heap.size w'.heap.size r (xs, ys) ∧ Below w.heap.size w w')
      go_enter Try.func28, Try.ntmps28
      go_wp2_with fail
      refine g.mono ?_
      clear a0 a1 ah al
      generalize (w.alloc (.cells #[.slice ga gn gc, .slice oa on oc] 26)).alloc (.cells #[.slice none 0 0, .slice none 0 0] 26) = w0 at *
      rintro e w1 ⟨rfl, hs⟩
      have HB1 : Hid (Below w.heap.size w w1) := HB0.out.trans (hs.mono (by omega))
      have y1 := HY0.out.below hs (by omega)
      have x1 := HX0.out.below hs (by omega)
      have hs1 := hs.size
      clear g hs
      obtain ⟨a0, a1⟩ := x1.cells
      have ah := x1.heap
      have al := x1.lt
      have HXP : Hid (∀ w3, Below w1.drew.heap.size w1.drew w3 → Box2 w3 w.heap.size 26 (.slice ga gn gc) (.slice oa on oc)) := fun w3 hb3 => Box2.below (w := w1.drew) ⟨x1.heap⟩ hb3 (by show _ < w1.heap.size; omega)
      have HYP : Hid (∀ w3, Below w1.drew.heap.size w1.drew w3 → Box2 w3 (w.heap.size + 1) 26 (.slice none 0 0) (.slice none 0 0)) := fun w3 hb3 => Box2.below (w := w1.drew) ⟨y1.heap⟩ hb3 (by show _ < w1.heap.size; omega)
      have HBW : Hid (∀ w3, Below w1.drew.heap.size w1.drew w3 → Below w.heap.size w w3) := fun w3 hb3 => HB1.out.drew.trans (hb3.mono (by show w.heap.size ≤ w1.heap.size; omega))
      clear x1 y1 HX0 HY0
      go_wp2_with fail
      refine wp_region_any (by kernel_rfl) ?_
      change wpAny _ _ _ _ _ _ _ (World.drew _)
      refine wpAny_invN (fun lb9 ac9 w' => ∃ (l0 l1 l2 l3 l4 l5 l6 l7 l8 l9 l10 l11 l12 l13 l14 : Bool) (s0 s1 s2 s3 s4 s5 s6 s7 s8 s9 s10 s11 s12 s14 : Value), lb9 = #[l0, l1, l2, l3, l4, l5, l6, l7, l8, l9, l10, l11, l12, l13, l14] ∧ ac9 = { tmps := #[.agg #[.slice ga gn gc, .slice oa on oc], .pointer (some ⟨w.heap.size, 0, none⟩), .pointer (some ⟨w.heap.size + 1, 0, none⟩), s14, .int .i64 N, .agg #[.slice ga gn gc, .slice oa on oc], .bool true, .bool false, undef, .pointer (some ⟨w.heap.size, 0, none⟩), .slice ga gn gc, .int .i64 gn, .int .i64 N, s0, s1, s2, s3, s4, s5, s6, s7, s8, s9, s10, s11, s12], defers := [] } ∧ RegTurnY w1.drew w' w1.drew.heap.size w.heap.size (w.heap.size + 1) ga gn gc oa on oc N xs ys l0 l1 l2 l3 l4 l5 l6 l7 l8 l9 l10 l11 l12 l13 l14 s0 s1 s2 s3 s4 s5 s6 s7 s8 s9 s10 s11 s12 s14) ?done ?step 15 _ _ _ ⟨false, false, false, false, false, false, false, false, false, false, false, false, false, false, false, _, _, _, _, _, _, _, _, _, _, _, _, _, _, rfl, rfl, ?init⟩ (by decide)
      case init => exact { bel := fun _ => Below.refl _ _, all := fun e => (by cases e), fin := fun e => (by cases e), d0 := fun e => (by cases e), d1 := fun e => (by cases e), d2 := fun e => (by cases e), d3 := fun e => (by cases e), d4 := fun e => (by cases e), d5 := fun e => (by cases e), d6 := fun e => (by cases e), d7 := fun e => (by cases e), d8 := fun e => (by cases e), d9 := fun e => (by cases e), d10 := fun e => (by cases e), d11 := fun e => (by cases e), d12 := fun e => (by cases e), d14 := fun e => (by cases e) }
      case step =>
        rintro lb9 ac9 w3 ⟨l0, l1, l2, l3, l4, l5, l6, l7, l8, l9, l10, l11, l12, l13, l14, s0, s1, s2, s3, s4, s5, s6, s7, s8, s9, s10, s11, s12, s14, rfl, rfl, h⟩
        intro q hq
        have hlt9 := ready_ltN hq
        match q, hq, hlt9 with
        | 0, hq, _ =>
          have hr := ready_depN hq rfl
          have hme : l0 = false := hr.1
          have hT : l13 = false := by
            cases hc9 : l13 with
            | false => rfl
            | true => exact absurd (h.all hc9).1 (by rw [hme]; decide)
          have hbel := h.bel hT
          have x3 := HXP.out w3 hbel
          obtain ⟨c0, c1⟩ := x3.cells
          have ch := x3.heap
          have cl := x3.lt
          clear hr hq
          refine wpOp_runN rfl rfl (fun K hK => ?_)
          go_simp
          refine hK _ _ ⟨true, l1, l2, l3, l4, l5, l6, l7, l8, l9, l10, l11, l12, l13, l14, _, _, _, _, _, _, _, _, _, _, _, _, _, _, rfl, rfl, ?_⟩
          exact { bel := h.bel, all := fun e => (by rw [hT] at e; cases e), fin := fun e => (by rw [hT] at e; cases e), d0 := fun _ => ⟨rfl, trivial⟩, d1 := h.d1, d2 := fun e => absurd (h.d2 e).2.1 (by rw [hme]; decide), d3 := h.d3, d4 := h.d4, d5 := h.d5, d6 := h.d6, d7 := h.d7, d8 := h.d8, d9 := h.d9, d10 := h.d10, d11 := h.d11, d12 := h.d12, d14 := fun e => absurd (h.d14 e).2.1 (by rw [hme]; decide) }
        | 1, hq, _ =>
          have hr := ready_depN hq rfl
          have hme : l1 = false := hr.1
          have hT : l13 = false := by
            cases hc9 : l13 with
            | false => rfl
            | true => exact absurd (h.all hc9).2.1 (by rw [hme]; decide)
          have hbel := h.bel hT
          clear hr hq
          refine wpOp_runN rfl rfl (fun K hK => ?_)
          go_simp
          refine hK _ _ ⟨l0, true, l2, l3, l4, l5, l6, l7, l8, l9, l10, l11, l12, l13, l14, _, _, _, _, _, _, _, _, _, _, _, _, _, _, rfl, rfl, ?_⟩
          exact { bel := h.bel, all := fun e => (by rw [hT] at e; cases e), fin := fun e => (by rw [hT] at e; cases e), d0 := h.d0, d1 := fun _ => ⟨rfl, trivial⟩, d2 := fun e => absurd (h.d2 e).2.2 (by rw [hme]; decide), d3 := h.d3, d4 := h.d4, d5 := h.d5, d6 := h.d6, d7 := h.d7, d8 := h.d8, d9 := h.d9, d10 := h.d10, d11 := h.d11, d12 := h.d12, d14 := fun e => absurd (h.d14 e).2.2.1 (by rw [hme]; decide) }
        | 2, hq, _ =>
          have hr := ready_depN hq rfl
          have hme : l2 = false := hr.1
          have e0 : l0 = true := hr.2 ⟨0, .data⟩ (by simp) (by kernel_rfl)
          have e1 : l1 = true := hr.2 ⟨1, .data⟩ (by simp) (by kernel_rfl)
          have hT : l13 = false := by
            cases hc9 : l13 with
            | false => rfl
            | true => exact absurd (h.all hc9).2.2.1 (by rw [hme]; decide)
          have hbel := h.bel hT
          obtain rfl := (h.d0 e0).1
          obtain rfl := (h.d1 e1).1
          clear hr hq
          refine wpOp_runN rfl rfl (fun K hK => ?_)
          go_simp
          go_at_call 52
          refine Calls.mono (G1.out w3 (HBW.out w3 hbel)) ?_
          rintro e w4 ⟨r, rfl, ho, hs4⟩
          have hbel4 := hbel.trans (hs4.mono hbel.size)
          have hnew := rw_of hbel.size (own_of2 ho)
          refine hK _ _ ⟨l0, l1, true, l3, l4, l5, l6, l7, l8, l9, l10, l11, l12, l13, l14, _, _, _, _, _, _, _, _, _, _, _, _, _, _, rfl, rfl, ?_⟩
          exact { bel := fun _ => hbel4, all := fun e => (by rw [hT] at e; cases e), fin := fun e => (by rw [hT] at e; cases e), d0 := h.d0, d1 := h.d1, d2 := fun _ => ⟨fun _ => hnew, e0, e1⟩, d3 := h.d3, d4 := h.d4, d5 := h.d5, d6 := h.d6, d7 := h.d7, d8 := fun e => absurd (h.d8 e).2.1 (by rw [hme]; decide), d9 := fun e => absurd (h.d9 e).2.1 (by rw [hme]; decide), d10 := fun e => absurd (h.d10 e).2.1 (by rw [hme]; decide), d11 := fun e => absurd (h.d11 e).2.1 (by rw [hme]; decide), d12 := fun e => absurd (h.d12 e).2.1 (by rw [hme]; decide), d14 := fun e => absurd (h.d14 e).2.2.2.1 (by rw [hme]; decide) }
        | 3, hq, _ =>
          have hr := ready_depN hq rfl
          have hme : l3 = false := hr.1
          have hT : l13 = false := by
            cases hc9 : l13 with
            | false => rfl
            | true => exact absurd (h.all hc9).2.2.2.1 (by rw [hme]; decide)
          have hbel := h.bel hT
          have x3 := HXP.out w3 hbel
          obtain ⟨c0, c1⟩ := x3.cells
          have ch := x3.heap
          have cl := x3.lt
          clear hr hq
          refine wpOp_runN rfl rfl (fun K hK => ?_)
          go_simp
          refine hK _ _ ⟨l0, l1, l2, true, l4, l5, l6, l7, l8, l9, l10, l11, l12, l13, l14, _, _, _, _, _, _, _, _, _, _, _, _, _, _, rfl, rfl, ?_⟩
          exact { bel := h.bel, all := fun e => (by rw [hT] at e; cases e), fin := fun e => (by rw [hT] at e; cases e), d0 := h.d0, d1 := h.d1, d2 := h.d2, d3 := fun _ => ⟨rfl, trivial⟩, d4 := h.d4, d5 := h.d5, d6 := h.d6, d7 := h.d7, d8 := fun e => absurd (h.d8 e).2.2.1 (by rw [hme]; decide), d9 := h.d9, d10 := h.d10, d11 := h.d11, d12 := h.d12, d14 := fun e => absurd (h.d14 e).2.2.2.2.1 (by rw [hme]; decide) }
        | 4, hq, _ =>
          have hr := ready_depN hq rfl
          have hme : l4 = false := hr.1
          have hT : l13 = false := by
            cases hc9 : l13 with
            | false => rfl
            | true => exact absurd (h.all hc9).2.2.2.2.1 (by rw [hme]; decide)
          have hbel := h.bel hT
          clear hr hq
          refine wpOp_runN rfl rfl (fun K hK => ?_)
          go_simp
          refine hK _ _ ⟨l0, l1, l2, l3, true, l5, l6, l7, l8, l9, l10, l11, l12, l13, l14, _, _, _, _, _, _, _, _, _, _, _, _, _, _, rfl, rfl, ?_⟩
          exact { bel := h.bel, all := fun e => (by rw [hT] at e; cases e), fin := fun e => (by rw [hT] at e; cases e), d0 := h.d0, d1 := h.d1, d2 := h.d2, d3 := h.d3, d4 := fun _ => ⟨rfl, trivial⟩, d5 := h.d5, d6 := h.d6, d7 := h.d7, d8 := fun e => absurd (h.d8 e).2.2.2.1 (by rw [hme]; decide), d9 := h.d9, d10 := h.d10, d11 := h.d11, d12 := h.d12, d14 := fun e => absurd (h.d14 e).2.2.2.2.2.1 (by rw [hme]; decide) }
        | 5, hq, _ =>
          have hr := ready_depN hq rfl
          have hme : l5 = false := hr.1
          have hT : l13 = false := by
            cases hc9 : l13 with
            | false => rfl
            | true => exact absurd (h.all hc9).2.2.2.2.2.1 (by rw [hme]; decide)
          have hbel := h.bel hT
          clear hr hq
          refine wpOp_runN rfl rfl (fun K hK => ?_)
          go_simp
          refine hK _ _ ⟨l0, l1, l2, l3, l4, true, l6, l7, l8, l9, l10, l11, l12, l13, l14, _, _, _, _, _, _, _, _, _, _, _, _, _, _, rfl, rfl, ?_⟩
          exact { bel := h.bel, all := fun e => (by rw [hT] at e; cases e), fin := fun e => (by rw [hT] at e; cases e), d0 := h.d0, d1 := h.d1, d2 := h.d2, d3 := h.d3, d4 := h.d4, d5 := fun _ => ⟨rfl, trivial⟩, d6 := fun e => absurd (h.d6 e).2 (by rw [hme]; decide), d7 := h.d7, d8 := h.d8, d9 := h.d9, d10 := h.d10, d11 := h.d11, d12 := h.d12, d14 := fun e => absurd (h.d14 e).2.2.2.2.2.2.1 (by rw [hme]; decide) }
        | 6, hq, _ =>
          have hr := ready_depN hq rfl
          have hme : l6 = false := hr.1
          have e5 : l5 = true := hr.2 ⟨5, .data⟩ (by simp) (by kernel_rfl)
          have hT : l13 = false := by
            cases hc9 : l13 with
            | false => rfl
            | true => exact absurd (h.all hc9).2.2.2.2.2.2.1 (by rw [hme]; decide)
          have hbel := h.bel hT
          obtain rfl := (h.d5 e5).1
          have x3 := HXP.out w3 hbel
          obtain ⟨c0, c1⟩ := x3.cells
          have ch := x3.heap
          have cl := x3.lt
          clear hr hq
          refine wpOp_runN rfl rfl (fun K hK => ?_)
          go_simp
          refine hK _ _ ⟨l0, l1, l2, l3, l4, l5, true, l7, l8, l9, l10, l11, l12, l13, l14, _, _, _, _, _, _, _, _, _, _, _, _, _, _, rfl, rfl, ?_⟩
          exact { bel := h.bel, all := fun e => (by rw [hT] at e; cases e), fin := fun e => (by rw [hT] at e; cases e), d0 := h.d0, d1 := h.d1, d2 := h.d2, d3 := h.d3, d4 := h.d4, d5 := h.d5, d6 := fun _ => ⟨rfl, e5⟩, d7 := fun e => absurd (h.d7 e).2 (by rw [hme]; decide), d8 := h.d8, d9 := h.d9, d10 := h.d10, d11 := h.d11, d12 := h.d12, d14 := fun e => absurd (h.d14 e).2.2.2.2.2.2.2.1 (by rw [hme]; decide) }
        | 7, hq, _ =>
          have hr := ready_depN hq rfl
          have hme : l7 = false := hr.1
          have e6 : l6 = true := hr.2 ⟨6, .data⟩ (by simp) (by kernel_rfl)
          have hT : l13 = false := by
            cases hc9 : l13 with
            | false => rfl
            | true => exact absurd (h.all hc9).2.2.2.2.2.2.2.1 (by rw [hme]; decide)
          have hbel := h.bel hT
          obtain rfl := (h.d6 e6).1
          clear hr hq
          refine wpOp_runN rfl rfl (fun K hK => ?_)
          go_simp
          refine hK _ _ ⟨l0, l1, l2, l3, l4, l5, l6, true, l8, l9, l10, l11, l12, l13, l14, _, _, _, _, _, _, _, _, _, _, _, _, _, _, rfl, rfl, ?_⟩
          exact { bel := h.bel, all := fun e => (by rw [hT] at e; cases e), fin := fun e => (by rw [hT] at e; cases e), d0 := h.d0, d1 := h.d1, d2 := h.d2, d3 := h.d3, d4 := h.d4, d5 := h.d5, d6 := h.d6, d7 := fun _ => ⟨rfl, e6⟩, d8 := fun e => absurd (h.d8 e).2.2.2.2 (by rw [hme]; decide), d9 := h.d9, d10 := h.d10, d11 := h.d11, d12 := h.d12, d14 := fun e => absurd (h.d14 e).2.2.2.2.2.2.2.2.1 (by rw [hme]; decide) }
        | 8, hq, _ =>
          have hr := ready_depN hq rfl
          have hme : l8 = false := hr.1
          have e2 : l2 = true := hr.2 ⟨2, .chain⟩ (by simp) (by kernel_rfl)
          have e3 : l3 = true := hr.2 ⟨3, .data⟩ (by simp) (by kernel_rfl)
          have e4 : l4 = true := hr.2 ⟨4, .data⟩ (by simp) (by kernel_rfl)
          have e7 : l7 = true := hr.2 ⟨7, .data⟩ (by simp) (by kernel_rfl)
          have hT : l13 = false := by
            cases hc9 : l13 with
            | false => rfl
            | true => exact absurd (h.all hc9).2.2.2.2.2.2.2.2.1 (by rw [hme]; decide)
          have hbel := h.bel hT
          obtain rfl := (h.d3 e3).1
          obtain rfl := (h.d4 e4).1
          obtain rfl := (h.d7 e7).1
          clear hr hq
          refine wpOp_runN rfl rfl (fun K hK => ?_)
          go_simp
          go_at_call 52
          refine Calls.mono (G2.out w3 (HBW.out w3 hbel)) ?_
          rintro e w4 ⟨r, rfl, ho, hs4⟩
          have hbel4 := hbel.trans (hs4.mono hbel.size)
          have hnew := rw2_of hbel.size ((h.d2 e2).1 hT) (own_of2 ho)
          refine hK _ _ ⟨l0, l1, l2, l3, l4, l5, l6, l7, true, l9, l10, l11, l12, l13, l14, _, _, _, _, _, _, _, _, _, _, _, _, _, _, rfl, rfl, ?_⟩
          exact { bel := fun _ => hbel4, all := fun e => (by rw [hT] at e; cases e), fin := fun e => (by rw [hT] at e; cases e), d0 := h.d0, d1 := h.d1, d2 := fun e => ⟨fun hx => ((h.d2 e).1 hx).below hs4, (h.d2 e).2⟩, d3 := h.d3, d4 := h.d4, d5 := h.d5, d6 := h.d6, d7 := h.d7, d8 := fun _ => ⟨fun _ => hnew, e2, e3, e4, e7⟩, d9 := fun e => absurd (h.d9 e).2.2 (by rw [hme]; decide), d10 := fun e => absurd (h.d10 e).2.2.1 (by rw [hme]; decide), d11 := fun e => absurd (h.d11 e).2.2.1 (by rw [hme]; decide), d12 := fun e => absurd (h.d12 e).2.2.1 (by rw [hme]; decide), d14 := fun e => absurd (h.d14 e).2.2.2.2.2.2.2.2.2.1 (by rw [hme]; decide) }
        | 9, hq, _ =>
          have hr := ready_depN hq rfl
          have hme : l9 = false := hr.1
          have e2 : l2 = true := hr.2 ⟨2, .data⟩ (by simp) (by kernel_rfl)
          have e8 : l8 = true := hr.2 ⟨8, .data⟩ (by simp) (by kernel_rfl)
          have hT : l13 = false := by
            cases hc9 : l13 with
            | false => rfl
            | true => exact absurd (h.all hc9).2.2.2.2.2.2.2.2.2.1 (by rw [hme]; decide)
          have hbel := h.bel hT
          obtain ⟨u3a, u3n, u3c, rfl⟩ := ((h.d2 e2).1 hT).shape
          obtain ⟨u9a, u9n, u9c, rfl⟩ := ((h.d8 e8).1 hT).shape
          clear hr hq
          refine wpOp_runN rfl rfl (fun K hK => ?_)
          go_simp
          refine hK _ _ ⟨l0, l1, l2, l3, l4, l5, l6, l7, l8, true, l10, l11, l12, l13, l14, _, _, _, _, _, _, _, _, _, _, _, _, _, _, rfl, rfl, ?_⟩
          exact { bel := h.bel, all := fun e => (by rw [hT] at e; cases e), fin := fun e => (by rw [hT] at e; cases e), d0 := h.d0, d1 := h.d1, d2 := h.d2, d3 := h.d3, d4 := h.d4, d5 := h.d5, d6 := h.d6, d7 := h.d7, d8 := h.d8, d9 := fun _ => ⟨rfl, e2, e8⟩, d10 := fun e => absurd (h.d10 e).2.2.2 (by rw [hme]; decide), d11 := h.d11, d12 := h.d12, d14 := fun e => absurd (h.d14 e).2.2.2.2.2.2.2.2.2.2.1 (by rw [hme]; decide) }
        | 10, hq, _ =>
          have hr := ready_depN hq rfl
          have hme : l10 = false := hr.1
          have e8 : l8 = true := hr.2 ⟨8, .chain⟩ (by simp) (by kernel_rfl)
          have e9 : l9 = true := hr.2 ⟨9, .data⟩ (by simp) (by kernel_rfl)
          have e2 : l2 = true := (h.d9 e9).2.1
          have hT : l13 = false := by
            cases hc9 : l13 with
            | false => rfl
            | true => exact absurd (h.all hc9).2.2.2.2.2.2.2.2.2.2.1 (by rw [hme]; decide)
          have hbel := h.bel hT
          obtain rfl := (h.d9 e9).1
          clear hr hq
          refine wpOp_runN rfl rfl (fun K hK => ?_)
          go_simp
          go_at_call 62
          refine Calls.mono (HM.out w3 _ (HBW.out w3 hbel) ⟨_, _, rfl, ((h.d2 e2).1 hT).reads HXL.out, ((h.d8 e8).1 hT).rw.reads HYL.out⟩) ?_
          rintro e w4 ⟨rfl, hs4⟩
          have hbel4 := hbel.trans (hs4.mono hbel.size)
          refine hK _ _ ⟨l0, l1, l2, l3, l4, l5, l6, l7, l8, l9, true, l11, l12, l13, l14, _, _, _, _, _, _, _, _, _, _, _, _, _, _, rfl, rfl, ?_⟩
          exact { bel := fun _ => hbel4, all := fun e => (by rw [hT] at e; cases e), fin := fun e => (by rw [hT] at e; cases e), d0 := h.d0, d1 := h.d1, d2 := fun e => ⟨fun hx => ((h.d2 e).1 hx).below hs4, (h.d2 e).2⟩, d3 := h.d3, d4 := h.d4, d5 := h.d5, d6 := h.d6, d7 := h.d7, d8 := fun e => ⟨fun hx => ((h.d8 e).1 hx).below hs4, (h.d8 e).2⟩, d9 := h.d9, d10 := fun _ => ⟨rfl, e2, e8, e9⟩, d11 := fun e => absurd (h.d11 e).2.2.2 (by rw [hme]; decide), d12 := fun e => absurd (h.d12 e).2.2.2 (by rw [hme]; decide), d14 := fun e => absurd (h.d14 e).2.2.2.2.2.2.2.2.2.2.2.1 (by rw [hme]; decide) }
        | 11, hq, _ =>
          have hr := ready_depN hq rfl
          have hme : l11 = false := hr.1
          have e10 : l10 = true := hr.2 ⟨10, .data⟩ (by simp) (by kernel_rfl)
          have e2 : l2 = true := (h.d10 e10).2.1
          have e8 : l8 = true := (h.d10 e10).2.2.1
          have hT : l13 = false := by
            cases hc9 : l13 with
            | false => rfl
            | true => exact absurd (h.all hc9).2.2.2.2.2.2.2.2.2.2.2.1 (by rw [hme]; decide)
          have hbel := h.bel hT
          obtain rfl := (h.d10 e10).1
          clear hr hq
          refine wpOp_runN rfl rfl (fun K hK => ?_)
          go_simp
          refine hK _ _ ⟨l0, l1, l2, l3, l4, l5, l6, l7, l8, l9, l10, true, l12, l13, l14, _, _, _, _, _, _, _, _, _, _, _, _, _, _, rfl, rfl, ?_⟩
          exact { bel := h.bel, all := fun e => (by rw [hT] at e; cases e), fin := fun e => (by rw [hT] at e; cases e), d0 := h.d0, d1 := h.d1, d2 := h.d2, d3 := h.d3, d4 := h.d4, d5 := h.d5, d6 := h.d6, d7 := h.d7, d8 := h.d8, d9 := h.d9, d10 := h.d10, d11 := fun _ => ⟨rfl, e2, e8, e10⟩, d12 := h.d12, d14 := fun e => absurd (h.d14 e).2.2.2.2.2.2.2.2.2.2.2.2.1 (by rw [hme]; decide) }
        | 12, hq, _ =>
          have hr := ready_depN hq rfl
          have hme : l12 = false := hr.1
          have e10 : l10 = true := hr.2 ⟨10, .data⟩ (by simp) (by kernel_rfl)
          have e2 : l2 = true := (h.d10 e10).2.1
          have e8 : l8 = true := (h.d10 e10).2.2.1
          have hT : l13 = false := by
            cases hc9 : l13 with
            | false => rfl
            | true => exact absurd (h.all hc9).2.2.2.2.2.2.2.2.2.2.2.2 (by rw [hme]; decide)
          have hbel := h.bel hT
          obtain rfl := (h.d10 e10).1
          clear hr hq
          refine wpOp_runN rfl rfl (fun K hK => ?_)
          go_simp
          refine hK _ _ ⟨l0, l1, l2, l3, l4, l5, l6, l7, l8, l9, l10, l11, true, l13, l14, _, _, _, _, _, _, _, _, _, _, _, _, _, _, rfl, rfl, ?_⟩
          exact { bel := h.bel, all := fun e => (by rw [hT] at e; cases e), fin := fun e => (by rw [hT] at e; cases e), d0 := h.d0, d1 := h.d1, d2 := h.d2, d3 := h.d3, d4 := h.d4, d5 := h.d5, d6 := h.d6, d7 := h.d7, d8 := h.d8, d9 := h.d9, d10 := h.d10, d11 := h.d11, d12 := fun _ => ⟨rfl, e2, e8, e10⟩, d14 := fun e => absurd (h.d14 e).2.2.2.2.2.2.2.2.2.2.2.2.2.1 (by rw [hme]; decide) }
        | 13, hq, _ =>
          have hr := ready_depN hq rfl
          have hme : l13 = false := hr.1
          have e0 : l0 = true := hr.2 ⟨0, .phase⟩ (by simp) (by kernel_rfl)
          have e1 : l1 = true := hr.2 ⟨1, .phase⟩ (by simp) (by kernel_rfl)
          have e2 : l2 = true := hr.2 ⟨2, .phase⟩ (by simp) (by kernel_rfl)
          have e3 : l3 = true := hr.2 ⟨3, .phase⟩ (by simp) (by kernel_rfl)
          have e4 : l4 = true := hr.2 ⟨4, .phase⟩ (by simp) (by kernel_rfl)
          have e5 : l5 = true := hr.2 ⟨5, .phase⟩ (by simp) (by kernel_rfl)
          have e6 : l6 = true := hr.2 ⟨6, .phase⟩ (by simp) (by kernel_rfl)
          have e7 : l7 = true := hr.2 ⟨7, .phase⟩ (by simp) (by kernel_rfl)
          have e8 : l8 = true := hr.2 ⟨8, .phase⟩ (by simp) (by kernel_rfl)
          have e9 : l9 = true := hr.2 ⟨9, .phase⟩ (by simp) (by kernel_rfl)
          have e10 : l10 = true := hr.2 ⟨10, .chain⟩ (by simp) (by kernel_rfl)
          have e11 : l11 = true := hr.2 ⟨11, .data⟩ (by simp) (by kernel_rfl)
          have e12 : l12 = true := hr.2 ⟨12, .phase⟩ (by simp) (by kernel_rfl)
          have hbel := h.bel hme
          obtain rfl := (h.d0 e0).1
          obtain rfl := (h.d1 e1).1
          obtain rfl := (h.d3 e3).1
          obtain rfl := (h.d4 e4).1
          obtain rfl := (h.d5 e5).1
          obtain rfl := (h.d6 e6).1
          obtain rfl := (h.d7 e7).1
          obtain rfl := (h.d9 e9).1
          obtain rfl := (h.d10 e10).1
          obtain rfl := (h.d11 e11).1
          obtain rfl := (h.d12 e12).1
          have y3 := HYP.out w3 hbel
          obtain ⟨k0, k1⟩ := y3.cells
          have kh := y3.heap
          have kl := y3.lt
          have kf0 := y3.frozen 0
          have kf1 := y3.frozen 1
          clear hr hq
          have hF2 := (h.d2 e2).1 hme
          have hF8 := (h.d8 e8).1 hme
          refine wpOp_runN rfl rfl (fun K hK => ?_)
          obtain ⟨u3a, u3n, u3c, rfl⟩ := hF2.shape
          obtain ⟨u9a, u9n, u9c, rfl⟩ := hF8.shape
          go_simp
          refine hK _ _ ⟨l0, l1, l2, l3, l4, l5, l6, l7, l8, l9, l10, l11, l12, true, l14, _, _, _, _, _, _, _, _, _, _, _, _, _, _, rfl, rfl, ?_⟩
          exact { bel := fun e => (by cases e), all := fun _ => ⟨e0, e1, e2, e3, e4, e5, e6, e7, e8, e9, e10, e11, e12⟩, fin := fun _ => ⟨w3, hbel, rfl, hF2, hF8⟩, d0 := h.d0, d1 := h.d1, d2 := fun e => ⟨fun e9 => (by cases e9), (h.d2 e).2⟩, d3 := h.d3, d4 := h.d4, d5 := h.d5, d6 := h.d6, d7 := h.d7, d8 := fun e => ⟨fun e9 => (by cases e9), (h.d8 e).2⟩, d9 := h.d9, d10 := h.d10, d11 := h.d11, d12 := h.d12, d14 := fun e => absurd (h.d14 e).2.2.2.2.2.2.2.2.2.2.2.2.2.2 (by rw [hme]; decide) }
        | 14, hq, _ =>
          have hr := ready_depN hq rfl
          have hme : l14 = false := hr.1
          have e0 : l0 = true := hr.2 ⟨0, .phase⟩ (by simp) (by kernel_rfl)
          have e1 : l1 = true := hr.2 ⟨1, .phase⟩ (by simp) (by kernel_rfl)
          have e2 : l2 = true := hr.2 ⟨2, .phase⟩ (by simp) (by kernel_rfl)
          have e3 : l3 = true := hr.2 ⟨3, .phase⟩ (by simp) (by kernel_rfl)
          have e4 : l4 = true := hr.2 ⟨4, .phase⟩ (by simp) (by kernel_rfl)
          have e5 : l5 = true := hr.2 ⟨5, .phase⟩ (by simp) (by kernel_rfl)
          have e6 : l6 = true := hr.2 ⟨6, .phase⟩ (by simp) (by kernel_rfl)
          have e7 : l7 = true := hr.2 ⟨7, .phase⟩ (by simp) (by kernel_rfl)
          have e8 : l8 = true := hr.2 ⟨8, .phase⟩ (by simp) (by kernel_rfl)
          have e9 : l9 = true := hr.2 ⟨9, .phase⟩ (by simp) (by kernel_rfl)
          have e10 : l10 = true := hr.2 ⟨10, .phase⟩ (by simp) (by kernel_rfl)
          have e11 : l11 = true := hr.2 ⟨11, .phase⟩ (by simp) (by kernel_rfl)
          have e12 : l12 = true := hr.2 ⟨12, .data⟩ (by simp) (by kernel_rfl)
          have e13 : l13 = true := hr.2 ⟨13, .chain⟩ (by simp) (by kernel_rfl)
          obtain rfl := (h.d0 e0).1
          obtain rfl := (h.d1 e1).1
          obtain rfl := (h.d3 e3).1
          obtain rfl := (h.d4 e4).1
          obtain rfl := (h.d5 e5).1
          obtain rfl := (h.d6 e6).1
          obtain rfl := (h.d7 e7).1
          obtain rfl := (h.d9 e9).1
          obtain rfl := (h.d10 e10).1
          obtain rfl := (h.d11 e11).1
          obtain rfl := (h.d12 e12).1
          clear hr hq
          refine wpOp_runN rfl rfl (fun K hK => ?_)
          go_simp
          refine hK _ _ ⟨l0, l1, l2, l3, l4, l5, l6, l7, l8, l9, l10, l11, l12, l13, true, _, _, _, _, _, _, _, _, _, _, _, _, _, _, rfl, rfl, ?_⟩
          exact { bel := h.bel, all := h.all, fin := h.fin, d0 := h.d0, d1 := h.d1, d2 := h.d2, d3 := h.d3, d4 := h.d4, d5 := h.d5, d6 := h.d6, d7 := h.d7, d8 := h.d8, d9 := h.d9, d10 := h.d10, d11 := h.d11, d12 := h.d12, d14 := fun _ => ⟨rfl, e0, e1, e2, e3, e4, e5, e6, e7, e8, e9, e10, e11, e12, e13⟩ }
        | k + 15, hq, h18 => exact (Nat.not_lt_of_le (Nat.le_add_left 15 k) h18).elim
      case done =>
        rintro lb9 ac9 w3 ⟨l0, l1, l2, l3, l4, l5, l6, l7, l8, l9, l10, l11, l12, l13, l14, s0, s1, s2, s3, s4, s5, s6, s7, s8, s9, s10, s11, s12, s14, rfl, rfl, h⟩ hr
        cases l0
        · exact (ready_none2N hr 0 rfl rfl rfl).elim
        cases l1
        · exact (ready_none2N hr 1 rfl rfl rfl).elim
        cases l2
        · exact (ready_none2N hr 2 rfl rfl rfl).elim
        cases l3
        · exact (ready_none2N hr 3 rfl rfl rfl).elim
        cases l4
        · exact (ready_none2N hr 4 rfl rfl rfl).elim
        cases l5
        · exact (ready_none2N hr 5 rfl rfl rfl).elim
        cases l6
        · exact (ready_none2N hr 6 rfl rfl rfl).elim
        cases l7
        · exact (ready_none2N hr 7 rfl rfl rfl).elim
        cases l8
        · exact (ready_none2N hr 8 rfl rfl rfl).elim
        cases l9
        · exact (ready_none2N hr 9 rfl rfl rfl).elim
        cases l10
        · exact (ready_none2N hr 10 rfl rfl rfl).elim
        cases l11
        · exact (ready_none2N hr 11 rfl rfl rfl).elim
        cases l12
        · exact (ready_none2N hr 12 rfl rfl rfl).elim
        cases l13
        · exact (ready_none2N hr 13 rfl rfl rfl).elim
        cases l14
        · exact (ready_none2N hr 14 rfl rfl rfl).elim
        obtain rfl := (h.d0 rfl).1
        obtain rfl := (h.d1 rfl).1
        obtain rfl := (h.d3 rfl).1
        obtain rfl := (h.d4 rfl).1
        obtain rfl := (h.d5 rfl).1
        obtain rfl := (h.d6 rfl).1
        obtain rfl := (h.d7 rfl).1
        obtain rfl := (h.d9 rfl).1
        obtain rfl := (h.d10 rfl).1
        obtain rfl := (h.d11 rfl).1
        obtain rfl := (h.d12 rfl).1
        obtain rfl := (h.d14 rfl).1
        obtain ⟨w4, hbel, rfl, hF2, hF8⟩ := h.fin rfl
        clear h hr
        obtain ⟨u3a, u3n, u3c, rfl⟩ := hF2.shape
        obtain ⟨u9a, u9n, u9c, rfl⟩ := hF8.shape
        have y4 := ((HYP.out w4 hbel).set0 (.slice u3a u3n u3c)).set1 (.slice u9a u9n u9c)
        have hsz4 := hbel.size
        change w1.heap.size ≤ w4.heap.size at hsz4
        have HOL : Hid (OwnLa ((w4.setCell ⟨w.heap.size + 1, 0, none⟩ (.slice u3a u3n u3c)).setCell ⟨w.heap.size + 1, 1, none⟩ (.slice u9a u9n u9c)) w.heap.size ((w4.setCell ⟨w.heap.size + 1, 0, none⟩ (.slice u3a u3n u3c)).setCell ⟨w.heap.size + 1, 1, none⟩ (.slice u9a u9n u9c)).heap.size (.agg #[(.slice u3a u3n u3c), (.slice u9a u9n u9c)]) (xs, ys)) := (((ownLa_rw hF2 hF8).setO (b := w.heap.size + 1) (o := 0) (x := (.slice u3a u3n u3c)) (Or.inl (by show _ < w1.heap.size; omega))).setO (b := w.heap.size + 1) (o := 1) (x := (.slice u9a u9n u9c)) (Or.inl (by show _ < w1.heap.size; omega))).weak (by show w.heap.size ≤ w1.heap.size; omega) (by rw [size_set, size_set]; exact Nat.le_refl _) (Nat.le_refl _)
        have HBE : Hid (Below w.heap.size w ((w4.setCell ⟨w.heap.size + 1, 0, none⟩ (.slice u3a u3n u3c)).setCell ⟨w.heap.size + 1, 1, none⟩ (.slice u9a u9n u9c))) := ((HBW.out w4 hbel).setCell (by show w.heap.size ≤ w.heap.size + 1; omega) _).setCell (by show w.heap.size ≤ w.heap.size + 1; omega) _
        have hyh := y4.heap
        clear hF2 hF8
        go_wp2_with fail
        refine bodyPost_ret (results_la rfl _ _ (w.heap.size + 1) 26 _ (0, 0) _ rfl hyh Try.underlying26 rfl (by kernel_rfl)) rfl ?_
        exact ⟨_, rfl, HOL.out, HBE.out⟩
end Go.Proofs.Ythamdefkcjfjpaa
