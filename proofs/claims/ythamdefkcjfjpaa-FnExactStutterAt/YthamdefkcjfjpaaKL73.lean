/-
  The model's StutterAt.
-/
import Derived.Test.YthamdefkcjfjpaaKL71
import Derived.Test.YthamdefkcjfjpaaKL72
namespace Go.Proofs.Ythamdefkcjfjpaa
open Go Go.RowKit
open M
set_option linter.unusedVariables false
set_option linter.unusedSimpArgs false

/-- a row of one number that a region has laid -/
def One (B : Nat) (w : World) (s : Value) (X : Int) : Prop := ∃ g : Nat, s = .slice (some ⟨g, 0, none⟩) 1 1 ∧ B ≤ g ∧ g < w.heap.size ∧ ∀ (j : Nat) (u : Value), [Value.int .i64 X][j]? = some u → w.cell? ((⟨g, 0, none⟩ : Addr).add j) = some u
theorem One.below {B : Nat} {w w' : World} {s : Value} {X : Int} (h : One B w s X) (hb : Below w.heap.size w w') : One B w' s X := by
  obtain ⟨g, h1, h2, h3, h4⟩ := h
  refine ⟨g, h1, h2, Nat.lt_of_lt_of_le h3 hb.size, fun j u hu => ?_⟩
  have h5 := h4 j u hu
  rw [add_eq] at h5 ⊢
  rw [hb.cell (p := ⟨g, 0 + j, none⟩) h3]
  exact h5
theorem own2_snoc {w : World} {B : Nat} {v : Value} {xs : List Int} {X : Int} (h : w.ownsRow B 3 1 v (xs.length + 1) (cellsI xs ++ [.int .i64 X])) : OwnInts2 w B v (xs ++ [X]) := by
  have e2 : cellsI (xs ++ [X]) = cellsI xs ++ [.int .i64 X] := by simp [cellsI]
  unfold OwnInts2
  rw [e2, List.length_append]
  exact h
theorem own2_app {w : World} {B m : Nat} {v : Value} {xs ys : List Int} (hm : ys.length = m) (h : w.ownsRow B 3 1 v (xs.length + m) (cellsI xs ++ cellsI ys)) : OwnInts2 w B v (xs ++ ys) := by
  have e2 : cellsI (xs ++ ys) = cellsI xs ++ cellsI ys := by simp [cellsI]
  unfold OwnInts2
  rw [e2, List.length_append, hm]
  exact h
structure RegSt3 (W w' : World) (B : Nat) (ga : Option Addr) (gn gc : Nat) (oa : Option Addr) (on oc n : Nat) (X : Int) (xs : List Int) (l0 l1 l2 l3 l4 l5 l6 l7 l8 : Bool) (s0 s1 s2 s3 s4 s5 s6 s7 s8 : Value) : Prop where
  (bel : Below W.heap.size W w')
  (d0 : l0 = true → s0 = .agg #[.slice ga gn gc, .slice oa on oc] ∧ True)
  (d1 : l1 = true → s1 = .int .i64 n ∧ True)
  (d2 : l2 = true → ((l7 = false → OwnInts2 w' B s2 xs)) ∧ l0 = true ∧ l1 = true)
  (d3 : l3 = true → s3 = .agg #[.slice ga gn gc, .slice oa on oc] ∧ True)
  (d4 : l4 = true → s4 = .int .i64 n ∧ True)
  (d5 : l5 = true → s5 = .int .i64 X ∧ l2 = true ∧ l3 = true ∧ l4 = true)
  (d6 : l6 = true → ((l7 = false → One B w' s6 X)) ∧ l5 = true)
  (d7 : l7 = true → (OwnInts2 w' B s7 (xs ++ [X])) ∧ l2 = true ∧ l5 = true ∧ l6 = true)
  (d8 : l8 = true → s8 = s7 ∧ l0 = true ∧ l1 = true ∧ l2 = true ∧ l3 = true ∧ l4 = true ∧ l5 = true ∧ l6 = true ∧ l7 = true)
structure RegSt5t (W w' : World) (BB XX Y : Nat) (ga : Option Addr) (gn gc : Nat) (oa : Option Addr) (on oc n : Nat) (SR SV : Value) (xd ys : List Int) (l0 l1 l2 l3 l4 l5 l6 l7 l8 l9 l10 l11 l12 l13 l14 : Bool) (s0 s1 s2 s3 s4 s5 s6 s7 s8 s9 s10 s11 s12 s14 : Value) : Prop where
  (bel : l13 = false → Below BB W w')
  (pre : l5 = false → w' = W)
  (all : l13 = true → l0 = true ∧ l1 = true ∧ l2 = true ∧ l3 = true ∧ l4 = true ∧ l5 = true ∧ l6 = true ∧ l7 = true ∧ l8 = true ∧ l9 = true ∧ l10 = true ∧ l11 = true ∧ l12 = true)
  (fin : l13 = true → ∃ w4 : World, Below BB W w4 ∧ w' = ((w4.setCell ⟨Y, 0, none⟩ s5).setCell ⟨Y, 1, none⟩ s8) ∧ OwnInts2 w4 BB s5 xd ∧ Ow2 BB w4 s5 s8 ys)
  (d0 : l0 = true → s0 = SR ∧ True)
  (d1 : l1 = true → s1 = .pointer (some ⟨XX, 0, none⟩) ∧ True)
  (d2 : l2 = true → s2 = .slice ga gn gc ∧ l1 = true)
  (d3 : l3 = true → s3 = .int .i64 n ∧ True)
  (d4 : l4 = true → s4 = SV ∧ l2 = true ∧ l3 = true)
  (d5 : l5 = true → (l13 = false → OwnInts2 w' BB s5 xd) ∧ l0 = true ∧ l4 = true)
  (d6 : l6 = true → s6 = .pointer (some ⟨XX, 1, none⟩) ∧ True)
  (d7 : l7 = true → s7 = .slice oa on oc ∧ l6 = true)
  (d8 : l8 = true → (l13 = false → Ow2 BB w' s5 s8 ys) ∧ l5 = true ∧ l7 = true)
  (d9 : l9 = true → s9 = .agg #[s5, s8] ∧ l5 = true ∧ l8 = true)
  (d10 : l10 = true → s10 = .tuple #[.agg #[s5, s8], .bool true] ∧ l5 = true ∧ l8 = true ∧ l9 = true)
  (d11 : l11 = true → s11 = .agg #[s5, s8] ∧ l5 = true ∧ l8 = true ∧ l10 = true)
  (d12 : l12 = true → s12 = .bool true ∧ l5 = true ∧ l8 = true ∧ l10 = true)
  (d14 : l14 = true → s14 = .bool true ∧ l0 = true ∧ l1 = true ∧ l2 = true ∧ l3 = true ∧ l4 = true ∧ l5 = true ∧ l6 = true ∧ l7 = true ∧ l8 = true ∧ l9 = true ∧ l10 = true ∧ l11 = true ∧ l12 = true ∧ l13 = true)
structure RegSt5f (W w' : World) (BB XX Y : Nat) (ga : Option Addr) (gn gc : Nat) (oa : Option Addr) (on oc n : Nat) (SR SV : Value) (xd ys : List Int) (l0 l1 l2 l3 l4 l5 l6 l7 l8 l9 l10 l11 l12 l13 l14 : Bool) (s0 s1 s2 s3 s4 s5 s6 s7 s8 s9 s10 s11 s12 s14 : Value) : Prop where
  (bel : l13 = false → Below BB W w')
  (pre : l5 = false → w' = W)
  (all : l13 = true → l0 = true ∧ l1 = true ∧ l2 = true ∧ l3 = true ∧ l4 = true ∧ l5 = true ∧ l6 = true ∧ l7 = true ∧ l8 = true ∧ l9 = true ∧ l10 = true ∧ l11 = true ∧ l12 = true)
  (fin : l13 = true → ∃ w4 : World, Below BB W w4 ∧ w' = ((w4.setCell ⟨Y, 0, none⟩ (.slice none 0 0)).setCell ⟨Y, 1, none⟩ (.slice none 0 0)) ∧ OwnInts2 w4 BB s5 xd ∧ Ow2 BB w4 s5 s8 ys)
  (d0 : l0 = true → s0 = SR ∧ True)
  (d1 : l1 = true → s1 = .pointer (some ⟨XX, 0, none⟩) ∧ True)
  (d2 : l2 = true → s2 = .slice ga gn gc ∧ l1 = true)
  (d3 : l3 = true → s3 = .int .i64 n ∧ True)
  (d4 : l4 = true → s4 = SV ∧ l2 = true ∧ l3 = true)
  (d5 : l5 = true → (l13 = false → OwnInts2 w' BB s5 xd) ∧ l0 = true ∧ l4 = true)
  (d6 : l6 = true → s6 = .pointer (some ⟨XX, 1, none⟩) ∧ True)
  (d7 : l7 = true → s7 = .slice oa on oc ∧ l6 = true)
  (d8 : l8 = true → (l13 = false → Ow2 BB w' s5 s8 ys) ∧ l5 = true ∧ l7 = true)
  (d9 : l9 = true → s9 = .agg #[s5, s8] ∧ l5 = true ∧ l8 = true)
  (d10 : l10 = true → s10 = .tuple #[.agg #[.slice none 0 0, .slice none 0 0], .bool false] ∧ l5 = true ∧ l8 = true ∧ l9 = true)
  (d11 : l11 = true → s11 = .agg #[.slice none 0 0, .slice none 0 0] ∧ l5 = true ∧ l8 = true ∧ l10 = true)
  (d12 : l12 = true → s12 = .bool false ∧ l5 = true ∧ l8 = true ∧ l10 = true)
  (d14 : l14 = true → s14 = .bool false ∧ l0 = true ∧ l1 = true ∧ l2 = true ∧ l3 = true ∧ l4 = true ∧ l5 = true ∧ l6 = true ∧ l7 = true ∧ l8 = true ∧ l9 = true ∧ l10 = true ∧ l11 = true ∧ l12 = true ∧ l13 = true)
set_option maxRecDepth 100000 in
set_option maxHeartbeats 1000000 in
theorem sStutterAt_any (v : Value) (l : La) (k : Int) (w : World) (h : AtLS w v l) :
    Calls Try.prog 26 #[v, .int .i64 k] w fun e w' => ∃ r, e = .returned (.tuple #[r, .bool (stutB l k)]) ∧ OwnLa w' w.heap.size w'.heap.size r (stutR l k) ∧ Below w.heap.size w w' := by
  have HG : Hid (∀ w1 : World, Below w.heap.size w w1 → Calls Try.prog 21 #[v] w1 fun e w' => e = .returned (.bool (goodLa l)) ∧ Below w1.heap.size w1 w') := fun w1 hb => sGoodLasso_any v l w1 (h.at.below hb)
  have GI : Hid (∀ w1 : World, Calls Try.prog 55 #[.int .i64 k, .int .i64 0, .int .i64 1000] w1 fun e w' => e = .returned (.bool (decide (0 ≤ k ∧ k ≤ 1000))) ∧ w' = w1) := fun w1 => l1In_any k 0 1000 w1
  have hE : atB l k = (goodLa l && decide (0 ≤ k ∧ k ≤ 1000)) := rfl
  have hR : stutR l k = bif atB l k && goodLa (stutL l k.toNat) then stutL l k.toNat else ([], []) := rfl
  have hB : stutB l k = (atB l k && goodLa (stutL l k.toNat)) := rfl
  have HM : Hid (∀ (w1 : World) (x : Value), Below w.heap.size w w1 → AtLa w1 x (stutL l k.toNat) → Calls Try.prog 62 #[x] w1 fun e w' => e = .returned (.tuple #[bif goodLa (stutL l k.toNat) then x else .agg #[.slice none 0 0, .slice none 0 0], .bool (goodLa (stutL l k.toNat))]) ∧ Below w1.heap.size w1 w') := fun w1 x _ hx => l9Made_any x _ w1 hx
  have HLT : Hid (atB l k = true → ∃ n : Nat, ∃ X : Int, ∃ xs : List Int, k = n ∧ n ≤ 1000 ∧ xs.length = n ∧ l.1.length ≤ 24 ∧ l.2.length ≤ 24 ∧
      (∀ w1 : World, Below w.heap.size w w1 → Calls Try.prog 52 #[v, .int .i64 0, .int .i64 n] w1 fun e w' => ∃ r, e = .returned r ∧ OwnInts2 w' w1.heap.size r xs ∧ Below w1.heap.size w1 w') ∧
      (∀ w1 : World, Below w.heap.size w w1 → Calls Try.prog 61 #[v, .int .i64 n] w1 fun e w' => e = .returned (.int .i64 X) ∧ Below w1.heap.size w1 w') ∧
      (n < l.1.length → stutL l k.toNat = (xs ++ [X] ++ l.1.drop n, l.2)) ∧
      (l.1.length ≤ n → stutL l k.toNat = (xs ++ [X], unrL l n l.2.length)) ∧
      (∀ w1 : World, Below w.heap.size w w1 → Calls Try.prog 52 #[v, .int .i64 n, .int .i64 l.2.length] w1 fun e w' => ∃ r, e = .returned r ∧ OwnInts2 w' w1.heap.size r (unrL l n l.2.length) ∧ Below w1.heap.size w1 w')) := fun hat => by
    obtain ⟨hg, n, rfl, hn⟩ := at_parts hat
    obtain ⟨q1, q2, q3⟩ := good_lens hg
    exact ⟨n, letL l n, unrL l 0 n, rfl, hn, unrL_len _ _ _, q1, q3, fun w1 hb => l9First_any v l hg 0 n (by omega) w1 (h.at.below hb), fun w1 hb => l9At_any v l hg n (by omega) w1 (h.at.below hb), fun h9 => by rw [Int.toNat_natCast]; exact stutL_stem l n h9, fun h9 => by rw [Int.toNat_natCast]; exact stutL_loop l n h9, fun w1 hb => l9First_any v l hg n _ (by omega) w1 (h.at.below hb)⟩
  have hat := h.at
  obtain ⟨g_, o_, hv, h1, h2, h3, h4⟩ := h
  have so := srcO_ints h2 h4
  obtain ⟨ga, gc, e1⟩ := h1.shape
  obtain ⟨oa, oc, e2⟩ := h2.shape
  subst e1 e2 hv
  have hon0 : l.2.length = (cellsI l.2).length := (cellsI_len _).symm
  have GO2 : Hid (l.2.length ≤ 24 → ∀ w1 : World, Below w.heap.size w w1 → Calls Try.prog 53 #[.slice oa l.2.length oc] w1 fun e w' => ∃ r, e = .returned r ∧ OwnInts2 w' w1.heap.size r l.2 ∧ Below w1.heap.size w1 w') := fun hl w1 hb => l1OwnO_any oa _ oc l.2 rfl (by omega) w1 (so.below (cellsI_len _) hb)
  obtain ⟨a9, n9, c9, e9, hz9, hsp9, hcap9⟩ := h3
  injection e9 with y1 y2 y3
  subst y1 y2 y3
  have HSRC : Hid (∀ n : Nat, n < l.1.length → ∃ b off : Nat, ga = some ⟨b, off, none⟩ ∧ n ≤ gc ∧ ∀ w1 : World, Below w.heap.size w w1 → SrcO w1 (.slice (if gc = n then some (⟨b, off, none⟩ : Addr) else some ⟨b, off + n, none⟩) (l.1.length - n) (gc - n)) (l.1.length - n) (cellsI (l.1.drop n))) := fun n hn => by
    cases ga with
    | none => have := (hz9 rfl).1; omega
    | some ad =>
      obtain ⟨b, off, s⟩ := ad
      have hs := hsp9 _ rfl
      simp only at hs
      subst hs
      exact ⟨b, off, rfl, by omega, fun w1 hb => srcO_drop (Nat.le_of_lt hn) hcap9 (h1.below hb)⟩
  have HDR : Hid (∀ n, (l.1.drop n).length = l.1.length - n) := fun n => List.length_drop
  have HUL : Hid (∀ n, (unrL l n l.2.length).length = l.2.length) := fun n => unrL_len _ _ _
  generalize hl2 : l.2 = ys at *
  generalize unrL l = UN at *
  generalize hl1 : l.1.length = gn at *
  generalize hyl : ys.length = on at *
  have HYN : Hid (ys.length = on) := hyl
  have hb2 : Below w.heap.size w ((w.alloc (.cells #[.slice ga gn gc, .slice oa on oc] 26)).alloc (.cells #[.slice none 0 0, .slice none 0 0] 26)) := ((Below.refl _ _).alloc (Nat.le_refl _) _).alloc (by rw [World.size_alloc]; omega) _
  have HB0 : Hid _ := hb2
  have x0 := (box2_alloc w 26 (.slice ga gn gc) (.slice oa on oc)).alloc (.cells #[.slice none 0 0, .slice none 0 0] 26)
  have y0 := box2_alloc (w.alloc (.cells #[.slice ga gn gc, .slice oa on oc] 26)) 26 (.slice none 0 0) (.slice none 0 0)
  simp only [World.size_alloc] at y0
  have HX0 : Hid _ := x0
  have HY0 : Hid _ := y0
  have hz0 : ((w.alloc (.cells #[.slice ga gn gc, .slice oa on oc] 26)).alloc (.cells #[.slice none 0 0, .slice none 0 0] 26)).heap.size = w.heap.size + 2 := by rw [World.size_alloc, World.size_alloc]
  obtain ⟨a0, a1⟩ := x0.cells
  have ah := x0.heap
  have al := x0.lt
  have g := HG.out _ HB0.out
  rw [hE] at HLT
  rw [hR, hB, hE]
  clear h1 h2 h4 hat so HG hb2 x0 y0 hR hB hE hz9 hsp9 hl1 hl2 hyl hon0
  generalize goodLa l = AB at *
  generalize decide (0 ≤ k ∧ k ≤ 1000) = IB at *
  generalize stutL l k.toNat = LR at *
  cases AB with
  | false =>
    rw [Bool.false_and, Bool.false_and]
    show Calls _ _ _ _ (fun e w' => ∃ r, e = .returned (.tuple #[r, .bool false]) ∧ OwnLa w' w.heap.size w'.heap.size r ([], []) ∧ Below w.heap.size w w')
    clear HLT HM GI GO2 HSRC
    go_enter Try.func26, Try.ntmps26
    go_wp2_with fail
    refine g.mono ?_
    clear a0 a1 ah al
    generalize (w.alloc (.cells #[.slice ga gn gc, .slice oa on oc] 26)).alloc (.cells #[.slice none 0 0, .slice none 0 0] 26) = w0 at *
    rintro e w1 ⟨rfl, hs⟩
    have HB1 : Hid (Below w.heap.size w w1) := HB0.out.trans (hs.mono (by omega))
    have y1 := HY0.out.below hs (by omega)
    have x1 := HX0.out.below hs (by omega)
    have hs1 := hs.size
    clear g hs
    clear x1
    have HZO : Hid (OwnLa ((w1.setCell ⟨w.heap.size + 1, 0, none⟩ (.slice none 0 0)).setCell ⟨w.heap.size + 1, 1, none⟩ (.slice none 0 0)) w.heap.size ((w1.setCell ⟨w.heap.size + 1, 0, none⟩ (.slice none 0 0)).setCell ⟨w.heap.size + 1, 1, none⟩ (.slice none 0 0)).heap.size (.agg #[.slice none 0 0, .slice none 0 0]) ([], [])) := ownLa_nil _ _
    obtain ⟨k0, k1⟩ := y1.cells
    have kh := y1.heap
    have kl := y1.lt
    have kf0 := y1.frozen 0
    have kf1 := y1.frozen 1
    have y9 := (y1.set0 (.slice none 0 0)).set1 (.slice none 0 0)
    have hyh := y9.heap
    have HBE : Hid (Below w.heap.size w ((w1.setCell ⟨w.heap.size + 1, 0, none⟩ (.slice none 0 0)).setCell ⟨w.heap.size + 1, 1, none⟩ (.slice none 0 0))) := (HB1.out.setCell (by show w.heap.size ≤ w.heap.size + 1; omega) _).setCell (by show w.heap.size ≤ w.heap.size + 1; omega) _
    clear HX0 HY0 y9 y1
    go_wp2_with fail
    refine bodyPost_ret (results_la rfl _ _ (w.heap.size + 1) 26 _ (0, 0) _ rfl hyh Try.underlying26 rfl (by kernel_rfl)) rfl ?_
    exact ⟨_, rfl, HZO.out, HBE.out⟩
  | true =>
    rw [Bool.true_and]
    cases IB with
    | false =>
      rw [Bool.false_and]
      show Calls _ _ _ _ (fun e w' => ∃ r, e = .returned (.tuple #[r, .bool false]) ∧ OwnLa w' w.heap.size w'.heap.size r ([], []) ∧ Below w.heap.size w w')
      clear HLT HM GO2 HSRC
      go_enter Try.func26, Try.ntmps26
      go_wp2_with fail
      refine g.mono ?_
      clear a0 a1 ah al
      generalize (w.alloc (.cells #[.slice ga gn gc, .slice oa on oc] 26)).alloc (.cells #[.slice none 0 0, .slice none 0 0] 26) = w0 at *
      rintro e w1 ⟨rfl, hs⟩
      have HB1 : Hid (Below w.heap.size w w1) := HB0.out.trans (hs.mono (by omega))
      have y1 := HY0.out.below hs (by omega)
      have x1 := HX0.out.below hs (by omega)
      have hs1 := hs.size
      clear g hs
      clear x1
      go_wp2_with fail
      refine (GI.out _).mono ?_
      rintro e w1 ⟨rfl, rfl⟩
      have HZO : Hid (OwnLa ((w1.setCell ⟨w.heap.size + 1, 0, none⟩ (.slice none 0 0)).setCell ⟨w.heap.size + 1, 1, none⟩ (.slice none 0 0)) w.heap.size ((w1.setCell ⟨w.heap.size + 1, 0, none⟩ (.slice none 0 0)).setCell ⟨w.heap.size + 1, 1, none⟩ (.slice none 0 0)).heap.size (.agg #[.slice none 0 0, .slice none 0 0]) ([], [])) := ownLa_nil _ _
      obtain ⟨k0, k1⟩ := y1.cells
      have kh := y1.heap
      have kl := y1.lt
      have kf0 := y1.frozen 0
      have kf1 := y1.frozen 1
      have y9 := (y1.set0 (.slice none 0 0)).set1 (.slice none 0 0)
      have hyh := y9.heap
      have HBE : Hid (Below w.heap.size w ((w1.setCell ⟨w.heap.size + 1, 0, none⟩ (.slice none 0 0)).setCell ⟨w.heap.size + 1, 1, none⟩ (.slice none 0 0))) := (HB1.out.setCell (by show w.heap.size ≤ w.heap.size + 1; omega) _).setCell (by show w.heap.size ≤ w.heap.size + 1; omega) _
      clear HX0 HY0 y9 y1
      go_wp2_with fail
      refine bodyPost_ret (results_la rfl _ _ (w.heap.size + 1) 26 _ (0, 0) _ rfl hyh Try.underlying26 rfl (by kernel_rfl)) rfl ?_
      exact ⟨_, rfl, HZO.out, HBE.out⟩
    | true =>
      rw [Bool.true_and]
      obtain ⟨n, X, xs, rfl, hn, hxn, hgn, hon, hgf, hga, hls, hll, hgl⟩ := HLT.out rfl
      have GF : Hid _ := hgf
      have GA : Hid _ := hga
      have GL : Hid _ := hgl
      have HLS : Hid _ := hls
      have HLL : Hid _ := hll
      have HXL : Hid (xs.length ≤ 1000) := by show xs.length ≤ 1000; omega
      have HXN : Hid (xs.length = n) := hxn
      have GO3 : Hid _ := GO2.out hon
      obtain ⟨i0, hif, hz0i, hz1, hz2⟩ := info_parts infoInt
      clear HLT hgf hga hgl hls hll hxn GO2
      go_enter Try.func26, Try.ntmps26
      go_wp2_with fail
      refine g.mono ?_
      clear a0 a1 ah al
      generalize (w.alloc (.cells #[.slice ga gn gc, .slice oa on oc] 26)).alloc (.cells #[.slice none 0 0, .slice none 0 0] 26) = w0 at *
      rintro e w1 ⟨rfl, hs⟩
      have HB1 : Hid (Below w.heap.size w w1) := HB0.out.trans (hs.mono (by omega))
      have y1 := HY0.out.below hs (by omega)
      have x1 := HX0.out.below hs (by omega)
      have hs1 := hs.size
      clear g hs
      obtain ⟨a0, a1⟩ := x1.cells
      have ah := x1.heap
      have al := x1.lt
      go_wp2_with fail
      refine (GI.out _).mono ?_
      rintro e w1 ⟨rfl, rfl⟩
      have HXP : Hid (∀ w3, Below w1.drew.heap.size w1.drew w3 → Box2 w3 w.heap.size 26 (.slice ga gn gc) (.slice oa on oc)) := fun w3 hb3 => Box2.below (w := w1.drew) ⟨x1.heap⟩ hb3 (by show _ < w1.heap.size; omega)
      have HYP : Hid (∀ w3, Below w1.drew.heap.size w1.drew w3 → Box2 w3 (w.heap.size + 1) 26 (.slice none 0 0) (.slice none 0 0)) := fun w3 hb3 => Box2.below (w := w1.drew) ⟨y1.heap⟩ hb3 (by show _ < w1.heap.size; omega)
      have HBW : Hid (∀ w3, Below w1.drew.heap.size w1.drew w3 → Below w.heap.size w w3) := fun w3 hb3 => HB1.out.drew.trans (hb3.mono (by show w.heap.size ≤ w1.heap.size; omega))
      clear x1 y1 HX0 HY0
      go_wp2_with fail
      clear a0 a1 ah al
      refine wp_region_any (by kernel_rfl) ?_
      change wpAny _ _ _ _ _ _ _ (World.drew _)
      refine wpAny_invN (fun lb9 ac9 w' => ∃ (l0 l1 l2 l3 l4 l5 l6 l7 l8 : Bool) (s0 s1 s2 s3 s4 s5 s6 s7 s8 : Value), lb9 = #[l0, l1, l2, l3, l4, l5, l6, l7, l8] ∧ ac9 = { tmps := ((.agg #[.slice ga gn gc, .slice oa on oc]) :: (.int .i64 n) :: (.pointer (some ⟨w.heap.size, 0, none⟩)) :: (undef) :: (.pointer (some ⟨w.heap.size + 1, 0, none⟩)) :: (.bool false) :: (s8) :: (.agg #[.slice ga gn gc, .slice oa on oc]) :: (.bool true) :: (.bool false) :: (.bool false) :: (.int .i64 n) :: (.bool true) :: (.bool false) :: (.bool false) :: (undef) :: (s0) :: (s1) :: (s2) :: (s3) :: (s4) :: (s5) :: (s6) :: (s7) :: (undef) :: (undef) :: (undef) :: (undef) :: (undef) :: (undef) :: (undef) :: (undef) :: (undef) :: (undef) :: (undef) :: (undef) :: (undef) :: (undef) :: (undef) :: (undef) :: (undef) :: (undef) :: (undef) :: (undef) :: (undef) :: (undef) :: (undef) :: (undef) :: (undef) :: (undef) :: (undef) :: (undef) :: (undef) :: []).toArray, defers := [] } ∧ RegSt3 w1.drew w' w1.drew.heap.size ga gn gc oa on oc n X xs l0 l1 l2 l3 l4 l5 l6 l7 l8 s0 s1 s2 s3 s4 s5 s6 s7 s8) ?done ?step 9 _ _ _ ⟨false, false, false, false, false, false, false, false, false, _, _, _, _, _, _, _, _, _, rfl, rfl, ?init⟩ (by decide)
      case init => exact { bel := Below.refl _ _, d0 := fun e => (by cases e), d1 := fun e => (by cases e), d2 := fun e => (by cases e), d3 := fun e => (by cases e), d4 := fun e => (by cases e), d5 := fun e => (by cases e), d6 := fun e => (by cases e), d7 := fun e => (by cases e), d8 := fun e => (by cases e) }
      case step =>
        rintro lb9 ac9 w3 ⟨l0, l1, l2, l3, l4, l5, l6, l7, l8, s0, s1, s2, s3, s4, s5, s6, s7, s8, rfl, rfl, h⟩
        intro q9 hq
        have hlt9 := ready_ltN hq
        match q9, hq, hlt9 with
        | 0, hq, _ =>
          have hr := ready_depN hq rfl
          have hme : l0 = false := hr.1
          have hbel := h.bel
          have x3 := HXP.out w3 hbel
          obtain ⟨c0, c1⟩ := x3.cells
          have ch := x3.heap
          have cl := x3.lt
          clear hr hq
          refine wpOp_runN rfl rfl (fun K hK => ?_)
          go_simp
          refine hK _ _ ⟨true, l1, l2, l3, l4, l5, l6, l7, l8, _, _, _, _, _, _, _, _, _, rfl, rfl, ?_⟩
          exact { bel := h.bel, d0 := fun _ => ⟨rfl, trivial⟩, d1 := h.d1, d2 := fun e => absurd (h.d2 e).2.1 (by rw [hme]; decide), d3 := h.d3, d4 := h.d4, d5 := h.d5, d6 := h.d6, d7 := h.d7, d8 := fun e => absurd (h.d8 e).2.1 (by rw [hme]; decide) }
        | 1, hq, _ =>
          have hr := ready_depN hq rfl
          have hme : l1 = false := hr.1
          have hbel := h.bel
          clear hr hq
          refine wpOp_runN rfl rfl (fun K hK => ?_)
          go_simp
          refine hK _ _ ⟨l0, true, l2, l3, l4, l5, l6, l7, l8, _, _, _, _, _, _, _, _, _, rfl, rfl, ?_⟩
          exact { bel := h.bel, d0 := h.d0, d1 := fun _ => ⟨rfl, trivial⟩, d2 := fun e => absurd (h.d2 e).2.2 (by rw [hme]; decide), d3 := h.d3, d4 := h.d4, d5 := h.d5, d6 := h.d6, d7 := h.d7, d8 := fun e => absurd (h.d8 e).2.2.1 (by rw [hme]; decide) }
        | 2, hq, _ =>
          have hr := ready_depN hq rfl
          have hme : l2 = false := hr.1
          have e0 : l0 = true := hr.2 ⟨0, .data⟩ (by simp) (by kernel_rfl)
          have e1 : l1 = true := hr.2 ⟨1, .data⟩ (by simp) (by kernel_rfl)
          have hbel := h.bel
          obtain rfl := (h.d0 e0).1
          obtain rfl := (h.d1 e1).1
          clear hr hq
          refine wpOp_runN rfl rfl (fun K hK => ?_)
          go_simp
          go_at_call 52
          refine Calls.mono (GF.out w3 (HBW.out w3 hbel)) ?_
          rintro e w4 ⟨r, rfl, ho, hs4⟩
          have hbel4 := hbel.trans (hs4.mono hbel.size)
          have hnew := (fun (_ : l7 = false) => OwnInts2.low ho hbel.size)
          refine hK _ _ ⟨l0, l1, true, l3, l4, l5, l6, l7, l8, _, _, _, _, _, _, _, _, _, rfl, rfl, ?_⟩
          exact { bel := hbel4, d0 := h.d0, d1 := h.d1, d2 := fun _ => ⟨hnew, e0, e1⟩, d3 := h.d3, d4 := h.d4, d5 := fun e => absurd (h.d5 e).2.1 (by rw [hme]; decide), d6 := fun e => ⟨(fun e7 => One.below ((h.d6 e).1 e7) hs4), (h.d6 e).2⟩, d7 := fun e => absurd (h.d7 e).2.1 (by rw [hme]; decide), d8 := fun e => absurd (h.d8 e).2.2.2.1 (by rw [hme]; decide) }
        | 3, hq, _ =>
          have hr := ready_depN hq rfl
          have hme : l3 = false := hr.1
          have hbel := h.bel
          have x3 := HXP.out w3 hbel
          obtain ⟨c0, c1⟩ := x3.cells
          have ch := x3.heap
          have cl := x3.lt
          clear hr hq
          refine wpOp_runN rfl rfl (fun K hK => ?_)
          go_simp
          refine hK _ _ ⟨l0, l1, l2, true, l4, l5, l6, l7, l8, _, _, _, _, _, _, _, _, _, rfl, rfl, ?_⟩
          exact { bel := h.bel, d0 := h.d0, d1 := h.d1, d2 := h.d2, d3 := fun _ => ⟨rfl, trivial⟩, d4 := h.d4, d5 := fun e => absurd (h.d5 e).2.2.1 (by rw [hme]; decide), d6 := h.d6, d7 := h.d7, d8 := fun e => absurd (h.d8 e).2.2.2.2.1 (by rw [hme]; decide) }
        | 4, hq, _ =>
          have hr := ready_depN hq rfl
          have hme : l4 = false := hr.1
          have hbel := h.bel
          clear hr hq
          refine wpOp_runN rfl rfl (fun K hK => ?_)
          go_simp
          refine hK _ _ ⟨l0, l1, l2, l3, true, l5, l6, l7, l8, _, _, _, _, _, _, _, _, _, rfl, rfl, ?_⟩
          exact { bel := h.bel, d0 := h.d0, d1 := h.d1, d2 := h.d2, d3 := h.d3, d4 := fun _ => ⟨rfl, trivial⟩, d5 := fun e => absurd (h.d5 e).2.2.2 (by rw [hme]; decide), d6 := h.d6, d7 := h.d7, d8 := fun e => absurd (h.d8 e).2.2.2.2.2.1 (by rw [hme]; decide) }
        | 5, hq, _ =>
          have hr := ready_depN hq rfl
          have hme : l5 = false := hr.1
          have e2 : l2 = true := hr.2 ⟨2, .chain⟩ (by simp) (by kernel_rfl)
          have e3 : l3 = true := hr.2 ⟨3, .data⟩ (by simp) (by kernel_rfl)
          have e4 : l4 = true := hr.2 ⟨4, .data⟩ (by simp) (by kernel_rfl)
          have hbel := h.bel
          obtain rfl := (h.d3 e3).1
          obtain rfl := (h.d4 e4).1
          clear hr hq
          refine wpOp_runN rfl rfl (fun K hK => ?_)
          go_simp
          go_at_call 61
          refine Calls.mono (GA.out w3 (HBW.out w3 hbel)) ?_
          rintro e w4 ⟨rfl, hs4⟩
          have hbel4 := hbel.trans (hs4.mono hbel.size)
          refine hK _ _ ⟨l0, l1, l2, l3, l4, true, l6, l7, l8, _, _, _, _, _, _, _, _, _, rfl, rfl, ?_⟩
          exact { bel := hbel4, d0 := h.d0, d1 := h.d1, d2 := fun e => ⟨(fun e7 => own2_below ((h.d2 e).1 e7) hs4), (h.d2 e).2⟩, d3 := h.d3, d4 := h.d4, d5 := fun _ => ⟨rfl, e2, e3, e4⟩, d6 := fun e => absurd (h.d6 e).2 (by rw [hme]; decide), d7 := fun e => absurd (h.d7 e).2.2.1 (by rw [hme]; decide), d8 := fun e => absurd (h.d8 e).2.2.2.2.2.2.1 (by rw [hme]; decide) }
        | 6, hq, _ =>
          have hr := ready_depN hq rfl
          have hme : l6 = false := hr.1
          have e5 : l5 = true := hr.2 ⟨5, .data⟩ (by simp) (by kernel_rfl)
          have hbel := h.bel
          obtain rfl := (h.d5 e5).1
          clear hr hq
          refine wpOp_runN rfl rfl (fun K hK => ?_)
          go_simp
          have hs4 := (Below.refl w3.heap.size w3).alloc (Nat.le_refl _) (.cells #[.int .i64 X] 3)
          have hbel4 := hbel.trans (hs4.mono hbel.size)
          have hnew := (fun (_ : l7 = false) => (show One _ (w3.alloc (.cells #[.int .i64 X] 3)) (.slice (some ⟨w3.heap.size, 0, none⟩) 1 1) X from ⟨w3.heap.size, rfl, hbel.size, by rw [World.size_alloc]; omega, oneI_cells w3 X⟩))
          refine hK _ _ ⟨l0, l1, l2, l3, l4, l5, true, l7, l8, _, _, _, _, _, _, _, _, _, rfl, rfl, ?_⟩
          exact { bel := hbel4, d0 := h.d0, d1 := h.d1, d2 := fun e => ⟨(fun e7 => own2_below ((h.d2 e).1 e7) hs4), (h.d2 e).2⟩, d3 := h.d3, d4 := h.d4, d5 := h.d5, d6 := fun _ => ⟨hnew, e5⟩, d7 := fun e => absurd (h.d7 e).2.2.2 (by rw [hme]; decide), d8 := fun e => absurd (h.d8 e).2.2.2.2.2.2.2.1 (by rw [hme]; decide) }
        | 7, hq, _ =>
          have hr := ready_depN hq rfl
          have hme : l7 = false := hr.1
          have e2 : l2 = true := hr.2 ⟨2, .data⟩ (by simp) (by kernel_rfl)
          have e5 : l5 = true := hr.2 ⟨5, .chain⟩ (by simp) (by kernel_rfl)
          have e6 : l6 = true := hr.2 ⟨6, .data⟩ (by simp) (by kernel_rfl)
          have hbel := h.bel
          obtain rfl := (h.d5 e5).1
          clear hr hq
          refine wpOp_runN rfl rfl (fun K hK => ?_)
          have ho2 := (h.d2 e2).1 hme
          obtain ⟨g6, rfl, hg6, hg6l, hc6⟩ := (h.d6 e6).1 hme
          have hxl := HXL.out
          refine wp_append_own w3 _ _ 24 rfl _ 3 i0 (.int .i64 0) 1 8 Try.underlying24 hif hz0i hz1 hz2 rfl (by decide) _ _ _ rfl ho2 ⟨g6, 0, none⟩ 1 1 [.int .i64 X] rfl rfl hc6 (ints_one [X]) (by unfold maxLen; omega) (by omega) hbel.size ?_
          intro v4 w4 hown4 hgrow4 _
          have hbel4 := hbel.grown hgrow4 hbel.size (fun k hk => (own_block ho2 hk).1)
          have hnew := own2_snoc hown4
          refine hK _ _ ⟨l0, l1, l2, l3, l4, l5, l6, true, l8, _, _, _, _, _, _, _, _, _, rfl, rfl, ?_⟩
          exact { bel := hbel4, d0 := h.d0, d1 := h.d1, d2 := fun e => ⟨(fun e7 => (by cases e7)), (h.d2 e).2⟩, d3 := h.d3, d4 := h.d4, d5 := h.d5, d6 := fun e => ⟨(fun e7 => (by cases e7)), (h.d6 e).2⟩, d7 := fun _ => ⟨hnew, e2, e5, e6⟩, d8 := fun e => absurd (h.d8 e).2.2.2.2.2.2.2.2 (by rw [hme]; decide) }
        | 8, hq, _ =>
          have hr := ready_depN hq rfl
          have hme : l8 = false := hr.1
          have e0 : l0 = true := hr.2 ⟨0, .phase⟩ (by simp) (by kernel_rfl)
          have e1 : l1 = true := hr.2 ⟨1, .phase⟩ (by simp) (by kernel_rfl)
          have e2 : l2 = true := hr.2 ⟨2, .phase⟩ (by simp) (by kernel_rfl)
          have e3 : l3 = true := hr.2 ⟨3, .phase⟩ (by simp) (by kernel_rfl)
          have e4 : l4 = true := hr.2 ⟨4, .phase⟩ (by simp) (by kernel_rfl)
          have e5 : l5 = true := hr.2 ⟨5, .phase⟩ (by simp) (by kernel_rfl)
          have e6 : l6 = true := hr.2 ⟨6, .phase⟩ (by simp) (by kernel_rfl)
          have e7 : l7 = true := hr.2 ⟨7, .data⟩ (by simp) (by kernel_rfl)
          have hbel := h.bel
          obtain rfl := (h.d0 e0).1
          obtain rfl := (h.d1 e1).1
          obtain rfl := (h.d3 e3).1
          obtain rfl := (h.d4 e4).1
          obtain rfl := (h.d5 e5).1
          clear hr hq
          refine wpOp_runN rfl rfl (fun K hK => ?_)
          go_simp
          refine hK _ _ ⟨l0, l1, l2, l3, l4, l5, l6, l7, true, _, _, _, _, _, _, _, _, _, rfl, rfl, ?_⟩
          exact { bel := h.bel, d0 := h.d0, d1 := h.d1, d2 := h.d2, d3 := h.d3, d4 := h.d4, d5 := h.d5, d6 := h.d6, d7 := h.d7, d8 := fun _ => ⟨rfl, e0, e1, e2, e3, e4, e5, e6, e7⟩ }
        | k + 9, hq, h18 => exact (Nat.not_lt_of_le (Nat.le_add_left 9 k) h18).elim
      case done =>
        rintro lb9 ac9 w3 ⟨l0, l1, l2, l3, l4, l5, l6, l7, l8, s0, s1, s2, s3, s4, s5, s6, s7, s8, rfl, rfl, h⟩ hr
        cases l0
        · exact (ready_none2N hr 0 rfl rfl rfl).elim
        cases l1
        · exact (ready_none2N hr 1 rfl rfl rfl).elim
        cases l2
        · exact (ready_none2N hr 2 rfl rfl rfl).elim
        cases l3
        · exact (ready_none2N hr 3 rfl rfl rfl).elim
        cases l4
        · exact (ready_none2N hr 4 rfl rfl rfl).elim
        cases l5
        · exact (ready_none2N hr 5 rfl rfl rfl).elim
        cases l6
        · exact (ready_none2N hr 6 rfl rfl rfl).elim
        cases l7
        · exact (ready_none2N hr 7 rfl rfl rfl).elim
        cases l8
        · exact (ready_none2N hr 8 rfl rfl rfl).elim
        obtain rfl := (h.d0 rfl).1
        obtain rfl := (h.d1 rfl).1
        obtain rfl := (h.d3 rfl).1
        obtain rfl := (h.d4 rfl).1
        obtain rfl := (h.d5 rfl).1
        obtain rfl := (h.d8 rfl).1
        have hbel := h.bel
        have hF2 := (h.d2 rfl).1
        have hF6 := (h.d6 rfl).1
        have hF7 := (h.d7 rfl).1
        clear h hr
        obtain ⟨ra, rc, rfl⟩ := own_shape hF7
        clear hF2 hF6
        generalize hq : s2 = q18 at *
        clear hq
        generalize hq : s6 = q22 at *
        clear hq
        have hx1n : (xs ++ [X]).length = n + 1 := by rw [List.length_append, HXN.out]; rfl
        generalize xs ++ [X] = x1 at *
        have HX1N : Hid (x1.length = n + 1) := hx1n
        have HX1L : Hid (x1.length ≤ 1001) := by show x1.length ≤ 1001; omega
        clear hx1n
        generalize w3 = wm at *
        obtain ⟨BB, hBB⟩ : ∃ BB, w.heap.size + 2 = BB := ⟨_, rfl⟩
        have hsm := hbel.size
        change w1.heap.size ≤ wm.heap.size at hsm
        have HBM : Hid _ := HBW.out wm hbel
        have HBELM : Hid (Below w1.drew.heap.size w1.drew wm) := hbel
        have HROW : Hid (OwnInts2 wm BB (.slice ra x1.length rc) x1) := OwnInts2.low hF7 (by show BB ≤ w1.heap.size; omega)
        have hXm := HXP.out wm hbel
        have hYm := HYP.out wm hbel
        have HXM : Hid _ := hXm
        have HYM : Hid _ := hYm
        clear hF7 hbel hXm hYm HBW HXP HYP GF GA
        by_cases hk : n < gn
        · obtain ⟨gb, go, rfl, hnc, hsv⟩ := HSRC.out n hk
          have HLS2 := HLS.out hk
          have hdn := HDR.out n
          subst HLS2
          generalize hds : l.1.drop n = ds at *
          have HDS : Hid (l.1.drop n = ds) := hds
          generalize hxd : x1 ++ ds = xd at *
          have HXD : Hid (x1 ++ ds = xd) := hxd
          have hgcn : ¬ gc = n := by omega
          have hkle : n ≤ gn := Nat.le_of_lt hk
          rw [if_neg hgcn] at hsv
          have HSV : Hid (SrcO wm.drew (.slice (some ⟨gb, go + n, none⟩) (gn - n) (gc - n)) (gn - n) (cellsI ds)) := (hsv wm HBM.out).drew
          have HDL : Hid (ds.length = gn - n) := hdn
          have HYL : Hid (ys.length ≤ 1048576) := by show ys.length ≤ _; have := HYN.out; omega
          have HXDL : Hid (xd.length ≤ 1048576) := by show xd.length ≤ _; rw [← hxd, List.length_append]; have := HX1L.out; omega
          have HQ : Hid ((x1 ++ l.1.drop n, ys) = (xd, ys)) := by
            show _ = _
            rw [HDS.out, HXD.out]
          clear hxd hds hsv hdn HSRC HLS HLL HDR GL HUL
          have HXP : Hid (∀ w3, Below BB wm.drew w3 → Box2 w3 w.heap.size 26 (.slice (some ⟨gb, go, none⟩) gn gc) (.slice oa on oc)) := fun w3 hb3 => Box2.below (w := wm.drew) ⟨HXM.out.heap⟩ hb3 (by omega)
          have HYP : Hid (∀ w3, Below BB wm.drew w3 → Box2 w3 (w.heap.size + 1) 26 (.slice none 0 0) (.slice none 0 0)) := fun w3 hb3 => Box2.below (w := wm.drew) ⟨HYM.out.heap⟩ hb3 (by omega)
          have HBW : Hid (∀ w3, Below BB wm.drew w3 → Below w.heap.size w w3) := fun w3 hb3 => HBM.out.drew.trans (hb3.mono (by omega))
          have HBB : Hid (BB ≤ wm.drew.heap.size) := by show BB ≤ wm.heap.size; omega
          have HBBW : Hid (BB ≤ wm.drew.heap.size) := HBB.out
          have HRW : Hid (OwnInts2 wm.drew BB (.slice ra x1.length rc) x1) := HROW.out
          generalize hCB : goodLa (xd, ys) = CB at *
          have HCB : Hid (goodLa (xd, ys) = CB) := hCB
          clear hCB
          obtain ⟨a0, a1⟩ := HXM.out.cells
          have ah := HXM.out.heap
          have al := HXM.out.lt
          clear HXM HYM
          cases CB with
          | false =>
            go_wp2_with fail
            clear a0 a1 ah al
            refine wp_region_any (by kernel_rfl) ?_
            change wpAny _ _ _ _ _ _ _ (World.drew _)
            refine wpAny_invN (fun lb9 ac9 w' => ∃ (l0 l1 l2 l3 l4 l5 l6 l7 l8 l9 l10 l11 l12 l13 l14 : Bool) (s0 s1 s2 s3 s4 s5 s6 s7 s8 s9 s10 s11 s12 s14 : Value), lb9 = #[l0, l1, l2, l3, l4, l5, l6, l7, l8, l9, l10, l11, l12, l13, l14] ∧ ac9 = { tmps := ((.agg #[.slice (some ⟨gb, go, none⟩) gn gc, .slice oa on oc]) :: (.int .i64 n) :: (.pointer (some ⟨w.heap.size, 0, none⟩)) :: (undef) :: (.pointer (some ⟨w.heap.size + 1, 0, none⟩)) :: (s14) :: (.slice ra x1.length rc) :: (.agg #[.slice (some ⟨gb, go, none⟩) gn gc, .slice oa on oc]) :: (.bool true) :: (.bool false) :: (.bool false) :: (.int .i64 n) :: (.bool true) :: (.bool false) :: (.bool false) :: (undef) :: (.agg #[.slice (some ⟨gb, go, none⟩) gn gc, .slice oa on oc]) :: (.int .i64 n) :: (q18) :: (.agg #[.slice (some ⟨gb, go, none⟩) gn gc, .slice oa on oc]) :: (.int .i64 n) :: (.int .i64 X) :: (q22) :: (.slice ra x1.length rc) :: (.int .i64 n) :: (.pointer (some ⟨w.heap.size, 0, none⟩)) :: (.slice (some ⟨gb, go, none⟩) gn gc) :: (.int .i64 gn) :: (.bool true) :: (s0) :: (s1) :: (s2) :: (s3) :: (s4) :: (s5) :: (s6) :: (s7) :: (s8) :: (s9) :: (s10) :: (s11) :: (s12) :: (undef) :: (undef) :: (undef) :: (undef) :: (undef) :: (undef) :: (undef) :: (undef) :: (undef) :: (undef) :: (undef) :: []).toArray, defers := [] } ∧ RegSt5f wm.drew w' BB w.heap.size (w.heap.size + 1) (some ⟨gb, go, none⟩) gn gc oa on oc n (.slice ra x1.length rc) (.slice (some ⟨gb, go + n, none⟩) (gn - n) (gc - n)) xd ys l0 l1 l2 l3 l4 l5 l6 l7 l8 l9 l10 l11 l12 l13 l14 s0 s1 s2 s3 s4 s5 s6 s7 s8 s9 s10 s11 s12 s14) ?done ?step 15 _ _ _ ⟨false, false, false, false, false, false, false, false, false, false, false, false, false, false, false, _, _, _, _, _, _, _, _, _, _, _, _, _, _, rfl, rfl, ?init⟩ (by decide)
            case init => exact { bel := fun _ => Below.refl _ _, all := fun e => (by cases e), fin := fun e => (by cases e), pre := fun _ => rfl, d0 := fun e => (by cases e), d1 := fun e => (by cases e), d2 := fun e => (by cases e), d3 := fun e => (by cases e), d4 := fun e => (by cases e), d5 := fun e => (by cases e), d6 := fun e => (by cases e), d7 := fun e => (by cases e), d8 := fun e => (by cases e), d9 := fun e => (by cases e), d10 := fun e => (by cases e), d11 := fun e => (by cases e), d12 := fun e => (by cases e), d14 := fun e => (by cases e) }
            case step =>
              rintro lb9 ac9 w3 ⟨l0, l1, l2, l3, l4, l5, l6, l7, l8, l9, l10, l11, l12, l13, l14, s0, s1, s2, s3, s4, s5, s6, s7, s8, s9, s10, s11, s12, s14, rfl, rfl, h⟩
              intro q9 hq
              have hlt9 := ready_ltN hq
              match q9, hq, hlt9 with
              | 0, hq, _ =>
                have hr := ready_depN hq rfl
                have hme : l0 = false := hr.1
                have hT : l13 = false := by
                  cases hc9 : l13 with
                  | false => rfl
                  | true => exact absurd (h.all hc9).1 (by rw [hme]; decide)
                have hbel := h.bel hT
                clear hr hq
                refine wpOp_runN rfl rfl (fun K hK => ?_)
                go_simp
                refine hK _ _ ⟨true, l1, l2, l3, l4, l5, l6, l7, l8, l9, l10, l11, l12, l13, l14, _, _, _, _, _, _, _, _, _, _, _, _, _, _, rfl, rfl, ?_⟩
                exact { bel := h.bel, pre := h.pre, all := fun e => (by rw [hT] at e; cases e), fin := fun e => (by rw [hT] at e; cases e), d0 := fun _ => ⟨rfl, trivial⟩, d1 := h.d1, d2 := h.d2, d3 := h.d3, d4 := h.d4, d5 := fun e => absurd (h.d5 e).2.1 (by rw [hme]; decide), d6 := h.d6, d7 := h.d7, d8 := h.d8, d9 := h.d9, d10 := h.d10, d11 := h.d11, d12 := h.d12, d14 := fun e => absurd (h.d14 e).2.1 (by rw [hme]; decide) }
              | 1, hq, _ =>
                have hr := ready_depN hq rfl
                have hme : l1 = false := hr.1
                have hT : l13 = false := by
                  cases hc9 : l13 with
                  | false => rfl
                  | true => exact absurd (h.all hc9).2.1 (by rw [hme]; decide)
                have hbel := h.bel hT
                clear hr hq
                refine wpOp_runN rfl rfl (fun K hK => ?_)
                go_simp
                refine hK _ _ ⟨l0, true, l2, l3, l4, l5, l6, l7, l8, l9, l10, l11, l12, l13, l14, _, _, _, _, _, _, _, _, _, _, _, _, _, _, rfl, rfl, ?_⟩
                exact { bel := h.bel, pre := h.pre, all := fun e => (by rw [hT] at e; cases e), fin := fun e => (by rw [hT] at e; cases e), d0 := h.d0, d1 := fun _ => ⟨rfl, trivial⟩, d2 := fun e => absurd (h.d2 e).2 (by rw [hme]; decide), d3 := h.d3, d4 := h.d4, d5 := h.d5, d6 := h.d6, d7 := h.d7, d8 := h.d8, d9 := h.d9, d10 := h.d10, d11 := h.d11, d12 := h.d12, d14 := fun e => absurd (h.d14 e).2.2.1 (by rw [hme]; decide) }
              | 2, hq, _ =>
                have hr := ready_depN hq rfl
                have hme : l2 = false := hr.1
                have e1 : l1 = true := hr.2 ⟨1, .data⟩ (by simp) (by kernel_rfl)
                have hT : l13 = false := by
                  cases hc9 : l13 with
                  | false => rfl
                  | true => exact absurd (h.all hc9).2.2.1 (by rw [hme]; decide)
                have hbel := h.bel hT
                obtain rfl := (h.d1 e1).1
                have x3 := HXP.out w3 hbel
                obtain ⟨c0, c1⟩ := x3.cells
                have ch := x3.heap
                have cl := x3.lt
                clear hr hq
                refine wpOp_runN rfl rfl (fun K hK => ?_)
                go_simp
                refine hK _ _ ⟨l0, l1, true, l3, l4, l5, l6, l7, l8, l9, l10, l11, l12, l13, l14, _, _, _, _, _, _, _, _, _, _, _, _, _, _, rfl, rfl, ?_⟩
                exact { bel := h.bel, pre := h.pre, all := fun e => (by rw [hT] at e; cases e), fin := fun e => (by rw [hT] at e; cases e), d0 := h.d0, d1 := h.d1, d2 := fun _ => ⟨rfl, e1⟩, d3 := h.d3, d4 := fun e => absurd (h.d4 e).2.1 (by rw [hme]; decide), d5 := h.d5, d6 := h.d6, d7 := h.d7, d8 := h.d8, d9 := h.d9, d10 := h.d10, d11 := h.d11, d12 := h.d12, d14 := fun e => absurd (h.d14 e).2.2.2.1 (by rw [hme]; decide) }
              | 3, hq, _ =>
                have hr := ready_depN hq rfl
                have hme : l3 = false := hr.1
                have hT : l13 = false := by
                  cases hc9 : l13 with
                  | false => rfl
                  | true => exact absurd (h.all hc9).2.2.2.1 (by rw [hme]; decide)
                have hbel := h.bel hT
                clear hr hq
                refine wpOp_runN rfl rfl (fun K hK => ?_)
                go_simp
                refine hK _ _ ⟨l0, l1, l2, true, l4, l5, l6, l7, l8, l9, l10, l11, l12, l13, l14, _, _, _, _, _, _, _, _, _, _, _, _, _, _, rfl, rfl, ?_⟩
                exact { bel := h.bel, pre := h.pre, all := fun e => (by rw [hT] at e; cases e), fin := fun e => (by rw [hT] at e; cases e), d0 := h.d0, d1 := h.d1, d2 := h.d2, d3 := fun _ => ⟨rfl, trivial⟩, d4 := fun e => absurd (h.d4 e).2.2 (by rw [hme]; decide), d5 := h.d5, d6 := h.d6, d7 := h.d7, d8 := h.d8, d9 := h.d9, d10 := h.d10, d11 := h.d11, d12 := h.d12, d14 := fun e => absurd (h.d14 e).2.2.2.2.1 (by rw [hme]; decide) }
              | 4, hq, _ =>
                have hr := ready_depN hq rfl
                have hme : l4 = false := hr.1
                have e2 : l2 = true := hr.2 ⟨2, .data⟩ (by simp) (by kernel_rfl)
                have e3 : l3 = true := hr.2 ⟨3, .data⟩ (by simp) (by kernel_rfl)
                have hT : l13 = false := by
                  cases hc9 : l13 with
                  | false => rfl
                  | true => exact absurd (h.all hc9).2.2.2.2.1 (by rw [hme]; decide)
                have hbel := h.bel hT
                obtain rfl := (h.d2 e2).1
                obtain rfl := (h.d3 e3).1
                clear hr hq
                refine wpOp_runN rfl rfl (fun K hK => ?_)
                go_simp
                refine hK _ _ ⟨l0, l1, l2, l3, true, l5, l6, l7, l8, l9, l10, l11, l12, l13, l14, _, _, _, _, _, _, _, _, _, _, _, _, _, _, rfl, rfl, ?_⟩
                exact { bel := h.bel, pre := h.pre, all := fun e => (by rw [hT] at e; cases e), fin := fun e => (by rw [hT] at e; cases e), d0 := h.d0, d1 := h.d1, d2 := h.d2, d3 := h.d3, d4 := fun _ => ⟨rfl, e2, e3⟩, d5 := fun e => absurd (h.d5 e).2.2 (by rw [hme]; decide), d6 := h.d6, d7 := h.d7, d8 := h.d8, d9 := h.d9, d10 := h.d10, d11 := h.d11, d12 := h.d12, d14 := fun e => absurd (h.d14 e).2.2.2.2.2.1 (by rw [hme]; decide) }
              | 5, hq, _ =>
                have hr := ready_depN hq rfl
                have hme : l5 = false := hr.1
                have e0 : l0 = true := hr.2 ⟨0, .data⟩ (by simp) (by kernel_rfl)
                have e4 : l4 = true := hr.2 ⟨4, .data⟩ (by simp) (by kernel_rfl)
                have hT : l13 = false := by
                  cases hc9 : l13 with
                  | false => rfl
                  | true => exact absurd (h.all hc9).2.2.2.2.2.1 (by rw [hme]; decide)
                have hbel := h.bel hT
                obtain rfl := (h.d0 e0).1
                obtain rfl := (h.d4 e4).1
                clear hr hq
                refine wpOp_runN rfl rfl (fun K hK => ?_)
                have hpre := h.pre hme
                subst hpre
                have hxl := HX1L.out
                have hdl := HDL.out
                refine wp_append_srcO _ _ 24 rfl BB 3 i0 (.int .i64 0) 1 8 Try.underlying24 hif hz0i hz1 hz2 rfl (by decide) _ _ _ rfl HRW.out _ _ (cellsI ds) rfl HSV.out (by rw [cellsI_len, hdl, Nat.mul_one]) (ints_one ds) (by unfold maxLen; omega) (by omega) HBB.out ?_
                intro v4 w4 hown4 hgrow4
                have hbel4 := hbel.grown hgrow4 (by have := HBB.out; exact Nat.le_trans this hbel.size) (fun k hk => (own_block HRW.out hk).1)
                have hnew := (Eq.subst (motive := fun z => OwnInts2 w4 BB v4 z) HXD.out (own2_app HDL.out hown4))
                refine hK _ _ ⟨l0, l1, l2, l3, l4, true, l6, l7, l8, l9, l10, l11, l12, l13, l14, _, _, _, _, _, _, _, _, _, _, _, _, _, _, rfl, rfl, ?_⟩
                exact { bel := fun _ => hbel4, pre := fun e => (by cases e), all := fun e => (by rw [hT] at e; cases e), fin := fun e => (by rw [hT] at e; cases e), d0 := h.d0, d1 := h.d1, d2 := h.d2, d3 := h.d3, d4 := h.d4, d5 := fun _ => ⟨fun _ => hnew, e0, e4⟩, d6 := h.d6, d7 := h.d7, d8 := fun e => absurd (h.d8 e).2.1 (by rw [hme]; decide), d9 := fun e => absurd (h.d9 e).2.1 (by rw [hme]; decide), d10 := fun e => absurd (h.d10 e).2.1 (by rw [hme]; decide), d11 := fun e => absurd (h.d11 e).2.1 (by rw [hme]; decide), d12 := fun e => absurd (h.d12 e).2.1 (by rw [hme]; decide), d14 := fun e => absurd (h.d14 e).2.2.2.2.2.2.1 (by rw [hme]; decide) }
              | 6, hq, _ =>
                have hr := ready_depN hq rfl
                have hme : l6 = false := hr.1
                have hT : l13 = false := by
                  cases hc9 : l13 with
                  | false => rfl
                  | true => exact absurd (h.all hc9).2.2.2.2.2.2.1 (by rw [hme]; decide)
                have hbel := h.bel hT
                clear hr hq
                refine wpOp_runN rfl rfl (fun K hK => ?_)
                go_simp
                refine hK _ _ ⟨l0, l1, l2, l3, l4, l5, true, l7, l8, l9, l10, l11, l12, l13, l14, _, _, _, _, _, _, _, _, _, _, _, _, _, _, rfl, rfl, ?_⟩
                exact { bel := h.bel, pre := h.pre, all := fun e => (by rw [hT] at e; cases e), fin := fun e => (by rw [hT] at e; cases e), d0 := h.d0, d1 := h.d1, d2 := h.d2, d3 := h.d3, d4 := h.d4, d5 := h.d5, d6 := fun _ => ⟨rfl, trivial⟩, d7 := fun e => absurd (h.d7 e).2 (by rw [hme]; decide), d8 := h.d8, d9 := h.d9, d10 := h.d10, d11 := h.d11, d12 := h.d12, d14 := fun e => absurd (h.d14 e).2.2.2.2.2.2.2.1 (by rw [hme]; decide) }
              | 7, hq, _ =>
                have hr := ready_depN hq rfl
                have hme : l7 = false := hr.1
                have e6 : l6 = true := hr.2 ⟨6, .data⟩ (by simp) (by kernel_rfl)
                have hT : l13 = false := by
                  cases hc9 : l13 with
                  | false => rfl
                  | true => exact absurd (h.all hc9).2.2.2.2.2.2.2.1 (by rw [hme]; decide)
                have hbel := h.bel hT
                obtain rfl := (h.d6 e6).1
                have x3 := HXP.out w3 hbel
                obtain ⟨c0, c1⟩ := x3.cells
                have ch := x3.heap
                have cl := x3.lt
                clear hr hq
                refine wpOp_runN rfl rfl (fun K hK => ?_)
                go_simp
                refine hK _ _ ⟨l0, l1, l2, l3, l4, l5, l6, true, l8, l9, l10, l11, l12, l13, l14, _, _, _, _, _, _, _, _, _, _, _, _, _, _, rfl, rfl, ?_⟩
                exact { bel := h.bel, pre := h.pre, all := fun e => (by rw [hT] at e; cases e), fin := fun e => (by rw [hT] at e; cases e), d0 := h.d0, d1 := h.d1, d2 := h.d2, d3 := h.d3, d4 := h.d4, d5 := h.d5, d6 := h.d6, d7 := fun _ => ⟨rfl, e6⟩, d8 := fun e => absurd (h.d8 e).2.2 (by rw [hme]; decide), d9 := h.d9, d10 := h.d10, d11 := h.d11, d12 := h.d12, d14 := fun e => absurd (h.d14 e).2.2.2.2.2.2.2.2.1 (by rw [hme]; decide) }
              | 8, hq, _ =>
                have hr := ready_depN hq rfl
                have hme : l8 = false := hr.1
                have e5 : l5 = true := hr.2 ⟨5, .chain⟩ (by simp) (by kernel_rfl)
                have e7 : l7 = true := hr.2 ⟨7, .data⟩ (by simp) (by kernel_rfl)
                have hT : l13 = false := by
                  cases hc9 : l13 with
                  | false => rfl
                  | true => exact absurd (h.all hc9).2.2.2.2.2.2.2.2.1 (by rw [hme]; decide)
                have hbel := h.bel hT
                obtain rfl := (h.d7 e7).1
                clear hr hq
                refine wpOp_runN rfl rfl (fun K hK => ?_)
                go_simp
                go_at_call 53
                refine Calls.mono (GO3.out w3 (HBW.out w3 hbel)) ?_
                rintro e w4 ⟨r, rfl, ho, hs4⟩
                have hbel4 := hbel.trans (hs4.mono (Nat.le_trans HBBW.out hbel.size))
                have hnew := ow2_of (Nat.le_trans HBB.out hbel.size) ((h.d5 e5).1 hT) ho
                refine hK _ _ ⟨l0, l1, l2, l3, l4, l5, l6, l7, true, l9, l10, l11, l12, l13, l14, _, _, _, _, _, _, _, _, _, _, _, _, _, _, rfl, rfl, ?_⟩
                exact { bel := fun _ => hbel4, pre := fun e => (by rw [e5] at e; cases e), all := fun e => (by rw [hT] at e; cases e), fin := fun e => (by rw [hT] at e; cases e), d0 := h.d0, d1 := h.d1, d2 := h.d2, d3 := h.d3, d4 := h.d4, d5 := fun e => ⟨fun hx => own2_below ((h.d5 e).1 hx) hs4, (h.d5 e).2⟩, d6 := h.d6, d7 := h.d7, d8 := fun _ => ⟨fun _ => hnew, e5, e7⟩, d9 := fun e => absurd (h.d9 e).2.2 (by rw [hme]; decide), d10 := fun e => absurd (h.d10 e).2.2.1 (by rw [hme]; decide), d11 := fun e => absurd (h.d11 e).2.2.1 (by rw [hme]; decide), d12 := fun e => absurd (h.d12 e).2.2.1 (by rw [hme]; decide), d14 := fun e => absurd (h.d14 e).2.2.2.2.2.2.2.2.2.1 (by rw [hme]; decide) }
              | 9, hq, _ =>
                have hr := ready_depN hq rfl
                have hme : l9 = false := hr.1
                have e5 : l5 = true := hr.2 ⟨5, .data⟩ (by simp) (by kernel_rfl)
                have e8 : l8 = true := hr.2 ⟨8, .data⟩ (by simp) (by kernel_rfl)
                have hT : l13 = false := by
                  cases hc9 : l13 with
                  | false => rfl
                  | true => exact absurd (h.all hc9).2.2.2.2.2.2.2.2.2.1 (by rw [hme]; decide)
                have hbel := h.bel hT
                obtain ⟨u3a, u3c, rfl⟩ := own_shape ((h.d5 e5).1 hT)
                obtain ⟨u9a, u9c, rfl⟩ := own_shape ((h.d8 e8).1 hT).1
                clear hr hq
                refine wpOp_runN rfl rfl (fun K hK => ?_)
                go_simp
                refine hK _ _ ⟨l0, l1, l2, l3, l4, l5, l6, l7, l8, true, l10, l11, l12, l13, l14, _, _, _, _, _, _, _, _, _, _, _, _, _, _, rfl, rfl, ?_⟩
                exact { bel := h.bel, pre := h.pre, all := fun e => (by rw [hT] at e; cases e), fin := fun e => (by rw [hT] at e; cases e), d0 := h.d0, d1 := h.d1, d2 := h.d2, d3 := h.d3, d4 := h.d4, d5 := h.d5, d6 := h.d6, d7 := h.d7, d8 := h.d8, d9 := fun _ => ⟨rfl, e5, e8⟩, d10 := fun e => absurd (h.d10 e).2.2.2 (by rw [hme]; decide), d11 := h.d11, d12 := h.d12, d14 := fun e => absurd (h.d14 e).2.2.2.2.2.2.2.2.2.2.1 (by rw [hme]; decide) }
              | 10, hq, _ =>
                have hr := ready_depN hq rfl
                have hme : l10 = false := hr.1
                have e8 : l8 = true := hr.2 ⟨8, .chain⟩ (by simp) (by kernel_rfl)
                have e9 : l9 = true := hr.2 ⟨9, .data⟩ (by simp) (by kernel_rfl)
                have e5 : l5 = true := (h.d9 e9).2.1
                have hT : l13 = false := by
                  cases hc9 : l13 with
                  | false => rfl
                  | true => exact absurd (h.all hc9).2.2.2.2.2.2.2.2.2.2.1 (by rw [hme]; decide)
                have hbel := h.bel hT
                obtain rfl := (h.d9 e9).1
                clear hr hq
                refine wpOp_runN rfl rfl (fun K hK => ?_)
                go_simp
                go_at_call 62
                refine Calls.mono (HM.out w3 _ (HBW.out w3 hbel) ⟨_, _, rfl, (own_of2 ((h.d5 e5).1 hT)).reads HXDL.out, (own_of2 ((h.d8 e8).1 hT).1).reads HYL.out⟩) ?_
                rintro e w4 ⟨rfl, hs4⟩
                have hbel4 := hbel.trans (hs4.mono (Nat.le_trans HBBW.out hbel.size))
                refine hK _ _ ⟨l0, l1, l2, l3, l4, l5, l6, l7, l8, l9, true, l11, l12, l13, l14, _, _, _, _, _, _, _, _, _, _, _, _, _, _, rfl, rfl, ?_⟩
                exact { bel := fun _ => hbel4, pre := fun e => (by rw [e5] at e; cases e), all := fun e => (by rw [hT] at e; cases e), fin := fun e => (by rw [hT] at e; cases e), d0 := h.d0, d1 := h.d1, d2 := h.d2, d3 := h.d3, d4 := h.d4, d5 := fun e => ⟨fun hx => own2_below ((h.d5 e).1 hx) hs4, (h.d5 e).2⟩, d6 := h.d6, d7 := h.d7, d8 := fun e => ⟨fun hx => ((h.d8 e).1 hx).below hs4, (h.d8 e).2⟩, d9 := h.d9, d10 := fun _ => ⟨rfl, e5, e8, e9⟩, d11 := fun e => absurd (h.d11 e).2.2.2 (by rw [hme]; decide), d12 := fun e => absurd (h.d12 e).2.2.2 (by rw [hme]; decide), d14 := fun e => absurd (h.d14 e).2.2.2.2.2.2.2.2.2.2.2.1 (by rw [hme]; decide) }
              | 11, hq, _ =>
                have hr := ready_depN hq rfl
                have hme : l11 = false := hr.1
                have e10 : l10 = true := hr.2 ⟨10, .data⟩ (by simp) (by kernel_rfl)
                have e5 : l5 = true := (h.d10 e10).2.1
                have e8 : l8 = true := (h.d10 e10).2.2.1
                have hT : l13 = false := by
                  cases hc9 : l13 with
                  | false => rfl
                  | true => exact absurd (h.all hc9).2.2.2.2.2.2.2.2.2.2.2.1 (by rw [hme]; decide)
                have hbel := h.bel hT
                obtain rfl := (h.d10 e10).1
                clear hr hq
                refine wpOp_runN rfl rfl (fun K hK => ?_)
                go_simp
                refine hK _ _ ⟨l0, l1, l2, l3, l4, l5, l6, l7, l8, l9, l10, true, l12, l13, l14, _, _, _, _, _, _, _, _, _, _, _, _, _, _, rfl, rfl, ?_⟩
                exact { bel := h.bel, pre := h.pre, all := fun e => (by rw [hT] at e; cases e), fin := fun e => (by rw [hT] at e; cases e), d0 := h.d0, d1 := h.d1, d2 := h.d2, d3 := h.d3, d4 := h.d4, d5 := h.d5, d6 := h.d6, d7 := h.d7, d8 := h.d8, d9 := h.d9, d10 := h.d10, d11 := fun _ => ⟨rfl, e5, e8, e10⟩, d12 := h.d12, d14 := fun e => absurd (h.d14 e).2.2.2.2.2.2.2.2.2.2.2.2.1 (by rw [hme]; decide) }
              | 12, hq, _ =>
                have hr := ready_depN hq rfl
                have hme : l12 = false := hr.1
                have e10 : l10 = true := hr.2 ⟨10, .data⟩ (by simp) (by kernel_rfl)
                have e5 : l5 = true := (h.d10 e10).2.1
                have e8 : l8 = true := (h.d10 e10).2.2.1
                have hT : l13 = false := by
                  cases hc9 : l13 with
                  | false => rfl
                  | true => exact absurd (h.all hc9).2.2.2.2.2.2.2.2.2.2.2.2 (by rw [hme]; decide)
                have hbel := h.bel hT
                obtain rfl := (h.d10 e10).1
                clear hr hq
                refine wpOp_runN rfl rfl (fun K hK => ?_)
                go_simp
                refine hK _ _ ⟨l0, l1, l2, l3, l4, l5, l6, l7, l8, l9, l10, l11, true, l13, l14, _, _, _, _, _, _, _, _, _, _, _, _, _, _, rfl, rfl, ?_⟩
                exact { bel := h.bel, pre := h.pre, all := fun e => (by rw [hT] at e; cases e), fin := fun e => (by rw [hT] at e; cases e), d0 := h.d0, d1 := h.d1, d2 := h.d2, d3 := h.d3, d4 := h.d4, d5 := h.d5, d6 := h.d6, d7 := h.d7, d8 := h.d8, d9 := h.d9, d10 := h.d10, d11 := h.d11, d12 := fun _ => ⟨rfl, e5, e8, e10⟩, d14 := fun e => absurd (h.d14 e).2.2.2.2.2.2.2.2.2.2.2.2.2.1 (by rw [hme]; decide) }
              | 13, hq, _ =>
                have hr := ready_depN hq rfl
                have hme : l13 = false := hr.1
                have e0 : l0 = true := hr.2 ⟨0, .phase⟩ (by simp) (by kernel_rfl)
                have e1 : l1 = true := hr.2 ⟨1, .phase⟩ (by simp) (by kernel_rfl)
                have e2 : l2 = true := hr.2 ⟨2, .phase⟩ (by simp) (by kernel_rfl)
                have e3 : l3 = true := hr.2 ⟨3, .phase⟩ (by simp) (by kernel_rfl)
                have e4 : l4 = true := hr.2 ⟨4, .phase⟩ (by simp) (by kernel_rfl)
                have e5 : l5 = true := hr.2 ⟨5, .phase⟩ (by simp) (by kernel_rfl)
                have e6 : l6 = true := hr.2 ⟨6, .phase⟩ (by simp) (by kernel_rfl)
                have e7 : l7 = true := hr.2 ⟨7, .phase⟩ (by simp) (by kernel_rfl)
                have e8 : l8 = true := hr.2 ⟨8, .phase⟩ (by simp) (by kernel_rfl)
                have e9 : l9 = true := hr.2 ⟨9, .phase⟩ (by simp) (by kernel_rfl)
                have e10 : l10 = true := hr.2 ⟨10, .chain⟩ (by simp) (by kernel_rfl)
                have e11 : l11 = true := hr.2 ⟨11, .data⟩ (by simp) (by kernel_rfl)
                have e12 : l12 = true := hr.2 ⟨12, .phase⟩ (by simp) (by kernel_rfl)
                have hbel := h.bel hme
                obtain rfl := (h.d0 e0).1
                obtain rfl := (h.d1 e1).1
                obtain rfl := (h.d2 e2).1
                obtain rfl := (h.d3 e3).1
                obtain rfl := (h.d4 e4).1
                obtain rfl := (h.d6 e6).1
                obtain rfl := (h.d7 e7).1
                obtain rfl := (h.d9 e9).1
                obtain rfl := (h.d10 e10).1
                obtain rfl := (h.d11 e11).1
                obtain rfl := (h.d12 e12).1
                have y3 := HYP.out w3 hbel
                obtain ⟨k0, k1⟩ := y3.cells
                have kh := y3.heap
                have kl := y3.lt
                have kf0 := y3.frozen 0
                have kf1 := y3.frozen 1
                clear hr hq
                have hF5 := (h.d5 e5).1 hme
                have hF8 := (h.d8 e8).1 hme
                refine wpOp_runN rfl rfl (fun K hK => ?_)
                go_simp
                refine hK _ _ ⟨l0, l1, l2, l3, l4, l5, l6, l7, l8, l9, l10, l11, l12, true, l14, _, _, _, _, _, _, _, _, _, _, _, _, _, _, rfl, rfl, ?_⟩
                exact { pre := fun e => (by rw [e5] at e; cases e), bel := fun e => (by cases e), all := fun _ => ⟨e0, e1, e2, e3, e4, e5, e6, e7, e8, e9, e10, e11, e12⟩, fin := fun _ => ⟨w3, hbel, rfl, hF5, hF8⟩, d0 := h.d0, d1 := h.d1, d2 := h.d2, d3 := h.d3, d4 := h.d4, d5 := fun e => ⟨fun e9 => (by cases e9), (h.d5 e).2⟩, d6 := h.d6, d7 := h.d7, d8 := fun e => ⟨fun e9 => (by cases e9), (h.d8 e).2⟩, d9 := h.d9, d10 := h.d10, d11 := h.d11, d12 := h.d12, d14 := fun e => absurd (h.d14 e).2.2.2.2.2.2.2.2.2.2.2.2.2.2 (by rw [hme]; decide) }
              | 14, hq, _ =>
                have hr := ready_depN hq rfl
                have hme : l14 = false := hr.1
                have e0 : l0 = true := hr.2 ⟨0, .phase⟩ (by simp) (by kernel_rfl)
                have e1 : l1 = true := hr.2 ⟨1, .phase⟩ (by simp) (by kernel_rfl)
                have e2 : l2 = true := hr.2 ⟨2, .phase⟩ (by simp) (by kernel_rfl)
                have e3 : l3 = true := hr.2 ⟨3, .phase⟩ (by simp) (by kernel_rfl)
                have e4 : l4 = true := hr.2 ⟨4, .phase⟩ (by simp) (by kernel_rfl)
                have e5 : l5 = true := hr.2 ⟨5, .phase⟩ (by simp) (by kernel_rfl)
                have e6 : l6 = true := hr.2 ⟨6, .phase⟩ (by simp) (by kernel_rfl)
                have e7 : l7 = true := hr.2 ⟨7, .phase⟩ (by simp) (by kernel_rfl)
                have e8 : l8 = true := hr.2 ⟨8, .phase⟩ (by simp) (by kernel_rfl)
                have e9 : l9 = true := hr.2 ⟨9, .phase⟩ (by simp) (by kernel_rfl)
                have e10 : l10 = true := hr.2 ⟨10, .phase⟩ (by simp) (by kernel_rfl)
                have e11 : l11 = true := hr.2 ⟨11, .phase⟩ (by simp) (by kernel_rfl)
                have e12 : l12 = true := hr.2 ⟨12, .data⟩ (by simp) (by kernel_rfl)
                have e13 : l13 = true := hr.2 ⟨13, .chain⟩ (by simp) (by kernel_rfl)
                obtain rfl := (h.d0 e0).1
                obtain rfl := (h.d1 e1).1
                obtain rfl := (h.d2 e2).1
                obtain rfl := (h.d3 e3).1
                obtain rfl := (h.d4 e4).1
                obtain rfl := (h.d6 e6).1
                obtain rfl := (h.d7 e7).1
                obtain rfl := (h.d9 e9).1
                obtain rfl := (h.d10 e10).1
                obtain rfl := (h.d11 e11).1
                obtain rfl := (h.d12 e12).1
                clear hr hq
                refine wpOp_runN rfl rfl (fun K hK => ?_)
                go_simp
                refine hK _ _ ⟨l0, l1, l2, l3, l4, l5, l6, l7, l8, l9, l10, l11, l12, l13, true, _, _, _, _, _, _, _, _, _, _, _, _, _, _, rfl, rfl, ?_⟩
                exact { bel := h.bel, pre := h.pre, all := h.all, fin := h.fin, d0 := h.d0, d1 := h.d1, d2 := h.d2, d3 := h.d3, d4 := h.d4, d5 := h.d5, d6 := h.d6, d7 := h.d7, d8 := h.d8, d9 := h.d9, d10 := h.d10, d11 := h.d11, d12 := h.d12, d14 := fun _ => ⟨rfl, e0, e1, e2, e3, e4, e5, e6, e7, e8, e9, e10, e11, e12, e13⟩ }
              | k + 15, hq, h18 => exact (Nat.not_lt_of_le (Nat.le_add_left 15 k) h18).elim
            case done =>
              rintro lb9 ac9 w3 ⟨l0, l1, l2, l3, l4, l5, l6, l7, l8, l9, l10, l11, l12, l13, l14, s0, s1, s2, s3, s4, s5, s6, s7, s8, s9, s10, s11, s12, s14, rfl, rfl, h⟩ hr
              cases l0
              · exact (ready_none2N hr 0 rfl rfl rfl).elim
              cases l1
              · exact (ready_none2N hr 1 rfl rfl rfl).elim
              cases l2
              · exact (ready_none2N hr 2 rfl rfl rfl).elim
              cases l3
              · exact (ready_none2N hr 3 rfl rfl rfl).elim
              cases l4
              · exact (ready_none2N hr 4 rfl rfl rfl).elim
              cases l5
              · exact (ready_none2N hr 5 rfl rfl rfl).elim
              cases l6
              · exact (ready_none2N hr 6 rfl rfl rfl).elim
              cases l7
              · exact (ready_none2N hr 7 rfl rfl rfl).elim
              cases l8
              · exact (ready_none2N hr 8 rfl rfl rfl).elim
              cases l9
              · exact (ready_none2N hr 9 rfl rfl rfl).elim
              cases l10
              · exact (ready_none2N hr 10 rfl rfl rfl).elim
              cases l11
              · exact (ready_none2N hr 11 rfl rfl rfl).elim
              cases l12
              · exact (ready_none2N hr 12 rfl rfl rfl).elim
              cases l13
              · exact (ready_none2N hr 13 rfl rfl rfl).elim
              cases l14
              · exact (ready_none2N hr 14 rfl rfl rfl).elim
              obtain rfl := (h.d0 rfl).1
              obtain rfl := (h.d1 rfl).1
              obtain rfl := (h.d2 rfl).1
              obtain rfl := (h.d3 rfl).1
              obtain rfl := (h.d4 rfl).1
              obtain rfl := (h.d6 rfl).1
              obtain rfl := (h.d7 rfl).1
              obtain rfl := (h.d9 rfl).1
              obtain rfl := (h.d10 rfl).1
              obtain rfl := (h.d11 rfl).1
              obtain rfl := (h.d12 rfl).1
              obtain rfl := (h.d14 rfl).1
              obtain ⟨w4, hbel, rfl, hF5, hF8⟩ := h.fin rfl
              clear h hr
              have y4 := ((HYP.out w4 hbel).set0 (.slice none 0 0)).set1 (.slice none 0 0)
              have HOL : Hid (OwnLa ((w4.setCell ⟨w.heap.size + 1, 0, none⟩ (.slice none 0 0)).setCell ⟨w.heap.size + 1, 1, none⟩ (.slice none 0 0)) w.heap.size ((w4.setCell ⟨w.heap.size + 1, 0, none⟩ (.slice none 0 0)).setCell ⟨w.heap.size + 1, 1, none⟩ (.slice none 0 0)).heap.size (.agg #[(.slice none 0 0), (.slice none 0 0)]) ([], [])) := ownLa_nil _ _
              have HBE : Hid (Below w.heap.size w ((w4.setCell ⟨w.heap.size + 1, 0, none⟩ (.slice none 0 0)).setCell ⟨w.heap.size + 1, 1, none⟩ (.slice none 0 0))) := ((HBW.out w4 hbel).setCell (by show w.heap.size ≤ w.heap.size + 1; omega) _).setCell (by show w.heap.size ≤ w.heap.size + 1; omega) _
              have hyh := y4.heap
              clear hF5 hF8 y4
              go_wp2_with fail
              refine bodyPost_ret (results_la rfl _ _ (w.heap.size + 1) 26 _ (0, 0) _ rfl hyh Try.underlying26 rfl (by kernel_rfl)) rfl ?_
              refine ⟨.agg #[(.slice none 0 0), (.slice none 0 0)], ?_, ?_, HBE.out⟩
              · rw [HQ.out, HCB.out]
                try rfl
              · rw [HQ.out, HCB.out]
                exact HOL.out
          | true =>
            go_wp2_with fail
            clear a0 a1 ah al
            refine wp_region_any (by kernel_rfl) ?_
            change wpAny _ _ _ _ _ _ _ (World.drew _)
            refine wpAny_invN (fun lb9 ac9 w' => ∃ (l0 l1 l2 l3 l4 l5 l6 l7 l8 l9 l10 l11 l12 l13 l14 : Bool) (s0 s1 s2 s3 s4 s5 s6 s7 s8 s9 s10 s11 s12 s14 : Value), lb9 = #[l0, l1, l2, l3, l4, l5, l6, l7, l8, l9, l10, l11, l12, l13, l14] ∧ ac9 = { tmps := ((.agg #[.slice (some ⟨gb, go, none⟩) gn gc, .slice oa on oc]) :: (.int .i64 n) :: (.pointer (some ⟨w.heap.size, 0, none⟩)) :: (undef) :: (.pointer (some ⟨w.heap.size + 1, 0, none⟩)) :: (s14) :: (.slice ra x1.length rc) :: (.agg #[.slice (some ⟨gb, go, none⟩) gn gc, .slice oa on oc]) :: (.bool true) :: (.bool false) :: (.bool false) :: (.int .i64 n) :: (.bool true) :: (.bool false) :: (.bool false) :: (undef) :: (.agg #[.slice (some ⟨gb, go, none⟩) gn gc, .slice oa on oc]) :: (.int .i64 n) :: (q18) :: (.agg #[.slice (some ⟨gb, go, none⟩) gn gc, .slice oa on oc]) :: (.int .i64 n) :: (.int .i64 X) :: (q22) :: (.slice ra x1.length rc) :: (.int .i64 n) :: (.pointer (some ⟨w.heap.size, 0, none⟩)) :: (.slice (some ⟨gb, go, none⟩) gn gc) :: (.int .i64 gn) :: (.bool true) :: (s0) :: (s1) :: (s2) :: (s3) :: (s4) :: (s5) :: (s6) :: (s7) :: (s8) :: (s9) :: (s10) :: (s11) :: (s12) :: (undef) :: (undef) :: (undef) :: (undef) :: (undef) :: (undef) :: (undef) :: (undef) :: (undef) :: (undef) :: (undef) :: []).toArray, defers := [] } ∧ RegSt5t wm.drew w' BB w.heap.size (w.heap.size + 1) (some ⟨gb, go, none⟩) gn gc oa on oc n (.slice ra x1.length rc) (.slice (some ⟨gb, go + n, none⟩) (gn - n) (gc - n)) xd ys l0 l1 l2 l3 l4 l5 l6 l7 l8 l9 l10 l11 l12 l13 l14 s0 s1 s2 s3 s4 s5 s6 s7 s8 s9 s10 s11 s12 s14) ?done ?step 15 _ _ _ ⟨false, false, false, false, false, false, false, false, false, false, false, false, false, false, false, _, _, _, _, _, _, _, _, _, _, _, _, _, _, rfl, rfl, ?init⟩ (by decide)
            case init => exact { bel := fun _ => Below.refl _ _, all := fun e => (by cases e), fin := fun e => (by cases e), pre := fun _ => rfl, d0 := fun e => (by cases e), d1 := fun e => (by cases e), d2 := fun e => (by cases e), d3 := fun e => (by cases e), d4 := fun e => (by cases e), d5 := fun e => (by cases e), d6 := fun e => (by cases e), d7 := fun e => (by cases e), d8 := fun e => (by cases e), d9 := fun e => (by cases e), d10 := fun e => (by cases e), d11 := fun e => (by cases e), d12 := fun e => (by cases e), d14 := fun e => (by cases e) }
            case step =>
              rintro lb9 ac9 w3 ⟨l0, l1, l2, l3, l4, l5, l6, l7, l8, l9, l10, l11, l12, l13, l14, s0, s1, s2, s3, s4, s5, s6, s7, s8, s9, s10, s11, s12, s14, rfl, rfl, h⟩
              intro q9 hq
              have hlt9 := ready_ltN hq
              match q9, hq, hlt9 with
              | 0, hq, _ =>
                have hr := ready_depN hq rfl
                have hme : l0 = false := hr.1
                have hT : l13 = false := by
                  cases hc9 : l13 with
                  | false => rfl
                  | true => exact absurd (h.all hc9).1 (by rw [hme]; decide)
                have hbel := h.bel hT
                clear hr hq
                refine wpOp_runN rfl rfl (fun K hK => ?_)
                go_simp
                refine hK _ _ ⟨true, l1, l2, l3, l4, l5, l6, l7, l8, l9, l10, l11, l12, l13, l14, _, _, _, _, _, _, _, _, _, _, _, _, _, _, rfl, rfl, ?_⟩
                exact { bel := h.bel, pre := h.pre, all := fun e => (by rw [hT] at e; cases e), fin := fun e => (by rw [hT] at e; cases e), d0 := fun _ => ⟨rfl, trivial⟩, d1 := h.d1, d2 := h.d2, d3 := h.d3, d4 := h.d4, d5 := fun e => absurd (h.d5 e).2.1 (by rw [hme]; decide), d6 := h.d6, d7 := h.d7, d8 := h.d8, d9 := h.d9, d10 := h.d10, d11 := h.d11, d12 := h.d12, d14 := fun e => absurd (h.d14 e).2.1 (by rw [hme]; decide) }
              | 1, hq, _ =>
                have hr := ready_depN hq rfl
                have hme : l1 = false := hr.1
                have hT : l13 = false := by
                  cases hc9 : l13 with
                  | false => rfl
                  | true => exact absurd (h.all hc9).2.1 (by rw [hme]; decide)
                have hbel := h.bel hT
                clear hr hq
                refine wpOp_runN rfl rfl (fun K hK => ?_)
                go_simp
                refine hK _ _ ⟨l0, true, l2, l3, l4, l5, l6, l7, l8, l9, l10, l11, l12, l13, l14, _, _, _, _, _, _, _, _, _, _, _, _, _, _, rfl, rfl, ?_⟩
                exact { bel := h.bel, pre := h.pre, all := fun e => (by rw [hT] at e; cases e), fin := fun e => (by rw [hT] at e; cases e), d0 := h.d0, d1 := fun _ => ⟨rfl, trivial⟩, d2 := fun e => absurd (h.d2 e).2 (by rw [hme]; decide), d3 := h.d3, d4 := h.d4, d5 := h.d5, d6 := h.d6, d7 := h.d7, d8 := h.d8, d9 := h.d9, d10 := h.d10, d11 := h.d11, d12 := h.d12, d14 := fun e => absurd (h.d14 e).2.2.1 (by rw [hme]; decide) }
              | 2, hq, _ =>
                have hr := ready_depN hq rfl
                have hme : l2 = false := hr.1
                have e1 : l1 = true := hr.2 ⟨1, .data⟩ (by simp) (by kernel_rfl)
                have hT : l13 = false := by
                  cases hc9 : l13 with
                  | false => rfl
                  | true => exact absurd (h.all hc9).2.2.1 (by rw [hme]; decide)
                have hbel := h.bel hT
                obtain rfl := (h.d1 e1).1
                have x3 := HXP.out w3 hbel
                obtain ⟨c0, c1⟩ := x3.cells
                have ch := x3.heap
                have cl := x3.lt
                clear hr hq
                refine wpOp_runN rfl rfl (fun K hK => ?_)
                go_simp
                refine hK _ _ ⟨l0, l1, true, l3, l4, l5, l6, l7, l8, l9, l10, l11, l12, l13, l14, _, _, _, _, _, _, _, _, _, _, _, _, _, _, rfl, rfl, ?_⟩
                exact { bel := h.bel, pre := h.pre, all := fun e => (by rw [hT] at e; cases e), fin := fun e => (by rw [hT] at e; cases e), d0 := h.d0, d1 := h.d1, d2 := fun _ => ⟨rfl, e1⟩, d3 := h.d3, d4 := fun e => absurd (h.d4 e).2.1 (by rw [hme]; decide), d5 := h.d5, d6 := h.d6, d7 := h.d7, d8 := h.d8, d9 := h.d9, d10 := h.d10, d11 := h.d11, d12 := h.d12, d14 := fun e => absurd (h.d14 e).2.2.2.1 (by rw [hme]; decide) }
              | 3, hq, _ =>
                have hr := ready_depN hq rfl
                have hme : l3 = false := hr.1
                have hT : l13 = false := by
                  cases hc9 : l13 with
                  | false => rfl
                  | true => exact absurd (h.all hc9).2.2.2.1 (by rw [hme]; decide)
                have hbel := h.bel hT
                clear hr hq
                refine wpOp_runN rfl rfl (fun K hK => ?_)
                go_simp
                refine hK _ _ ⟨l0, l1, l2, true, l4, l5, l6, l7, l8, l9, l10, l11, l12, l13, l14, _, _, _, _, _, _, _, _, _, _, _, _, _, _, rfl, rfl, ?_⟩
                exact { bel := h.bel, pre := h.pre, all := fun e => (by rw [hT] at e; cases e), fin := fun e => (by rw [hT] at e; cases e), d0 := h.d0, d1 := h.d1, d2 := h.d2, d3 := fun _ => ⟨rfl, trivial⟩, d4 := fun e => absurd (h.d4 e).2.2 (by rw [hme]; decide), d5 := h.d5, d6 := h.d6, d7 := h.d7, d8 := h.d8, d9 := h.d9, d10 := h.d10, d11 := h.d11, d12 := h.d12, d14 := fun e => absurd (h.d14 e).2.2.2.2.1 (by rw [hme]; decide) }
              | 4, hq, _ =>
                have hr := ready_depN hq rfl
                have hme : l4 = false := hr.1
                have e2 : l2 = true := hr.2 ⟨2, .data⟩ (by simp) (by kernel_rfl)
                have e3 : l3 = true := hr.2 ⟨3, .data⟩ (by simp) (by kernel_rfl)
                have hT : l13 = false := by
                  cases hc9 : l13 with
                  | false => rfl
                  | true => exact absurd (h.all hc9).2.2.2.2.1 (by rw [hme]; decide)
                have hbel := h.bel hT
                obtain rfl := (h.d2 e2).1
                obtain rfl := (h.d3 e3).1
                clear hr hq
                refine wpOp_runN rfl rfl (fun K hK => ?_)
                go_simp
                refine hK _ _ ⟨l0, l1, l2, l3, true, l5, l6, l7, l8, l9, l10, l11, l12, l13, l14, _, _, _, _, _, _, _, _, _, _, _, _, _, _, rfl, rfl, ?_⟩
                exact { bel := h.bel, pre := h.pre, all := fun e => (by rw [hT] at e; cases e), fin := fun e => (by rw [hT] at e; cases e), d0 := h.d0, d1 := h.d1, d2 := h.d2, d3 := h.d3, d4 := fun _ => ⟨rfl, e2, e3⟩, d5 := fun e => absurd (h.d5 e).2.2 (by rw [hme]; decide), d6 := h.d6, d7 := h.d7, d8 := h.d8, d9 := h.d9, d10 := h.d10, d11 := h.d11, d12 := h.d12, d14 := fun e => absurd (h.d14 e).2.2.2.2.2.1 (by rw [hme]; decide) }
              | 5, hq, _ =>
                have hr := ready_depN hq rfl
                have hme : l5 = false := hr.1
                have e0 : l0 = true := hr.2 ⟨0, .data⟩ (by simp) (by kernel_rfl)
                have e4 : l4 = true := hr.2 ⟨4, .data⟩ (by simp) (by kernel_rfl)
                have hT : l13 = false := by
                  cases hc9 : l13 with
                  | false => rfl
                  | true => exact absurd (h.all hc9).2.2.2.2.2.1 (by rw [hme]; decide)
                have hbel := h.bel hT
                obtain rfl := (h.d0 e0).1
                obtain rfl := (h.d4 e4).1
                clear hr hq
                refine wpOp_runN rfl rfl (fun K hK => ?_)
                have hpre := h.pre hme
                subst hpre
                have hxl := HX1L.out
                have hdl := HDL.out
                refine wp_append_srcO _ _ 24 rfl BB 3 i0 (.int .i64 0) 1 8 Try.underlying24 hif hz0i hz1 hz2 rfl (by decide) _ _ _ rfl HRW.out _ _ (cellsI ds) rfl HSV.out (by rw [cellsI_len, hdl, Nat.mul_one]) (ints_one ds) (by unfold maxLen; omega) (by omega) HBB.out ?_
                intro v4 w4 hown4 hgrow4
                have hbel4 := hbel.grown hgrow4 (by have := HBB.out; exact Nat.le_trans this hbel.size) (fun k hk => (own_block HRW.out hk).1)
                have hnew := (Eq.subst (motive := fun z => OwnInts2 w4 BB v4 z) HXD.out (own2_app HDL.out hown4))
                refine hK _ _ ⟨l0, l1, l2, l3, l4, true, l6, l7, l8, l9, l10, l11, l12, l13, l14, _, _, _, _, _, _, _, _, _, _, _, _, _, _, rfl, rfl, ?_⟩
                exact { bel := fun _ => hbel4, pre := fun e => (by cases e), all := fun e => (by rw [hT] at e; cases e), fin := fun e => (by rw [hT] at e; cases e), d0 := h.d0, d1 := h.d1, d2 := h.d2, d3 := h.d3, d4 := h.d4, d5 := fun _ => ⟨fun _ => hnew, e0, e4⟩, d6 := h.d6, d7 := h.d7, d8 := fun e => absurd (h.d8 e).2.1 (by rw [hme]; decide), d9 := fun e => absurd (h.d9 e).2.1 (by rw [hme]; decide), d10 := fun e => absurd (h.d10 e).2.1 (by rw [hme]; decide), d11 := fun e => absurd (h.d11 e).2.1 (by rw [hme]; decide), d12 := fun e => absurd (h.d12 e).2.1 (by rw [hme]; decide), d14 := fun e => absurd (h.d14 e).2.2.2.2.2.2.1 (by rw [hme]; decide) }
              | 6, hq, _ =>
                have hr := ready_depN hq rfl
                have hme : l6 = false := hr.1
                have hT : l13 = false := by
                  cases hc9 : l13 with
                  | false => rfl
                  | true => exact absurd (h.all hc9).2.2.2.2.2.2.1 (by rw [hme]; decide)
                have hbel := h.bel hT
                clear hr hq
                refine wpOp_runN rfl rfl (fun K hK => ?_)
                go_simp
                refine hK _ _ ⟨l0, l1, l2, l3, l4, l5, true, l7, l8, l9, l10, l11, l12, l13, l14, _, _, _, _, _, _, _, _, _, _, _, _, _, _, rfl, rfl, ?_⟩
                exact { bel := h.bel, pre := h.pre, all := fun e => (by rw [hT] at e; cases e), fin := fun e => (by rw [hT] at e; cases e), d0 := h.d0, d1 := h.d1, d2 := h.d2, d3 := h.d3, d4 := h.d4, d5 := h.d5, d6 := fun _ => ⟨rfl, trivial⟩, d7 := fun e => absurd (h.d7 e).2 (by rw [hme]; decide), d8 := h.d8, d9 := h.d9, d10 := h.d10, d11 := h.d11, d12 := h.d12, d14 := fun e => absurd (h.d14 e).2.2.2.2.2.2.2.1 (by rw [hme]; decide) }
              | 7, hq, _ =>
                have hr := ready_depN hq rfl
                have hme : l7 = false := hr.1
                have e6 : l6 = true := hr.2 ⟨6, .data⟩ (by simp) (by kernel_rfl)
                have hT : l13 = false := by
                  cases hc9 : l13 with
                  | false => rfl
                  | true => exact absurd (h.all hc9).2.2.2.2.2.2.2.1 (by rw [hme]; decide)
                have hbel := h.bel hT
                obtain rfl := (h.d6 e6).1
                have x3 := HXP.out w3 hbel
                obtain ⟨c0, c1⟩ := x3.cells
                have ch := x3.heap
                have cl := x3.lt
                clear hr hq
                refine wpOp_runN rfl rfl (fun K hK => ?_)
                go_simp
                refine hK _ _ ⟨l0, l1, l2, l3, l4, l5, l6, true, l8, l9, l10, l11, l12, l13, l14, _, _, _, _, _, _, _, _, _, _, _, _, _, _, rfl, rfl, ?_⟩
                exact { bel := h.bel, pre := h.pre, all := fun e => (by rw [hT] at e; cases e), fin := fun e => (by rw [hT] at e; cases e), d0 := h.d0, d1 := h.d1, d2 := h.d2, d3 := h.d3, d4 := h.d4, d5 := h.d5, d6 := h.d6, d7 := fun _ => ⟨rfl, e6⟩, d8 := fun e => absurd (h.d8 e).2.2 (by rw [hme]; decide), d9 := h.d9, d10 := h.d10, d11 := h.d11, d12 := h.d12, d14 := fun e => absurd (h.d14 e).2.2.2.2.2.2.2.2.1 (by rw [hme]; decide) }
              | 8, hq, _ =>
                have hr := ready_depN hq rfl
                have hme : l8 = false := hr.1
                have e5 : l5 = true := hr.2 ⟨5, .chain⟩ (by simp) (by kernel_rfl)
                have e7 : l7 = true := hr.2 ⟨7, .data⟩ (by simp) (by kernel_rfl)
                have hT : l13 = false := by
                  cases hc9 : l13 with
                  | false => rfl
                  | true => exact absurd (h.all hc9).2.2.2.2.2.2.2.2.1 (by rw [hme]; decide)
                have hbel := h.bel hT
                obtain rfl := (h.d7 e7).1
                clear hr hq
                refine wpOp_runN rfl rfl (fun K hK => ?_)
                go_simp
                go_at_call 53
                refine Calls.mono (GO3.out w3 (HBW.out w3 hbel)) ?_
                rintro e w4 ⟨r, rfl, ho, hs4⟩
                have hbel4 := hbel.trans (hs4.mono (Nat.le_trans HBBW.out hbel.size))
                have hnew := ow2_of (Nat.le_trans HBB.out hbel.size) ((h.d5 e5).1 hT) ho
                refine hK _ _ ⟨l0, l1, l2, l3, l4, l5, l6, l7, true, l9, l10, l11, l12, l13, l14, _, _, _, _, _, _, _, _, _, _, _, _, _, _, rfl, rfl, ?_⟩
                exact { bel := fun _ => hbel4, pre := fun e => (by rw [e5] at e; cases e), all := fun e => (by rw [hT] at e; cases e), fin := fun e => (by rw [hT] at e; cases e), d0 := h.d0, d1 := h.d1, d2 := h.d2, d3 := h.d3, d4 := h.d4, d5 := fun e => ⟨fun hx => own2_below ((h.d5 e).1 hx) hs4, (h.d5 e).2⟩, d6 := h.d6, d7 := h.d7, d8 := fun _ => ⟨fun _ => hnew, e5, e7⟩, d9 := fun e => absurd (h.d9 e).2.2 (by rw [hme]; decide), d10 := fun e => absurd (h.d10 e).2.2.1 (by rw [hme]; decide), d11 := fun e => absurd (h.d11 e).2.2.1 (by rw [hme]; decide), d12 := fun e => absurd (h.d12 e).2.2.1 (by rw [hme]; decide), d14 := fun e => absurd (h.d14 e).2.2.2.2.2.2.2.2.2.1 (by rw [hme]; decide) }
              | 9, hq, _ =>
                have hr := ready_depN hq rfl
                have hme : l9 = false := hr.1
                have e5 : l5 = true := hr.2 ⟨5, .data⟩ (by simp) (by kernel_rfl)
                have e8 : l8 = true := hr.2 ⟨8, .data⟩ (by simp) (by kernel_rfl)
                have hT : l13 = false := by
                  cases hc9 : l13 with
                  | false => rfl
                  | true => exact absurd (h.all hc9).2.2.2.2.2.2.2.2.2.1 (by rw [hme]; decide)
                have hbel := h.bel hT
                obtain ⟨u3a, u3c, rfl⟩ := own_shape ((h.d5 e5).1 hT)
                obtain ⟨u9a, u9c, rfl⟩ := own_shape ((h.d8 e8).1 hT).1
                clear hr hq
                refine wpOp_runN rfl rfl (fun K hK => ?_)
                go_simp
                refine hK _ _ ⟨l0, l1, l2, l3, l4, l5, l6, l7, l8, true, l10, l11, l12, l13, l14, _, _, _, _, _, _, _, _, _, _, _, _, _, _, rfl, rfl, ?_⟩
                exact { bel := h.bel, pre := h.pre, all := fun e => (by rw [hT] at e; cases e), fin := fun e => (by rw [hT] at e; cases e), d0 := h.d0, d1 := h.d1, d2 := h.d2, d3 := h.d3, d4 := h.d4, d5 := h.d5, d6 := h.d6, d7 := h.d7, d8 := h.d8, d9 := fun _ => ⟨rfl, e5, e8⟩, d10 := fun e => absurd (h.d10 e).2.2.2 (by rw [hme]; decide), d11 := h.d11, d12 := h.d12, d14 := fun e => absurd (h.d14 e).2.2.2.2.2.2.2.2.2.2.1 (by rw [hme]; decide) }
              | 10, hq, _ =>
                have hr := ready_depN hq rfl
                have hme : l10 = false := hr.1
                have e8 : l8 = true := hr.2 ⟨8, .chain⟩ (by simp) (by kernel_rfl)
                have e9 : l9 = true := hr.2 ⟨9, .data⟩ (by simp) (by kernel_rfl)
                have e5 : l5 = true := (h.d9 e9).2.1
                have hT : l13 = false := by
                  cases hc9 : l13 with
                  | false => rfl
                  | true => exact absurd (h.all hc9).2.2.2.2.2.2.2.2.2.2.1 (by rw [hme]; decide)
                have hbel := h.bel hT
                obtain rfl := (h.d9 e9).1
                clear hr hq
                refine wpOp_runN rfl rfl (fun K hK => ?_)
                go_simp
                go_at_call 62
                refine Calls.mono (HM.out w3 _ (HBW.out w3 hbel) ⟨_, _, rfl, (own_of2 ((h.d5 e5).1 hT)).reads HXDL.out, (own_of2 ((h.d8 e8).1 hT).1).reads HYL.out⟩) ?_
                rintro e w4 ⟨rfl, hs4⟩
                have hbel4 := hbel.trans (hs4.mono (Nat.le_trans HBBW.out hbel.size))
                refine hK _ _ ⟨l0, l1, l2, l3, l4, l5, l6, l7, l8, l9, true, l11, l12, l13, l14, _, _, _, _, _, _, _, _, _, _, _, _, _, _, rfl, rfl, ?_⟩
                exact { bel := fun _ => hbel4, pre := fun e => (by rw [e5] at e; cases e), all := fun e => (by rw [hT] at e; cases e), fin := fun e => (by rw [hT] at e; cases e), d0 := h.d0, d1 := h.d1, d2 := h.d2, d3 := h.d3, d4 := h.d4, d5 := fun e => ⟨fun hx => own2_below ((h.d5 e).1 hx) hs4, (h.d5 e).2⟩, d6 := h.d6, d7 := h.d7, d8 := fun e => ⟨fun hx => ((h.d8 e).1 hx).below hs4, (h.d8 e).2⟩, d9 := h.d9, d10 := fun _ => ⟨rfl, e5, e8, e9⟩, d11 := fun e => absurd (h.d11 e).2.2.2 (by rw [hme]; decide), d12 := fun e => absurd (h.d12 e).2.2.2 (by rw [hme]; decide), d14 := fun e => absurd (h.d14 e).2.2.2.2.2.2.2.2.2.2.2.1 (by rw [hme]; decide) }
              | 11, hq, _ =>
                have hr := ready_depN hq rfl
                have hme : l11 = false := hr.1
                have e10 : l10 = true := hr.2 ⟨10, .data⟩ (by simp) (by kernel_rfl)
                have e5 : l5 = true := (h.d10 e10).2.1
                have e8 : l8 = true := (h.d10 e10).2.2.1
                have hT : l13 = false := by
                  cases hc9 : l13 with
                  | false => rfl
                  | true => exact absurd (h.all hc9).2.2.2.2.2.2.2.2.2.2.2.1 (by rw [hme]; decide)
                have hbel := h.bel hT
                obtain rfl := (h.d10 e10).1
                clear hr hq
                refine wpOp_runN rfl rfl (fun K hK => ?_)
                go_simp
                refine hK _ _ ⟨l0, l1, l2, l3, l4, l5, l6, l7, l8, l9, l10, true, l12, l13, l14, _, _, _, _, _, _, _, _, _, _, _, _, _, _, rfl, rfl, ?_⟩
                exact { bel := h.bel, pre := h.pre, all := fun e => (by rw [hT] at e; cases e), fin := fun e => (by rw [hT] at e; cases e), d0 := h.d0, d1 := h.d1, d2 := h.d2, d3 := h.d3, d4 := h.d4, d5 := h.d5, d6 := h.d6, d7 := h.d7, d8 := h.d8, d9 := h.d9, d10 := h.d10, d11 := fun _ => ⟨rfl, e5, e8, e10⟩, d12 := h.d12, d14 := fun e => absurd (h.d14 e).2.2.2.2.2.2.2.2.2.2.2.2.1 (by rw [hme]; decide) }
              | 12, hq, _ =>
                have hr := ready_depN hq rfl
                have hme : l12 = false := hr.1
                have e10 : l10 = true := hr.2 ⟨10, .data⟩ (by simp) (by kernel_rfl)
                have e5 : l5 = true := (h.d10 e10).2.1
                have e8 : l8 = true := (h.d10 e10).2.2.1
                have hT : l13 = false := by
                  cases hc9 : l13 with
                  | false => rfl
                  | true => exact absurd (h.all hc9).2.2.2.2.2.2.2.2.2.2.2.2 (by rw [hme]; decide)
                have hbel := h.bel hT
                obtain rfl := (h.d10 e10).1
                clear hr hq
                refine wpOp_runN rfl rfl (fun K hK => ?_)
                go_simp
                refine hK _ _ ⟨l0, l1, l2, l3, l4, l5, l6, l7, l8, l9, l10, l11, true, l13, l14, _, _, _, _, _, _, _, _, _, _, _, _, _, _, rfl, rfl, ?_⟩
                exact { bel := h.bel, pre := h.pre, all := fun e => (by rw [hT] at e; cases e), fin := fun e => (by rw [hT] at e; cases e), d0 := h.d0, d1 := h.d1, d2 := h.d2, d3 := h.d3, d4 := h.d4, d5 := h.d5, d6 := h.d6, d7 := h.d7, d8 := h.d8, d9 := h.d9, d10 := h.d10, d11 := h.d11, d12 := fun _ => ⟨rfl, e5, e8, e10⟩, d14 := fun e => absurd (h.d14 e).2.2.2.2.2.2.2.2.2.2.2.2.2.1 (by rw [hme]; decide) }
              | 13, hq, _ =>
                have hr := ready_depN hq rfl
                have hme : l13 = false := hr.1
                have e0 : l0 = true := hr.2 ⟨0, .phase⟩ (by simp) (by kernel_rfl)
                have e1 : l1 = true := hr.2 ⟨1, .phase⟩ (by simp) (by kernel_rfl)
                have e2 : l2 = true := hr.2 ⟨2, .phase⟩ (by simp) (by kernel_rfl)
                have e3 : l3 = true := hr.2 ⟨3, .phase⟩ (by simp) (by kernel_rfl)
                have e4 : l4 = true := hr.2 ⟨4, .phase⟩ (by simp) (by kernel_rfl)
                have e5 : l5 = true := hr.2 ⟨5, .phase⟩ (by simp) (by kernel_rfl)
                have e6 : l6 = true := hr.2 ⟨6, .phase⟩ (by simp) (by kernel_rfl)
                have e7 : l7 = true := hr.2 ⟨7, .phase⟩ (by simp) (by kernel_rfl)
                have e8 : l8 = true := hr.2 ⟨8, .phase⟩ (by simp) (by kernel_rfl)
                have e9 : l9 = true := hr.2 ⟨9, .phase⟩ (by simp) (by kernel_rfl)
                have e10 : l10 = true := hr.2 ⟨10, .chain⟩ (by simp) (by kernel_rfl)
                have e11 : l11 = true := hr.2 ⟨11, .data⟩ (by simp) (by kernel_rfl)
                have e12 : l12 = true := hr.2 ⟨12, .phase⟩ (by simp) (by kernel_rfl)
                have hbel := h.bel hme
                obtain rfl := (h.d0 e0).1
                obtain rfl := (h.d1 e1).1
                obtain rfl := (h.d2 e2).1
                obtain rfl := (h.d3 e3).1
                obtain rfl := (h.d4 e4).1
                obtain rfl := (h.d6 e6).1
                obtain rfl := (h.d7 e7).1
                obtain rfl := (h.d9 e9).1
                obtain rfl := (h.d10 e10).1
                obtain rfl := (h.d11 e11).1
                obtain rfl := (h.d12 e12).1
                have y3 := HYP.out w3 hbel
                obtain ⟨k0, k1⟩ := y3.cells
                have kh := y3.heap
                have kl := y3.lt
                have kf0 := y3.frozen 0
                have kf1 := y3.frozen 1
                clear hr hq
                have hF5 := (h.d5 e5).1 hme
                have hF8 := (h.d8 e8).1 hme
                refine wpOp_runN rfl rfl (fun K hK => ?_)
                obtain ⟨u3a, u3c, rfl⟩ := own_shape hF5
                obtain ⟨u9a, u9c, rfl⟩ := own_shape hF8.1
                go_simp
                refine hK _ _ ⟨l0, l1, l2, l3, l4, l5, l6, l7, l8, l9, l10, l11, l12, true, l14, _, _, _, _, _, _, _, _, _, _, _, _, _, _, rfl, rfl, ?_⟩
                exact { pre := fun e => (by rw [e5] at e; cases e), bel := fun e => (by cases e), all := fun _ => ⟨e0, e1, e2, e3, e4, e5, e6, e7, e8, e9, e10, e11, e12⟩, fin := fun _ => ⟨w3, hbel, rfl, hF5, hF8⟩, d0 := h.d0, d1 := h.d1, d2 := h.d2, d3 := h.d3, d4 := h.d4, d5 := fun e => ⟨fun e9 => (by cases e9), (h.d5 e).2⟩, d6 := h.d6, d7 := h.d7, d8 := fun e => ⟨fun e9 => (by cases e9), (h.d8 e).2⟩, d9 := h.d9, d10 := h.d10, d11 := h.d11, d12 := h.d12, d14 := fun e => absurd (h.d14 e).2.2.2.2.2.2.2.2.2.2.2.2.2.2 (by rw [hme]; decide) }
              | 14, hq, _ =>
                have hr := ready_depN hq rfl
                have hme : l14 = false := hr.1
                have e0 : l0 = true := hr.2 ⟨0, .phase⟩ (by simp) (by kernel_rfl)
                have e1 : l1 = true := hr.2 ⟨1, .phase⟩ (by simp) (by kernel_rfl)
                have e2 : l2 = true := hr.2 ⟨2, .phase⟩ (by simp) (by kernel_rfl)
                have e3 : l3 = true := hr.2 ⟨3, .phase⟩ (by simp) (by kernel_rfl)
                have e4 : l4 = true := hr.2 ⟨4, .phase⟩ (by simp) (by kernel_rfl)
                have e5 : l5 = true := hr.2 ⟨5, .phase⟩ (by simp) (by kernel_rfl)
                have e6 : l6 = true := hr.2 ⟨6, .phase⟩ (by simp) (by kernel_rfl)
                have e7 : l7 = true := hr.2 ⟨7, .phase⟩ (by simp) (by kernel_rfl)
                have e8 : l8 = true := hr.2 ⟨8, .phase⟩ (by simp) (by kernel_rfl)
                have e9 : l9 = true := hr.2 ⟨9, .phase⟩ (by simp) (by kernel_rfl)
                have e10 : l10 = true := hr.2 ⟨10, .phase⟩ (by simp) (by kernel_rfl)
                have e11 : l11 = true := hr.2 ⟨11, .phase⟩ (by simp) (by kernel_rfl)
                have e12 : l12 = true := hr.2 ⟨12, .data⟩ (by simp) (by kernel_rfl)
                have e13 : l13 = true := hr.2 ⟨13, .chain⟩ (by simp) (by kernel_rfl)
                obtain rfl := (h.d0 e0).1
                obtain rfl := (h.d1 e1).1
                obtain rfl := (h.d2 e2).1
                obtain rfl := (h.d3 e3).1
                obtain rfl := (h.d4 e4).1
                obtain rfl := (h.d6 e6).1
                obtain rfl := (h.d7 e7).1
                obtain rfl := (h.d9 e9).1
                obtain rfl := (h.d10 e10).1
                obtain rfl := (h.d11 e11).1
                obtain rfl := (h.d12 e12).1
                clear hr hq
                refine wpOp_runN rfl rfl (fun K hK => ?_)
                go_simp
                refine hK _ _ ⟨l0, l1, l2, l3, l4, l5, l6, l7, l8, l9, l10, l11, l12, l13, true, _, _, _, _, _, _, _, _, _, _, _, _, _, _, rfl, rfl, ?_⟩
                exact { bel := h.bel, pre := h.pre, all := h.all, fin := h.fin, d0 := h.d0, d1 := h.d1, d2 := h.d2, d3 := h.d3, d4 := h.d4, d5 := h.d5, d6 := h.d6, d7 := h.d7, d8 := h.d8, d9 := h.d9, d10 := h.d10, d11 := h.d11, d12 := h.d12, d14 := fun _ => ⟨rfl, e0, e1, e2, e3, e4, e5, e6, e7, e8, e9, e10, e11, e12, e13⟩ }
              | k + 15, hq, h18 => exact (Nat.not_lt_of_le (Nat.le_add_left 15 k) h18).elim
            case done =>
              rintro lb9 ac9 w3 ⟨l0, l1, l2, l3, l4, l5, l6, l7, l8, l9, l10, l11, l12, l13, l14, s0, s1, s2, s3, s4, s5, s6, s7, s8, s9, s10, s11, s12, s14, rfl, rfl, h⟩ hr
              cases l0
              · exact (ready_none2N hr 0 rfl rfl rfl).elim
              cases l1
              · exact (ready_none2N hr 1 rfl rfl rfl).elim
              cases l2
              · exact (ready_none2N hr 2 rfl rfl rfl).elim
              cases l3
              · exact (ready_none2N hr 3 rfl rfl rfl).elim
              cases l4
              · exact (ready_none2N hr 4 rfl rfl rfl).elim
              cases l5
              · exact (ready_none2N hr 5 rfl rfl rfl).elim
              cases l6
              · exact (ready_none2N hr 6 rfl rfl rfl).elim
              cases l7
              · exact (ready_none2N hr 7 rfl rfl rfl).elim
              cases l8
              · exact (ready_none2N hr 8 rfl rfl rfl).elim
              cases l9
              · exact (ready_none2N hr 9 rfl rfl rfl).elim
              cases l10
              · exact (ready_none2N hr 10 rfl rfl rfl).elim
              cases l11
              · exact (ready_none2N hr 11 rfl rfl rfl).elim
              cases l12
              · exact (ready_none2N hr 12 rfl rfl rfl).elim
              cases l13
              · exact (ready_none2N hr 13 rfl rfl rfl).elim
              cases l14
              · exact (ready_none2N hr 14 rfl rfl rfl).elim
              obtain rfl := (h.d0 rfl).1
              obtain rfl := (h.d1 rfl).1
              obtain rfl := (h.d2 rfl).1
              obtain rfl := (h.d3 rfl).1
              obtain rfl := (h.d4 rfl).1
              obtain rfl := (h.d6 rfl).1
              obtain rfl := (h.d7 rfl).1
              obtain rfl := (h.d9 rfl).1
              obtain rfl := (h.d10 rfl).1
              obtain rfl := (h.d11 rfl).1
              obtain rfl := (h.d12 rfl).1
              obtain rfl := (h.d14 rfl).1
              obtain ⟨w4, hbel, rfl, hF5, hF8⟩ := h.fin rfl
              clear h hr
              obtain ⟨u3a, u3c, rfl⟩ := own_shape hF5
              obtain ⟨u9a, u9c, rfl⟩ := own_shape hF8.1
              have y4 := ((HYP.out w4 hbel).set0 (.slice u3a xd.length u3c)).set1 (.slice u9a ys.length u9c)
              have k5 : OwnOI w4 BB w4.heap.size (.slice u3a xd.length u3c) xd := own_of2 hF5
              have k8 : OwnOI w4 BB w4.heap.size (.slice u9a ys.length u9c) ys := own_of2 hF8.1
              have k9 : OwnLa w4 BB w4.heap.size (.agg #[(.slice u3a xd.length u3c), (.slice u9a ys.length u9c)]) (xd, ys) := ⟨_, _, rfl, k5, k8, hF8.2⟩
              have HOL : Hid (OwnLa ((w4.setCell ⟨w.heap.size + 1, 0, none⟩ (.slice u3a xd.length u3c)).setCell ⟨w.heap.size + 1, 1, none⟩ (.slice u9a ys.length u9c)) w.heap.size ((w4.setCell ⟨w.heap.size + 1, 0, none⟩ (.slice u3a xd.length u3c)).setCell ⟨w.heap.size + 1, 1, none⟩ (.slice u9a ys.length u9c)).heap.size (.agg #[(.slice u3a xd.length u3c), (.slice u9a ys.length u9c)]) (xd, ys)) := ((k9.setO (b := w.heap.size + 1) (o := 0) (x := (.slice u3a xd.length u3c)) (Or.inl (by omega))).setO (b := w.heap.size + 1) (o := 1) (x := (.slice u9a ys.length u9c)) (Or.inl (by omega))).weak (by omega) (by rw [size_set, size_set]; exact Nat.le_refl _) (Nat.le_refl _)
              have HBE : Hid (Below w.heap.size w ((w4.setCell ⟨w.heap.size + 1, 0, none⟩ (.slice u3a xd.length u3c)).setCell ⟨w.heap.size + 1, 1, none⟩ (.slice u9a ys.length u9c))) := ((HBW.out w4 hbel).setCell (by show w.heap.size ≤ w.heap.size + 1; omega) _).setCell (by show w.heap.size ≤ w.heap.size + 1; omega) _
              have hyh := y4.heap
              clear hF5 hF8 y4 k5 k8 k9
              go_wp2_with fail
              refine bodyPost_ret (results_la rfl _ _ (w.heap.size + 1) 26 _ (0, 0) _ rfl hyh Try.underlying26 rfl (by kernel_rfl)) rfl ?_
              refine ⟨.agg #[(.slice u3a xd.length u3c), (.slice u9a ys.length u9c)], ?_, ?_, HBE.out⟩
              · rw [HQ.out, HCB.out]
                try rfl
              · rw [HQ.out, HCB.out]
                exact HOL.out
        · have HLL2 := HLL.out (by omega)
          subst HLL2
          have hul := HUL.out n
          generalize hun : UN n on = zs at *
          have HQ : Hid ((x1, UN n on) = (x1, zs)) := by
            show _ = _
            rw [hun]
          clear hun
          have HZL : Hid (zs.length = on) := hul
          clear hul HSRC HLS HLL HDR HUL GO3
          generalize hCB : goodLa (x1, zs) = CB at *
          have HCB : Hid (goodLa (x1, zs) = CB) := hCB
          clear hCB
          have hkn : gn ≤ n := by omega
          have hkn2 : ¬ n < gn := hk
          have g5 := GL.out wm HBM.out
          obtain ⟨a0, a1⟩ := HXM.out.cells
          have ah := HXM.out.heap
          have al := HXM.out.lt
          go_wp2_with fail
          refine g5.mono ?_
          rintro e w5 ⟨r, rfl, ho, hs⟩
          have HB5 : Hid (Below w.heap.size w w5) := HBM.out.trans (hs.mono (by omega))
          have k1 : OwnOI w5 BB wm.heap.size (.slice ra x1.length rc) x1 := OffIn.belowR (own_of2 HROW.out) hs (Nat.le_refl _)
          have k2 : OwnOI w5 wm.heap.size w5.heap.size r zs := own_of2 ho
          have hs5 := hs.size
          obtain ⟨za, zn, zc, rfl⟩ := k2.shape
          have HO5 : Hid (OwnLa w5 BB w5.heap.size (.agg #[.slice ra x1.length rc, .slice za zn zc]) (x1, zs)) := ⟨_, _, rfl, OffIn.weak k1 (Nat.le_refl _) hs5 (Nat.le_refl _), OffIn.weak k2 (by omega) (Nat.le_refl _) (Nat.le_refl _), ap3_of k1 k2 (Or.inl (Nat.le_refl _))⟩
          have g6 := HM.out w5 (.agg #[.slice ra x1.length rc, .slice za zn zc]) HB5.out (HO5.out.reads ⟨by have := HX1L.out; show x1.length ≤ 1048576; omega, by have := HZL.out; show zs.length ≤ 1048576; omega⟩)
          have y5 := HYM.out.below hs (by omega)
          clear g5 ho hs k1 k2 a0 a1 ah al
          go_wp2_with fail
          refine g6.mono ?_
          rintro e w6 ⟨rfl, hs⟩
          have HB6 : Hid (Below w.heap.size w w6) := HB5.out.trans (hs.mono (by omega))
          have y6 := y5.below hs (by omega)
          have HO6 : Hid (OwnLa w6 BB w6.heap.size (.agg #[.slice ra x1.length rc, .slice za zn zc]) (x1, zs)) := (HO5.out.same hs.size (fun i _ h9 => hs.block i h9)).weak (Nat.le_refl _) hs.size (Nat.le_refl _)
          clear g6 hs y5 HO5
          cases CB with
          | false =>
            have HZO : Hid (OwnLa ((w6.setCell ⟨w.heap.size + 1, 0, none⟩ (.slice none 0 0)).setCell ⟨w.heap.size + 1, 1, none⟩ (.slice none 0 0)) w.heap.size ((w6.setCell ⟨w.heap.size + 1, 0, none⟩ (.slice none 0 0)).setCell ⟨w.heap.size + 1, 1, none⟩ (.slice none 0 0)).heap.size (.agg #[.slice none 0 0, .slice none 0 0]) ([], [])) := ownLa_nil _ _
            obtain ⟨k0, k1⟩ := y6.cells
            have kh := y6.heap
            have kl := y6.lt
            have kf0 := y6.frozen 0
            have kf1 := y6.frozen 1
            have y9 := (y6.set0 (.slice none 0 0)).set1 (.slice none 0 0)
            have hyh := y9.heap
            have HBE : Hid (Below w.heap.size w ((w6.setCell ⟨w.heap.size + 1, 0, none⟩ (.slice none 0 0)).setCell ⟨w.heap.size + 1, 1, none⟩ (.slice none 0 0))) := (HB6.out.setCell (by show w.heap.size ≤ w.heap.size + 1; omega) _).setCell (by show w.heap.size ≤ w.heap.size + 1; omega) _
            clear y9 y6
            go_wp2_with fail
            refine bodyPost_ret (results_la rfl _ _ (w.heap.size + 1) 26 _ (0, 0) _ rfl hyh Try.underlying26 rfl (by kernel_rfl)) rfl ?_
            refine ⟨.agg #[.slice none 0 0, .slice none 0 0], ?_, ?_, HBE.out⟩
            · rw [HQ.out, HCB.out]
              try rfl
            · rw [HQ.out, HCB.out]
              exact HZO.out
          | true =>
            obtain ⟨k0, k1⟩ := y6.cells
            have kh := y6.heap
            have kl := y6.lt
            have kf0 := y6.frozen 0
            have kf1 := y6.frozen 1
            have y9 := (y6.set0 (.slice ra x1.length rc)).set1 (.slice za zn zc)
            have hyh := y9.heap
            have HOL : Hid (OwnLa ((w6.setCell ⟨w.heap.size + 1, 0, none⟩ (.slice ra x1.length rc)).setCell ⟨w.heap.size + 1, 1, none⟩ (.slice za zn zc)) w.heap.size ((w6.setCell ⟨w.heap.size + 1, 0, none⟩ (.slice ra x1.length rc)).setCell ⟨w.heap.size + 1, 1, none⟩ (.slice za zn zc)).heap.size (.agg #[.slice ra x1.length rc, .slice za zn zc]) (x1, zs)) := ((HO6.out.setO (b := w.heap.size + 1) (o := 0) (x := .slice ra x1.length rc) (Or.inl (by omega))).setO (b := w.heap.size + 1) (o := 1) (x := .slice za zn zc) (Or.inl (by omega))).weak (by omega) (by rw [size_set, size_set]; exact Nat.le_refl _) (Nat.le_refl _)
            have HBE : Hid (Below w.heap.size w ((w6.setCell ⟨w.heap.size + 1, 0, none⟩ (.slice ra x1.length rc)).setCell ⟨w.heap.size + 1, 1, none⟩ (.slice za zn zc))) := (HB6.out.setCell (by show w.heap.size ≤ w.heap.size + 1; omega) _).setCell (by show w.heap.size ≤ w.heap.size + 1; omega) _
            clear y9 y6
            go_wp2_with fail
            refine bodyPost_ret (results_la rfl _ _ (w.heap.size + 1) 26 _ (0, 0) _ rfl hyh Try.underlying26 rfl (by kernel_rfl)) rfl ?_
            refine ⟨.agg #[.slice ra x1.length rc, .slice za zn zc], ?_, ?_, HBE.out⟩
            · rw [HQ.out, HCB.out]
              try rfl
            · rw [HQ.out, HCB.out]
              exact HOL.out
end Go.Proofs.Ythamdefkcjfjpaa
