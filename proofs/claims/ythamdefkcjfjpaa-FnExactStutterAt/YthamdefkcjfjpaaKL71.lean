/-
  The program's letter and between: letters of a word, and letters cut out of it.
  The program's cutAt: a lasso cut out of a word.
  The model's cuts of a word: l9First, l1Own.
  The model's l9Suffix.
  The program's LetterAt, UnrollOf, ifGood, TurnLoop, SuffixOf.
  The model's LetterAt, UnrollOf.
  The model's SuffixOf.
  append at a full slice that is no row of one's own (as 'a[:n:n]'), of nothing or of a row from anywhere.
  The program's between once more: what it answers has no room behind it.
  The program's StutterAt.
  Lists of numbers compared: slices.Equal, and the model's l1Same.
  The program's leastRound and leastTurn.
-/
import Derived.Test.YthamdefkcjfjpaaSLasso
import Derived.Laws.CopyOwn
import Derived.Deep.RegionLaw
import Derived.Test.YthamdefkcjfjpaaRw9
import Derived.Test.YthamdefkcjfjpaaPut
import Derived.Test.YthamdefkcjfjpaaIntSS
import Derived.Test.YthamdefkcjfjpaaIGoodL
import Derived.ArgAppend
import Derived.Test.YthamdefkcjfjpaaAMade
import Derived.Lib.QuietBelow
import Derived.BigQuiet
namespace Go.Proofs.Ythamdefkcjfjpaa
open Go Go.RowKit
open M
set_option linter.unusedVariables false
set_option linter.unusedSimpArgs false

set_option maxRecDepth 100000 in
set_option maxHeartbeats 2000000 in
theorem letter_any (v : Value) (l : La) (hg : goodLa l = true) (k : Nat) (hk : k ≤ 2000) (w : World) (h : AtLa w v l) :
    Calls Try.prog 63 #[v, .int .i64 k] w fun e w' => e = .returned (.int .i64 (letL l k)) ∧ Below w.heap.size w w' := by
  obtain ⟨g, o, rfl, h1, h2⟩ := h
  obtain ⟨q1, q2, q3⟩ := good_lens hg
  obtain ⟨ga, gc, rfl, hc1⟩ := h1.opened
  obtain ⟨oa, oc, rfl, hc2⟩ := h2.opened
  have HB0 : Hid (Below w.heap.size w (w.alloc (.cells #[.slice ga l.1.length gc, .slice oa l.2.length oc] 26))) := (Below.refl _ _).alloc (Nat.le_refl _) _
  have x0 := box2_alloc w 26 (.slice ga l.1.length gc) (.slice oa l.2.length oc)
  by_cases hlt : k < l.1.length
  · obtain ⟨b, off, rfl, hb, cc⟩ := hc1 k _ (let_stem_at hlt)
    have cc1 := cc
    rw [← HB0.out.cell (p := ⟨b, off + k, none⟩) hb] at cc1
    generalize letL l k = X at *
    generalize l.1.length = n1 at *
    generalize l.2.length = n2 at *
    obtain ⟨a0, a1⟩ := x0.cells
    have ah := x0.heap
    have al := x0.lt
    clear hc1 hc2 h1 h2 hg cc x0
    go_enter Try.func63, Try.ntmps63
    go_wp2_with fail
    go_ret
    exact ⟨rfl, HB0.out⟩
  · obtain ⟨b, off, rfl, hb, cc⟩ := hc2 _ _ (let_loop_at q2 (by omega : l.1.length ≤ k))
    have cc1 := cc
    rw [← HB0.out.cell (p := ⟨b, off + (k - l.1.length) % l.2.length, none⟩) hb] at cc1
    have hmod := int_mod k l.1.length l.2.length (by omega)
    have hml := Nat.mod_lt (k - l.1.length) (show 0 < l.2.length by omega)
    generalize letL l k = X at *
    generalize l.1.length = n1 at *
    generalize l.2.length = n2 at *
    generalize (k - n1) % n2 = R at *
    obtain ⟨a0, a1⟩ := x0.cells
    have ah := x0.heap
    have al := x0.lt
    clear hc1 hc2 h1 h2 hg cc x0
    go_enter Try.func63, Try.ntmps63
    go_wp2_with fail
    go_quiet (fail)
    go_wp2_with fail
    go_ret
    exact ⟨rfl, below_drewN HB0.out _⟩
/-- the word so far, and behind it noughts -/
def part9 (l : La) (S j : Nat) : List Value := cellsI (unrL l 0 j) ++ List.replicate (S - j) (.int .i64 0)
theorem part9_len (l : La) (S j : Nat) (h : j ≤ S) : (part9 l S j).length = S := by
  unfold part9
  rw [List.length_append, cellsI_len, unrL_len, List.length_replicate]
  omega
theorem part9_copy (l : La) (S j : Nat) (xs : List Int) (hx : unrL l j xs.length = xs) (h : j + xs.length ≤ S) : splice (part9 l S j) j (cellsI xs) = part9 l S (j + xs.length) := by
  have hl : (cellsI (unrL l 0 j)).length = j := by rw [cellsI_len, unrL_len]
  unfold splice part9
  rw [List.take_append_of_le_length (by omega), List.take_of_length_le (by omega), unrL_append, Nat.zero_add, hx]
  rw [cellsI_len, List.drop_append, hl, List.drop_of_length_le (by omega), List.nil_append, List.drop_replicate]
  unfold cellsI
  rw [List.map_append, List.append_assoc]
  congr 2
  congr 1
  omega
theorem loop_at (l : La) (r : Nat) : unrL l (l.1.length + r * l.2.length) l.2.length = l.2 := by
  refine ext_at (unrL_len _ _ _) fun i hi => ?_
  rw [unrL_len] at hi
  have h1 := unrL_loop l
  have h2 := congrArg (fun x : List Int => x[i]?) h1
  simp only [unrL_at _ _ _ _ hi] at h2
  rw [unrL_at _ _ _ _ hi, ← h2]
  congr 1
  rw [show l.1.length + r * l.2.length + i = (l.1.length + i) + r * l.2.length from by omega]
  exact (per_loop l).times r _ (by omega)
theorem src_pos {w w1 : World} {a : Option Addr} {t : List Int} (hc : ∀ (i : Nat) (x : Int), t[i]? = some x → ∃ b off : Nat, a = some ⟨b, off, none⟩ ∧ b < w.heap.size ∧ w.cell? ⟨b, off + i, none⟩ = some (.int .i64 x)) (hb : Below w.heap.size w w1) :
    0 < (cellsI t).length → ∃ ad, a = some ad ∧ ∀ (j : Nat) (v : Value), (cellsI t)[j]? = some v → w1.cell? (ad.add j) = some v := by
  intro h0
  rw [cellsI_len] at h0
  obtain ⟨b, off, rfl, hlt, _⟩ := hc 0 _ (List.getElem?_eq_getElem h0)
  refine ⟨_, rfl, fun j v hv => ?_⟩
  unfold cellsI at hv
  rw [List.getElem?_map, Option.map_eq_some_iff] at hv
  obtain ⟨x, hx, rfl⟩ := hv
  obtain ⟨b', off', e, hlt', hc'⟩ := hc j x hx
  injection e with e
  injection e with e1 e2
  subst e1 e2
  have ea : (⟨b, off, none⟩ : Addr).add j = ⟨b, off + j, none⟩ := by
    unfold Addr.add
    by_cases h9 : j = 0
    · subst h9
      simp
    · simp [h9]
  rw [ea, hb.cell (p := ⟨b, off + j, none⟩) hlt]
  exact hc'
theorem own_heap {w : World} {B g n : Nat} {e : TypeId} {xs : List Value} (h : w.ownsRow B e 1 (.slice (some ⟨g, 0, none⟩) n n) n xs) : w.heap[g]? = some (.cells xs.toArray e (0, 0)) := by
  rcases h.2 with ⟨h1, _⟩ | ⟨g', cap, cur, h1, _, h3, _, _, h6, h7⟩
  · cases h1
  · injection h1 with e1 _ e3
    injection e1 with e1
    injection e1 with e1
    subst e1 e3
    rw [h3]
    congr 2
    rw [← h7, List.take_of_length_le (by rw [Array.length_toList]; omega)]
set_option maxRecDepth 100000 in
set_option maxHeartbeats 4000000 in
theorem between_any (v : Value) (l : La) (hg : goodLa l = true) (a b : Nat) (hab : a ≤ b) (hb : b ≤ 1100) (w : World) (h : AtLa w v l) :
    Calls Try.prog 47 #[v, .int .i64 a, .int .i64 b] w fun e w' => ∃ r, e = .returned r ∧ OwnOI w' w.heap.size w'.heap.size r (unrL l a (b - a)) ∧ Below w.heap.size w w' := by
  obtain ⟨q1, q2, q3⟩ := good_lens hg
  obtain ⟨g, o, rfl, h1, h2⟩ := h
  obtain ⟨i0, hi, hz0, hz1, hz2⟩ := info_parts infoInt
  obtain ⟨ga, gc, rfl, hc1⟩ := h1.opened
  obtain ⟨oa, oc, rfl, hc2⟩ := h2.opened
  -- how far the word is laid
  obtain ⟨Q, hQ⟩ : ∃ Q : Nat, b / l.2.length = Q := ⟨_, rfl⟩
  have hdm := Nat.div_add_mod b l.2.length
  have hml := Nat.mod_lt b (show 0 < l.2.length by omega)
  have hquo : (b : Int).tdiv (l.2.length : Int) = (Q : Int) := by rw [← hQ]; rfl
  obtain ⟨T, hT⟩ : ∃ T : Nat, (Q + 1) * l.2.length = T := ⟨_, rfl⟩
  have hTi : ((Q : Int) + 1) * (l.2.length : Int) = (T : Int) := by rw [← hT]; simp
  have hbT : b ≤ T := by rw [← hT, Nat.add_mul, Nat.mul_comm Q, ← hQ]; omega
  have hTb : T ≤ b + 24 := by
    have e : l.2.length * (b / l.2.length) ≤ b := by omega
    rw [← hT, Nat.add_mul, Nat.mul_comm Q, ← hQ]
    omega
  have hQ1 : Q ≤ 1100 := by rw [← hQ]; exact Nat.le_trans (Nat.div_le_self _ _) hb
  obtain ⟨S, hS⟩ : ∃ S : Nat, l.1.length + T = S := ⟨_, rfl⟩
  have HP1 : Hid (∀ w1 : World, Below w.heap.size w w1 → 0 < (cellsI l.1).length → ∃ ad, ga = some ad ∧ ∀ (j : Nat) (v : Value), (cellsI l.1)[j]? = some v → w1.cell? (ad.add j) = some v) := fun w1 hb => src_pos hc1 hb
  have HP2 : Hid (∀ w1 : World, Below w.heap.size w w1 → 0 < (cellsI l.2).length → ∃ ad, oa = some ad ∧ ∀ (j : Nat) (v : Value), (cellsI l.2)[j]? = some v → w1.cell? (ad.add j) = some v) := fun w1 hb => src_pos hc2 hb
  have hn1 : (cellsI l.1).length = l.1.length := cellsI_len _
  have hn2 : (cellsI l.2).length = l.2.length := cellsI_len _
  have HC1 : Hid (splice (part9 l S 0) 0 (cellsI l.1) = part9 l S l.1.length) := by
    show splice _ _ _ = _
    rw [part9_copy l S 0 l.1 (unrL_stem l) (by omega), Nat.zero_add]
  have HC2 : Hid (∀ r : Nat, l.1.length + r * l.2.length + l.2.length ≤ S → splice (part9 l S (l.1.length + r * l.2.length)) (l.1.length + r * l.2.length) (cellsI l.2) = part9 l S (l.1.length + r * l.2.length + l.2.length)) := fun r hr => part9_copy l S _ l.2 (loop_at l r) hr
  have HPL : Hid (∀ j, j ≤ S → (part9 l S j).length = S) := fun j hj => part9_len l S j hj
  have HEND : Hid (∀ (i : Nat) (x : Value), (cellsI (unrL l a (b - a)))[i]? = some x → (part9 l S S)[a + i]? = some x) := fun i x hx => by
    have hi := (List.getElem?_eq_some_iff.1 hx).1
    rw [cellsI_len, unrL_len] at hi
    unfold part9
    rw [Nat.sub_self, List.replicate_zero, List.append_nil]
    unfold cellsI at hx ⊢
    rw [List.getElem?_map, unrL_at _ _ _ _ (by omega)] at hx ⊢
    rw [Nat.zero_add]
    exact hx
  have hlE : (cellsI (unrL l a (b - a))).length = b - a := by rw [cellsI_len, unrL_len]
  have HO1 : Hid (∀ c ∈ cellsI l.1, c.oneCell' = true) := ints_one l.1
  have HO2 : Hid (∀ c ∈ cellsI l.2, c.oneCell' = true) := ints_one l.2
  have HRQ : Hid (∀ r : Nat, l.1.length + r * l.2.length < S → r ≤ Q ∧ l.1.length + r * l.2.length + l.2.length ≤ S) := fun r hr => by
    have e1 : r * l.2.length < T := by omega
    have e2 : r < Q + 1 := by
      rw [← hT] at e1
      exact Nat.lt_of_mul_lt_mul_right e1
    refine ⟨by omega, ?_⟩
    have e3 : (r + 1) * l.2.length ≤ T := by
      rw [← hT]
      exact Nat.mul_le_mul_right _ (by omega)
    rw [Nat.add_mul, Nat.one_mul] at e3
    omega
  have HSQ : Hid (S = l.1.length + (Q + 1) * l.2.length) := by
    show S = _
    rw [hT, hS]
  have hSi : (l.1.length : Int) + (T : Int) = (S : Int) := by omega
  have hSb : S ≤ 1148 := by omega
  have hbS : b ≤ S := by omega
  have HB0 : Hid (Below w.heap.size w (w.alloc (.cells #[.slice ga l.1.length gc, .slice oa l.2.length oc] 26))) := (Below.refl _ _).alloc (Nat.le_refl _) _
  have x0 := box2_alloc w 26 (.slice ga l.1.length gc) (.slice oa l.2.length oc)
  have hw0z : (w.alloc (.cells #[.slice ga l.1.length gc, .slice oa l.2.length oc] 26)).heap.size = w.heap.size + 1 := World.size_alloc _ _
  have HE0 : Hid (part9 l S 0 = List.replicate S (.int .i64 0)) := by
    show part9 l S 0 = _
    unfold part9
    rw [unrL_zero]
    simp [cellsI]
  generalize hEE : cellsI (unrL l a (b - a)) = EE at *
  have HEE : Hid _ := hEE
  clear hEE
  generalize part9 l S = PP at *
  generalize cellsI l.1 = C1 at *
  generalize cellsI l.2 = C2 at *
  generalize l.1.length = n1 at *
  generalize l.2.length = n2 at *
  have HX : Hid (Box2 (w.alloc (.cells #[.slice ga n1 gc, .slice oa n2 oc] 26)) w.heap.size 26 (.slice ga n1 gc) (.slice oa n2 oc)) := x0
  obtain ⟨a0, a1⟩ := x0.cells
  have ah := x0.heap
  have al := x0.lt
  clear hc1 hc2 h1 h2 hg hQ hT hS hdm hml x0
  go_enter Try.func47, Try.ntmps47
  go_wp2_with (at_make; refine wpList_make_full _ rfl _ _ 24 rfl (w.heap.size + 1) 3 i0 (.int .i64 0) 1 Try.underlying24 hi hz0 hz1 .i64 .i64 _ _ S rfl rfl (by omega) (by omega) (by rw [hz2]; omega) (by unfold maxLen; omega) (by rw [hw0z]; exact Nat.le_refl _) ?_)
  intro w1 own1 grow1
  have hg1 := own_heap own1
  rw [toList_madeCells_one, ← HE0.out] at hg1
  have HB1 : Hid (Below w.heap.size w w1) := HB0.out.grown grow1 HB0.out.size (fun k hk => by cases hk)
  have HX1 : Hid (Box2 w1 w.heap.size 26 (.slice ga n1 gc) (.slice oa n2 oc)) := HX.out.grown grow1 (fun e => by cases e)
  have hz1s : w.heap.size + 1 < w1.heap.size := (Array.getElem?_eq_some_iff.1 hg1).1
  have hint : (Try.prog.info? 3).map (·.size) = some 1 := by rw [hi]; simp [hz1]
  have hp1 : 0 < C1.length → (some ⟨w.heap.size + 1, 0, none⟩ : Option Addr) = some ⟨w.heap.size + 1, 0, none⟩ ∧ ∃ ad, ga = some ad ∧ ∀ (j : Nat) (v : Value), C1[j]? = some v → w1.cell? (ad.add j) = some v := fun h0 => ⟨rfl, HP1.out w1 HB1.out h0⟩
  have hf1 : 0 + C1.length ≤ (PP 0).length := by rw [HPL.out 0 (by omega)]; omega
  have hm1 : C1.length = Nat.min n1 S := by rw [hn1]; exact (Nat.min_eq_left (by omega)).symm
  obtain ⟨b0, b1⟩ := HX1.out.cells
  have bh := HX1.out.heap
  have bl := HX1.out.lt
  clear own1 grow1 a0 a1 ah al
  go_wp2_with (refine wpList_copy_splice rfl _ _ _ _ rfl 3 Try.underlying24 hint _ _ _ _ _ _ rfl rfl (w.heap.size + 1) 0 (PP 0) 3 hg1 C1 hm1 hp1 hf1 HO1.out (w.heap.size + 1) _ (Below.refl _ _) (Nat.le_refl _) ?_)
  intro w2 HG2 hb2
  have HB2 : Hid (Below w.heap.size w w2) := HB1.out.trans (hb2.mono (by omega))
  have HX2 : Hid (Box2 w2 w.heap.size 26 (.slice ga n1 gc) (.slice oa n2 oc)) := HX1.out.below hb2 (by omega)
  have HG3 : Hid (w2.heap[w.heap.size + 1]? = some (.cells (PP (n1 + 0 * n2)).toArray 3 (0, 0))) := by
    have h9 := HG2.out
    rw [HC1.out] at h9
    show w2.heap[w.heap.size + 1]? = _
    rw [Nat.zero_mul, Nat.add_zero]
    exact h9
  clear HG2 hb2 b0 b1 bh bl hg1 hp1 hf1
  go_wp2_with fail
  go_loopw [9] (fun i wr => ∃ r j : Nat, j = n1 + r * n2 ∧ j ≤ S ∧ i = .int .i64 j ∧ Hid (wr.heap[w.heap.size + 1]? = some (.cells (PP j).toArray 3 (0, 0))) ∧ Hid (Below w.heap.size w wr) ∧ Hid (Box2 wr w.heap.size 26 (.slice ga n1 gc) (.slice oa n2 oc))) (fun i _ => S - (intOf i).toNat)
  case atStart => exact ⟨0, n1, by simp, by omega, rfl, by have h9 := HG3.out; rw [Nat.zero_mul, Nat.add_zero] at h9; exact h9, HB2, HX2⟩
  case round =>
    obtain ⟨r, j, hjr, hj, rfl, HG, HB, HX3⟩ := hrel
    clear HB2 HX2 HG3 HB1 HX1 HB0 HX
    obtain ⟨b0, b1⟩ := HX3.out.cells
    have bh := HX3.out.heap
    have bl := HX3.out.lt
    have hgl := HG.out
    have hsz := HB.out.size
    by_cases hlt : j < S
    · obtain ⟨hrQ, hfit⟩ := HRQ.out r (by rw [← hjr]; exact hlt)
      rw [← hjr] at hfit
      have hne : ¬ S = j := by omega
      have HP3 : Hid (0 < C2.length → ∃ ad, oa = some ad ∧ ∀ (j : Nat) (v : Value), C2[j]? = some v → wr.drew.cell? (ad.add j) = some v) := fun h0 => HP2.out wr.drew HB.out.drew h0
      have hf2 : j + C2.length ≤ (PP j).length := by rw [HPL.out j hj, hn2]; omega
      have hm2 : C2.length = Nat.min n2 (S - j) := by rw [hn2]; exact (Nat.min_eq_left (by omega)).symm
      have HSP : Hid (splice (PP j) j C2 = PP (j + n2)) := by
        have h9 := HC2.out r (by rw [← hjr]; exact hfit)
        rw [← hjr] at h9
        exact h9
      have HJ : Hid (j + n2 = n1 + (r + 1) * n2) := by
        show j + n2 = _
        rw [Nat.add_mul, Nat.one_mul]
        omega
      have hwr : IntKind.i64.wrap ((j : Int) + (n2 : Int)) = (j : Int) + (n2 : Int) := IntWalk.i64_in _ ⟨by omega, by omega⟩
      clear hjr
      go_wp2_with fail
      go_region_law (refine step_copy_splice rfl _ _ _ _ rfl 3 Try.underlying24 hint (some ⟨w.heap.size + 1, j, none⟩) oa (S - j) (S - j) n2 oc (by simp [Act.eval, Act.put]) (by simp [Act.eval, Act.put]) (w.heap.size + 1) j (PP j) 3 hgl C2 hm2 (fun h0 => ⟨rfl, HP3.out h0⟩) hf2 HO2.out (w.heap.size + 1) _ (Below.refl _ _) (Nat.le_refl _) ?_; intro w4 HG4 hb4)
      all_goals
        have HG5 : Hid (w4.heap[w.heap.size + 1]? = some (.cells (PP (j + n2)).toArray 3 (0, 0))) := by
          have h9 := HG4.out
          rw [HSP.out] at h9
          exact h9
        have HB4 : Hid (Below w.heap.size w w4) := HB.out.drew.trans (hb4.mono (Nat.le_succ _))
        have HX4 : Hid (Box2 w4 w.heap.size 26 (.slice ga n1 gc) (.slice oa n2 oc)) := Box2.below (w := wr.drew) ⟨HX3.out.heap⟩ hb4 (by omega)
        clear HG4 hb4 b0 b1 bh bl hgl HG HB HX3
        go_wp2_with fail
        refine ⟨?_, ?measure⟩
        (repeat apply Exists.intro)
        refine ⟨?rel, rfl⟩
        case rel => exact ⟨r + 1, j + n2, HJ.out, hfit, by simp, HG5, HB4, HX4⟩
        case measure =>
          show S - ((j : Int) + (n2 : Int)).toNat < S - ((j : Int)).toNat
          omega
    · obtain rfl : j = S := by omega
      have hgs := (Array.getElem?_eq_some_iff.1 hgl).1
      by_cases hba : b = a
      · subst hba
        have hsub : b - b = 0 := Nat.sub_self b
        have HU : Hid (unrL l b (b - b) = unrL l b 0) := by show unrL l b (b - b) = _; rw [hsub]
        have HR : Hid (∀ (g off cap : Nat), OwnOI wr w.heap.size wr.heap.size (.slice (some ⟨g, off, none⟩) 0 cap) (unrL l b 0)) := fun g off cap => ⟨Nat.le_refl _, Or.inl ⟨rfl, _, cap, rfl, (fun e => by cases e), fun ad e => by cases e; rfl⟩⟩
        clear hgl b0 b1 bh bl HEND hjr
        go_wp2_with fail
        go_ret
        exact ⟨_, rfl, by rw [HU.out]; exact HR.out (w.heap.size + 1) 0 0, HB.out⟩
      have HR : Hid (OwnOI wr w.heap.size wr.heap.size (.slice (some ⟨w.heap.size + 1, a, none⟩) (b - a) (b - a)) (unrL l a (b - a))) := by
        refine ⟨Nat.le_refl _, Or.inr ⟨w.heap.size + 1, a, b - a, by rw [cellsI_len, unrL_len], Nat.le_succ _, hgs, fun i x hx => ?_, (fun i => by simp [World.frozen?, hgl]), by rw [cellsI_len, unrL_len]; exact Nat.le_refl _⟩⟩
        have h9 := HEND.out i x (by rw [← HEE.out]; exact hx)
        simp [World.cell?, hgl, h9]
      have hba2 : ¬ a = b := fun e => hba e.symm
      clear hgl b0 b1 bh bl HEND hjr
      go_wp2_with fail
      go_ret
      exact ⟨_, rfl, HR.out, HB.out⟩
end Go.Proofs.Ythamdefkcjfjpaa

namespace Go.Proofs.Ythamdefkcjfjpaa
open Go Go.RowKit
open M
set_option linter.unusedVariables false
set_option linter.unusedSimpArgs false

structure RegCut (W w' : World) (B Y : Nat) (ga : Option Addr) (gn gc : Nat) (oa : Option Addr) (on oc a t r T : Nat) (xs ys : List Int) (l0 l1 l2 l3 l4 l5 l6 l7 l8 l9 l10 l11 : Bool) (s0 s1 s2 s3 s4 s5 s6 s7 s8 s9 s10 : Value) : Prop where
  (bel : l11 = false → Below W.heap.size W w')
  (all : l11 = true → l0 = true ∧ l1 = true ∧ l2 = true ∧ l3 = true ∧ l4 = true ∧ l5 = true ∧ l6 = true ∧ l7 = true ∧ l8 = true ∧ l9 = true ∧ l10 = true)
  (fin : l11 = true → ∃ w4 : World, Below W.heap.size W w4 ∧ w' = ((w4.setCell ⟨Y, 0, none⟩ s3).setCell ⟨Y, 1, none⟩ s9) ∧ Rw B w4 s3 xs ∧ Rw2 B w4 s3 s9 ys)
  (d0 : l0 = true → s0 = .agg #[.slice ga gn gc, .slice oa on oc] ∧ True)
  (d1 : l1 = true → s1 = .int .i64 a ∧ True)
  (d2 : l2 = true → s2 = .int .i64 t ∧ True)
  (d3 : l3 = true → (l11 = false → Rw B w' s3 xs) ∧ l0 = true ∧ l1 = true ∧ l2 = true)
  (d4 : l4 = true → s4 = .agg #[.slice ga gn gc, .slice oa on oc] ∧ True)
  (d5 : l5 = true → s5 = .int .i64 t ∧ True)
  (d6 : l6 = true → s6 = .int .i64 t ∧ True)
  (d7 : l7 = true → s7 = .int .i64 r ∧ True)
  (d8 : l8 = true → s8 = .int .i64 T ∧ l6 = true ∧ l7 = true)
  (d9 : l9 = true → (l11 = false → Rw2 B w' s3 s9 ys) ∧ l3 = true ∧ l4 = true ∧ l5 = true ∧ l8 = true)
  (d10 : l10 = true → s10 = .agg #[s3, s9] ∧ l3 = true ∧ l9 = true)
set_option maxRecDepth 100000 in
set_option maxHeartbeats 8000000 in
theorem cutAt_any (v : Value) (l : La) (hg : goodLa l = true) (a t r : Nat) (hab : a ≤ t) (hb : t + r ≤ 1100) (w : World) (h : AtLa w v l) :
    Calls Try.prog 50 #[v, .int .i64 a, .int .i64 t, .int .i64 r] w fun e w' => ∃ u, e = .returned u ∧ OwnLa w' w.heap.size w'.heap.size u (cutL l a t r) ∧ Below w.heap.size w w' := by
  have GB : Hid (∀ (x y : Nat), x ≤ y → y ≤ 1100 → ∀ w1 : World, Below w.heap.size w w1 → Calls Try.prog 47 #[v, .int .i64 x, .int .i64 y] w1 fun e w' => ∃ r, e = .returned r ∧ OwnOI w' w1.heap.size w'.heap.size r (unrL l x (y - x)) ∧ Below w1.heap.size w1 w') := fun x y hx hy w1 hb => between_any v l hg x y hx hy w1 (h.below hb)
  obtain ⟨ga, gn, gc, oa, on, oc, rfl⟩ := h.shape
  obtain ⟨w0, hw0⟩ : ∃ w0, (w.alloc (.cells #[.slice ga gn gc, .slice oa on oc] 26)).alloc (.cells #[.slice none 0 0, .slice none 0 0] 26) = w0 := ⟨_, rfl⟩
  have HB0 : Hid (Below w.heap.size w w0) := by
    show Below _ _ _
    rw [← hw0]
    exact ((Below.refl _ _).alloc (Nat.le_refl _) _).alloc (by rw [World.size_alloc]; omega) _
  have x0 := (box2_alloc w 26 (.slice ga gn gc) (.slice oa on oc)).alloc (.cells #[.slice none 0 0, .slice none 0 0] 26)
  have y0 := box2_alloc (w.alloc (.cells #[.slice ga gn gc, .slice oa on oc] 26)) 26 (.slice none 0 0) (.slice none 0 0)
  simp only [World.size_alloc] at y0
  have hz0 : w0.heap.size = w.heap.size + 2 := by rw [← hw0, World.size_alloc, World.size_alloc]
  rw [hw0] at x0 y0
  have HXP : Hid (∀ w3, Below w0.drew.heap.size w0.drew w3 → Box2 w3 w.heap.size 26 (.slice ga gn gc) (.slice oa on oc)) := fun w3 hb3 => Box2.below (w := w0.drew) ⟨x0.heap⟩ hb3 (by show _ < w0.heap.size; omega)
  have HYP : Hid (∀ w3, Below w0.drew.heap.size w0.drew w3 → Box2 w3 (w.heap.size + 1) 26 (.slice none 0 0) (.slice none 0 0)) := fun w3 hb3 => Box2.below (w := w0.drew) ⟨y0.heap⟩ hb3 (by show _ < w0.heap.size; omega)
  have HBW : Hid (∀ w3, Below w0.drew.heap.size w0.drew w3 → Below w.heap.size w w3) := fun w3 hb3 => HB0.out.drew.trans (hb3.mono (by show w.heap.size ≤ w0.heap.size; omega))
  obtain ⟨T, hT0⟩ : ∃ T : Nat, t + r = T := ⟨_, rfl⟩
  have hTi : (t : Int) + (r : Int) = (T : Int) := by omega
  have hTw : IntKind.i64.wrap ((t : Int) + (r : Int)) = (T : Int) := by rw [hTi]; exact IntWalk.i64_in _ ⟨by omega, by omega⟩
  have hTw2 : IntKind.i64.wrap (T : Int) = (T : Int) := IntWalk.i64_in _ ⟨by omega, by omega⟩
  have hT1 : t ≤ T := by omega
  have hT2 : T ≤ 1100 := by omega
  have hta : t ≤ 1100 := by omega
  have HTR : Hid (T - t = r) := by show T - t = r; omega
  have HW0 : Hid _ := hw0
  have HCL : Hid (cutL l a t r = (unrL l a (t - a), unrL l t (T - t))) := by
    show cutL l a t r = _
    rw [HTR.out]
    rfl
  clear h x0 y0 hT0 hw0 hg
  go_enter Try.func50, Try.ntmps50
  go_wp2_with fail
  rw [HW0.out]
  refine wp_region_any (by kernel_rfl) ?_
  change wpAny _ _ _ _ _ _ _ (World.drew _)
  refine wpAny_invN (fun lb9 ac9 w' => ∃ (l0 l1 l2 l3 l4 l5 l6 l7 l8 l9 l10 l11 : Bool) (s0 s1 s2 s3 s4 s5 s6 s7 s8 s9 s10 : Value), lb9 = #[l0, l1, l2, l3, l4, l5, l6, l7, l8, l9, l10, l11] ∧ ac9 = { tmps := #[.agg #[.slice ga gn gc, .slice oa on oc], .int .i64 a, .int .i64 t, .int .i64 r, .pointer (some ⟨w.heap.size, 0, none⟩), undef, undef, undef, .pointer (some ⟨w.heap.size + 1, 0, none⟩), s0, s1, s2, s3, s4, s5, s6, s7, s8, s9, s10], defers := [] } ∧ RegCut w0.drew w' w0.drew.heap.size (w.heap.size + 1) ga gn gc oa on oc a t r T (unrL l a (t - a)) (unrL l t (T - t)) l0 l1 l2 l3 l4 l5 l6 l7 l8 l9 l10 l11 s0 s1 s2 s3 s4 s5 s6 s7 s8 s9 s10) ?done ?step 12 _ _ _ ⟨false, false, false, false, false, false, false, false, false, false, false, false, _, _, _, _, _, _, _, _, _, _, _, rfl, rfl, ?init⟩ (by decide)
  case init => exact { bel := fun _ => Below.refl _ _, all := fun e => (by cases e), fin := fun e => (by cases e), d0 := fun e => (by cases e), d1 := fun e => (by cases e), d2 := fun e => (by cases e), d3 := fun e => (by cases e), d4 := fun e => (by cases e), d5 := fun e => (by cases e), d6 := fun e => (by cases e), d7 := fun e => (by cases e), d8 := fun e => (by cases e), d9 := fun e => (by cases e), d10 := fun e => (by cases e) }
  case step =>
    rintro lb9 ac9 w3 ⟨l0, l1, l2, l3, l4, l5, l6, l7, l8, l9, l10, l11, s0, s1, s2, s3, s4, s5, s6, s7, s8, s9, s10, rfl, rfl, h⟩
    intro q hq
    have hlt9 := ready_ltN hq
    match q, hq, hlt9 with
    | 0, hq, _ =>
      have hr := ready_depN hq rfl
      have hme : l0 = false := hr.1
      have hT : l11 = false := by
        cases hc9 : l11 with
        | false => rfl
        | true => exact absurd (h.all hc9).1 (by rw [hme]; decide)
      have hbel := h.bel hT
      have x3 := HXP.out w3 hbel
      obtain ⟨c0, c1⟩ := x3.cells
      have ch := x3.heap
      have cl := x3.lt
      clear hr hq
      refine wpOp_runN rfl rfl (fun K hK => ?_)
      go_simp
      refine hK _ _ ⟨true, l1, l2, l3, l4, l5, l6, l7, l8, l9, l10, l11, _, _, _, _, _, _, _, _, _, _, _, rfl, rfl, ?_⟩
      exact { bel := h.bel, all := fun e => (by rw [hT] at e; cases e), fin := fun e => (by rw [hT] at e; cases e), d0 := fun _ => ⟨rfl, trivial⟩, d1 := h.d1, d2 := h.d2, d3 := fun e => absurd (h.d3 e).2.1 (by rw [hme]; decide), d4 := h.d4, d5 := h.d5, d6 := h.d6, d7 := h.d7, d8 := h.d8, d9 := h.d9, d10 := h.d10 }
    | 1, hq, _ =>
      have hr := ready_depN hq rfl
      have hme : l1 = false := hr.1
      have hT : l11 = false := by
        cases hc9 : l11 with
        | false => rfl
        | true => exact absurd (h.all hc9).2.1 (by rw [hme]; decide)
      have hbel := h.bel hT
      clear hr hq
      refine wpOp_runN rfl rfl (fun K hK => ?_)
      go_simp
      refine hK _ _ ⟨l0, true, l2, l3, l4, l5, l6, l7, l8, l9, l10, l11, _, _, _, _, _, _, _, _, _, _, _, rfl, rfl, ?_⟩
      exact { bel := h.bel, all := fun e => (by rw [hT] at e; cases e), fin := fun e => (by rw [hT] at e; cases e), d0 := h.d0, d1 := fun _ => ⟨rfl, trivial⟩, d2 := h.d2, d3 := fun e => absurd (h.d3 e).2.2.1 (by rw [hme]; decide), d4 := h.d4, d5 := h.d5, d6 := h.d6, d7 := h.d7, d8 := h.d8, d9 := h.d9, d10 := h.d10 }
    | 2, hq, _ =>
      have hr := ready_depN hq rfl
      have hme : l2 = false := hr.1
      have hT : l11 = false := by
        cases hc9 : l11 with
        | false => rfl
        | true => exact absurd (h.all hc9).2.2.1 (by rw [hme]; decide)
      have hbel := h.bel hT
      clear hr hq
      refine wpOp_runN rfl rfl (fun K hK => ?_)
      go_simp
      refine hK _ _ ⟨l0, l1, true, l3, l4, l5, l6, l7, l8, l9, l10, l11, _, _, _, _, _, _, _, _, _, _, _, rfl, rfl, ?_⟩
      exact { bel := h.bel, all := fun e => (by rw [hT] at e; cases e), fin := fun e => (by rw [hT] at e; cases e), d0 := h.d0, d1 := h.d1, d2 := fun _ => ⟨rfl, trivial⟩, d3 := fun e => absurd (h.d3 e).2.2.2 (by rw [hme]; decide), d4 := h.d4, d5 := h.d5, d6 := h.d6, d7 := h.d7, d8 := h.d8, d9 := h.d9, d10 := h.d10 }
    | 3, hq, _ =>
      have hr := ready_depN hq rfl
      have hme : l3 = false := hr.1
      have e0 : l0 = true := hr.2 ⟨0, .data⟩ (by simp) (by kernel_rfl)
      have e1 : l1 = true := hr.2 ⟨1, .data⟩ (by simp) (by kernel_rfl)
      have e2 : l2 = true := hr.2 ⟨2, .data⟩ (by simp) (by kernel_rfl)
      have hT : l11 = false := by
        cases hc9 : l11 with
        | false => rfl
        | true => exact absurd (h.all hc9).2.2.2.1 (by rw [hme]; decide)
      have hbel := h.bel hT
      obtain rfl := (h.d0 e0).1
      obtain rfl := (h.d1 e1).1
      obtain rfl := (h.d2 e2).1
      clear hr hq
      refine wpOp_runN rfl rfl (fun K hK => ?_)
      go_simp
      go_at_call 47
      refine Calls.mono (GB.out _ _ (hab) (by omega) w3 (HBW.out w3 hbel)) ?_
      rintro e w4 ⟨r, rfl, ho, hs4⟩
      have hbel4 := hbel.trans (hs4.mono hbel.size)
      have hnew := rw_of hbel.size ho
      refine hK _ _ ⟨l0, l1, l2, true, l4, l5, l6, l7, l8, l9, l10, l11, _, _, _, _, _, _, _, _, _, _, _, rfl, rfl, ?_⟩
      exact { bel := fun _ => hbel4, all := fun e => (by rw [hT] at e; cases e), fin := fun e => (by rw [hT] at e; cases e), d0 := h.d0, d1 := h.d1, d2 := h.d2, d3 := fun _ => ⟨fun _ => hnew, e0, e1, e2⟩, d4 := h.d4, d5 := h.d5, d6 := h.d6, d7 := h.d7, d8 := h.d8, d9 := fun e => absurd (h.d9 e).2.1 (by rw [hme]; decide), d10 := fun e => absurd (h.d10 e).2.1 (by rw [hme]; decide) }
    | 4, hq, _ =>
      have hr := ready_depN hq rfl
      have hme : l4 = false := hr.1
      have hT : l11 = false := by
        cases hc9 : l11 with
        | false => rfl
        | true => exact absurd (h.all hc9).2.2.2.2.1 (by rw [hme]; decide)
      have hbel := h.bel hT
      have x3 := HXP.out w3 hbel
      obtain ⟨c0, c1⟩ := x3.cells
      have ch := x3.heap
      have cl := x3.lt
      clear hr hq
      refine wpOp_runN rfl rfl (fun K hK => ?_)
      go_simp
      refine hK _ _ ⟨l0, l1, l2, l3, true, l5, l6, l7, l8, l9, l10, l11, _, _, _, _, _, _, _, _, _, _, _, rfl, rfl, ?_⟩
      exact { bel := h.bel, all := fun e => (by rw [hT] at e; cases e), fin := fun e => (by rw [hT] at e; cases e), d0 := h.d0, d1 := h.d1, d2 := h.d2, d3 := h.d3, d4 := fun _ => ⟨rfl, trivial⟩, d5 := h.d5, d6 := h.d6, d7 := h.d7, d8 := h.d8, d9 := fun e => absurd (h.d9 e).2.2.1 (by rw [hme]; decide), d10 := h.d10 }
    | 5, hq, _ =>
      have hr := ready_depN hq rfl
      have hme : l5 = false := hr.1
      have hT : l11 = false := by
        cases hc9 : l11 with
        | false => rfl
        | true => exact absurd (h.all hc9).2.2.2.2.2.1 (by rw [hme]; decide)
      have hbel := h.bel hT
      clear hr hq
      refine wpOp_runN rfl rfl (fun K hK => ?_)
      go_simp
      refine hK _ _ ⟨l0, l1, l2, l3, l4, true, l6, l7, l8, l9, l10, l11, _, _, _, _, _, _, _, _, _, _, _, rfl, rfl, ?_⟩
      exact { bel := h.bel, all := fun e => (by rw [hT] at e; cases e), fin := fun e => (by rw [hT] at e; cases e), d0 := h.d0, d1 := h.d1, d2 := h.d2, d3 := h.d3, d4 := h.d4, d5 := fun _ => ⟨rfl, trivial⟩, d6 := h.d6, d7 := h.d7, d8 := h.d8, d9 := fun e => absurd (h.d9 e).2.2.2.1 (by rw [hme]; decide), d10 := h.d10 }
    | 6, hq, _ =>
      have hr := ready_depN hq rfl
      have hme : l6 = false := hr.1
      have hT : l11 = false := by
        cases hc9 : l11 with
        | false => rfl
        | true => exact absurd (h.all hc9).2.2.2.2.2.2.1 (by rw [hme]; decide)
      have hbel := h.bel hT
      clear hr hq
      refine wpOp_runN rfl rfl (fun K hK => ?_)
      go_simp
      refine hK _ _ ⟨l0, l1, l2, l3, l4, l5, true, l7, l8, l9, l10, l11, _, _, _, _, _, _, _, _, _, _, _, rfl, rfl, ?_⟩
      exact { bel := h.bel, all := fun e => (by rw [hT] at e; cases e), fin := fun e => (by rw [hT] at e; cases e), d0 := h.d0, d1 := h.d1, d2 := h.d2, d3 := h.d3, d4 := h.d4, d5 := h.d5, d6 := fun _ => ⟨rfl, trivial⟩, d7 := h.d7, d8 := fun e => absurd (h.d8 e).2.1 (by rw [hme]; decide), d9 := h.d9, d10 := h.d10 }
    | 7, hq, _ =>
      have hr := ready_depN hq rfl
      have hme : l7 = false := hr.1
      have hT : l11 = false := by
        cases hc9 : l11 with
        | false => rfl
        | true => exact absurd (h.all hc9).2.2.2.2.2.2.2.1 (by rw [hme]; decide)
      have hbel := h.bel hT
      clear hr hq
      refine wpOp_runN rfl rfl (fun K hK => ?_)
      go_simp
      refine hK _ _ ⟨l0, l1, l2, l3, l4, l5, l6, true, l8, l9, l10, l11, _, _, _, _, _, _, _, _, _, _, _, rfl, rfl, ?_⟩
      exact { bel := h.bel, all := fun e => (by rw [hT] at e; cases e), fin := fun e => (by rw [hT] at e; cases e), d0 := h.d0, d1 := h.d1, d2 := h.d2, d3 := h.d3, d4 := h.d4, d5 := h.d5, d6 := h.d6, d7 := fun _ => ⟨rfl, trivial⟩, d8 := fun e => absurd (h.d8 e).2.2 (by rw [hme]; decide), d9 := h.d9, d10 := h.d10 }
    | 8, hq, _ =>
      have hr := ready_depN hq rfl
      have hme : l8 = false := hr.1
      have e6 : l6 = true := hr.2 ⟨6, .data⟩ (by simp) (by kernel_rfl)
      have e7 : l7 = true := hr.2 ⟨7, .data⟩ (by simp) (by kernel_rfl)
      have hT : l11 = false := by
        cases hc9 : l11 with
        | false => rfl
        | true => exact absurd (h.all hc9).2.2.2.2.2.2.2.2.1 (by rw [hme]; decide)
      have hbel := h.bel hT
      obtain rfl := (h.d6 e6).1
      obtain rfl := (h.d7 e7).1
      clear hr hq
      refine wpOp_runN rfl rfl (fun K hK => ?_)
      go_simp
      refine hK _ _ ⟨l0, l1, l2, l3, l4, l5, l6, l7, true, l9, l10, l11, _, _, _, _, _, _, _, _, _, _, _, rfl, rfl, ?_⟩
      exact { bel := h.bel, all := fun e => (by rw [hT] at e; cases e), fin := fun e => (by rw [hT] at e; cases e), d0 := h.d0, d1 := h.d1, d2 := h.d2, d3 := h.d3, d4 := h.d4, d5 := h.d5, d6 := h.d6, d7 := h.d7, d8 := fun _ => ⟨rfl, e6, e7⟩, d9 := fun e => absurd (h.d9 e).2.2.2.2 (by rw [hme]; decide), d10 := h.d10 }
    | 9, hq, _ =>
      have hr := ready_depN hq rfl
      have hme : l9 = false := hr.1
      have e3 : l3 = true := hr.2 ⟨3, .chain⟩ (by simp) (by kernel_rfl)
      have e4 : l4 = true := hr.2 ⟨4, .data⟩ (by simp) (by kernel_rfl)
      have e5 : l5 = true := hr.2 ⟨5, .data⟩ (by simp) (by kernel_rfl)
      have e8 : l8 = true := hr.2 ⟨8, .data⟩ (by simp) (by kernel_rfl)
      have hT : l11 = false := by
        cases hc9 : l11 with
        | false => rfl
        | true => exact absurd (h.all hc9).2.2.2.2.2.2.2.2.2.1 (by rw [hme]; decide)
      have hbel := h.bel hT
      obtain rfl := (h.d4 e4).1
      obtain rfl := (h.d5 e5).1
      obtain rfl := (h.d8 e8).1
      clear hr hq
      refine wpOp_runN rfl rfl (fun K hK => ?_)
      go_simp
      go_at_call 47
      refine Calls.mono (GB.out _ _ (hT1) (by omega) w3 (HBW.out w3 hbel)) ?_
      rintro e w4 ⟨r, rfl, ho, hs4⟩
      have hbel4 := hbel.trans (hs4.mono hbel.size)
      have hnew := rw2_of hbel.size ((h.d3 e3).1 hT) ho
      refine hK _ _ ⟨l0, l1, l2, l3, l4, l5, l6, l7, l8, true, l10, l11, _, _, _, _, _, _, _, _, _, _, _, rfl, rfl, ?_⟩
      exact { bel := fun _ => hbel4, all := fun e => (by rw [hT] at e; cases e), fin := fun e => (by rw [hT] at e; cases e), d0 := h.d0, d1 := h.d1, d2 := h.d2, d3 := fun e => ⟨fun hx => ((h.d3 e).1 hx).below hs4, (h.d3 e).2⟩, d4 := h.d4, d5 := h.d5, d6 := h.d6, d7 := h.d7, d8 := h.d8, d9 := fun _ => ⟨fun _ => hnew, e3, e4, e5, e8⟩, d10 := fun e => absurd (h.d10 e).2.2 (by rw [hme]; decide) }
    | 10, hq, _ =>
      have hr := ready_depN hq rfl
      have hme : l10 = false := hr.1
      have e3 : l3 = true := hr.2 ⟨3, .data⟩ (by simp) (by kernel_rfl)
      have e9 : l9 = true := hr.2 ⟨9, .data⟩ (by simp) (by kernel_rfl)
      have hT : l11 = false := by
        cases hc9 : l11 with
        | false => rfl
        | true => exact absurd (h.all hc9).2.2.2.2.2.2.2.2.2.2 (by rw [hme]; decide)
      have hbel := h.bel hT
      obtain ⟨u3a, u3n, u3c, rfl⟩ := ((h.d3 e3).1 hT).shape
      obtain ⟨u9a, u9n, u9c, rfl⟩ := ((h.d9 e9).1 hT).shape
      clear hr hq
      refine wpOp_runN rfl rfl (fun K hK => ?_)
      go_simp
      refine hK _ _ ⟨l0, l1, l2, l3, l4, l5, l6, l7, l8, l9, true, l11, _, _, _, _, _, _, _, _, _, _, _, rfl, rfl, ?_⟩
      exact { bel := h.bel, all := fun e => (by rw [hT] at e; cases e), fin := fun e => (by rw [hT] at e; cases e), d0 := h.d0, d1 := h.d1, d2 := h.d2, d3 := h.d3, d4 := h.d4, d5 := h.d5, d6 := h.d6, d7 := h.d7, d8 := h.d8, d9 := h.d9, d10 := fun _ => ⟨rfl, e3, e9⟩ }
    | 11, hq, _ =>
      have hr := ready_depN hq rfl
      have hme : l11 = false := hr.1
      have e0 : l0 = true := hr.2 ⟨0, .phase⟩ (by simp) (by kernel_rfl)
      have e1 : l1 = true := hr.2 ⟨1, .phase⟩ (by simp) (by kernel_rfl)
      have e2 : l2 = true := hr.2 ⟨2, .phase⟩ (by simp) (by kernel_rfl)
      have e3 : l3 = true := hr.2 ⟨3, .phase⟩ (by simp) (by kernel_rfl)
      have e4 : l4 = true := hr.2 ⟨4, .phase⟩ (by simp) (by kernel_rfl)
      have e5 : l5 = true := hr.2 ⟨5, .phase⟩ (by simp) (by kernel_rfl)
      have e6 : l6 = true := hr.2 ⟨6, .phase⟩ (by simp) (by kernel_rfl)
      have e7 : l7 = true := hr.2 ⟨7, .phase⟩ (by simp) (by kernel_rfl)
      have e8 : l8 = true := hr.2 ⟨8, .phase⟩ (by simp) (by kernel_rfl)
      have e9 : l9 = true := hr.2 ⟨9, .chain⟩ (by simp) (by kernel_rfl)
      have e10 : l10 = true := hr.2 ⟨10, .data⟩ (by simp) (by kernel_rfl)
      have hbel := h.bel hme
      obtain rfl := (h.d0 e0).1
      obtain rfl := (h.d1 e1).1
      obtain rfl := (h.d2 e2).1
      obtain rfl := (h.d4 e4).1
      obtain rfl := (h.d5 e5).1
      obtain rfl := (h.d6 e6).1
      obtain rfl := (h.d7 e7).1
      obtain rfl := (h.d8 e8).1
      obtain rfl := (h.d10 e10).1
      have y3 := HYP.out w3 hbel
      obtain ⟨k0, k1⟩ := y3.cells
      have kh := y3.heap
      have kl := y3.lt
      have kf0 := y3.frozen 0
      have kf1 := y3.frozen 1
      clear hr hq
      have hF3 := (h.d3 e3).1 hme
      have hF9 := (h.d9 e9).1 hme
      refine wpOp_runN rfl rfl (fun K hK => ?_)
      obtain ⟨u3a, u3n, u3c, rfl⟩ := hF3.shape
      obtain ⟨u9a, u9n, u9c, rfl⟩ := hF9.shape
      go_simp
      refine hK _ _ ⟨l0, l1, l2, l3, l4, l5, l6, l7, l8, l9, l10, true, _, _, _, _, _, _, _, _, _, _, _, rfl, rfl, ?_⟩
      exact { bel := fun e => (by cases e), all := fun _ => ⟨e0, e1, e2, e3, e4, e5, e6, e7, e8, e9, e10⟩, fin := fun _ => ⟨w3, hbel, rfl, hF3, hF9⟩, d0 := h.d0, d1 := h.d1, d2 := h.d2, d3 := fun e => ⟨fun e9 => (by cases e9), (h.d3 e).2⟩, d4 := h.d4, d5 := h.d5, d6 := h.d6, d7 := h.d7, d8 := h.d8, d9 := fun e => ⟨fun e9 => (by cases e9), (h.d9 e).2⟩, d10 := h.d10 }
    | k + 12, hq, h18 => exact (Nat.not_lt_of_le (Nat.le_add_left 12 k) h18).elim
  case done =>
    rintro lb9 ac9 w3 ⟨l0, l1, l2, l3, l4, l5, l6, l7, l8, l9, l10, l11, s0, s1, s2, s3, s4, s5, s6, s7, s8, s9, s10, rfl, rfl, h⟩ hr
    cases l0
    · exact (ready_none2N hr 0 rfl rfl rfl).elim
    cases l1
    · exact (ready_none2N hr 1 rfl rfl rfl).elim
    cases l2
    · exact (ready_none2N hr 2 rfl rfl rfl).elim
    cases l3
    · exact (ready_none2N hr 3 rfl rfl rfl).elim
    cases l4
    · exact (ready_none2N hr 4 rfl rfl rfl).elim
    cases l5
    · exact (ready_none2N hr 5 rfl rfl rfl).elim
    cases l6
    · exact (ready_none2N hr 6 rfl rfl rfl).elim
    cases l7
    · exact (ready_none2N hr 7 rfl rfl rfl).elim
    cases l8
    · exact (ready_none2N hr 8 rfl rfl rfl).elim
    cases l9
    · exact (ready_none2N hr 9 rfl rfl rfl).elim
    cases l10
    · exact (ready_none2N hr 10 rfl rfl rfl).elim
    cases l11
    · exact (ready_none2N hr 11 rfl rfl rfl).elim
    obtain rfl := (h.d0 rfl).1
    obtain rfl := (h.d1 rfl).1
    obtain rfl := (h.d2 rfl).1
    obtain rfl := (h.d4 rfl).1
    obtain rfl := (h.d5 rfl).1
    obtain rfl := (h.d6 rfl).1
    obtain rfl := (h.d7 rfl).1
    obtain rfl := (h.d8 rfl).1
    obtain rfl := (h.d10 rfl).1
    obtain ⟨w4, hbel, rfl, hF3, hF9⟩ := h.fin rfl
    clear h hr
    obtain ⟨u3a, u3n, u3c, rfl⟩ := hF3.shape
    obtain ⟨u9a, u9n, u9c, rfl⟩ := hF9.shape
    have y4 := ((HYP.out w4 hbel).set0 (.slice u3a u3n u3c)).set1 (.slice u9a u9n u9c)
    have hsz4 := hbel.size
    change w0.heap.size ≤ w4.heap.size at hsz4
    have hO := ((ownLa_rw hF3 hF9).setO (b := w.heap.size + 1) (o := 0) (x := .slice u3a u3n u3c) (Or.inl (by show _ < w0.heap.size; omega))).setO (b := w.heap.size + 1) (o := 1) (x := .slice u9a u9n u9c) (Or.inl (by show _ < w0.heap.size; omega))
    have HOL : Hid (OwnLa ((w4.setCell ⟨w.heap.size + 1, 0, none⟩ (.slice u3a u3n u3c)).setCell ⟨w.heap.size + 1, 1, none⟩ (.slice u9a u9n u9c)) w.heap.size ((w4.setCell ⟨w.heap.size + 1, 0, none⟩ (.slice u3a u3n u3c)).setCell ⟨w.heap.size + 1, 1, none⟩ (.slice u9a u9n u9c)).heap.size (.agg #[.slice u3a u3n u3c, .slice u9a u9n u9c]) (cutL l a t r)) := by
      show OwnLa _ _ _ _ _
      rw [HCL.out]
      exact hO.weak (by show w.heap.size ≤ w0.heap.size; omega) (by rw [size_set, size_set]; exact Nat.le_refl _) (Nat.le_refl _)
    have HBE : Hid (Below w.heap.size w ((w4.setCell ⟨w.heap.size + 1, 0, none⟩ (.slice u3a u3n u3c)).setCell ⟨w.heap.size + 1, 1, none⟩ (.slice u9a u9n u9c))) := ((HBW.out w4 hbel).setCell (by show w.heap.size ≤ w.heap.size + 1; omega) _).setCell (by show w.heap.size ≤ w.heap.size + 1; omega) _
    have hyh := y4.heap
    clear hO hF3 hF9
    go_wp2_with fail
    refine bodyPost_ret (results_cell_row rfl _ _ (w.heap.size + 1) 26 _ (0, 0) _ rfl hyh Try.underlying26 rfl (by kernel_rfl)) rfl ?_
    exact ⟨_, rfl, HOL.out, HBE.out⟩
end Go.Proofs.Ythamdefkcjfjpaa

namespace Go.Proofs.Ythamdefkcjfjpaa
open Go Go.RowKit
open M
set_option linter.unusedVariables false
set_option linter.unusedSimpArgs false

theorem own2_lt {w : World} {B : Nat} {v : Value} {t : List Int} (h : OwnInts2 w B v t) (k : Nat) (hk : v.ownBlock = some k) : B ≤ k ∧ k < w.heap.size := own_block h hk
set_option maxRecDepth 100000 in
set_option maxHeartbeats 4000000 in
theorem l9First_any (v : Value) (l : La) (hg : goodLa l = true) (a n : Nat) (ha : a + n ≤ 2000) (w : World) (h : AtLa w v l) :
    Calls Try.prog 52 #[v, .int .i64 a, .int .i64 n] w fun e w' => ∃ u, e = .returned u ∧ OwnInts2 w' w.heap.size u (unrL l a n) ∧ Below w.heap.size w w' := by
  have HAT : Hid (∀ j : Nat, a + j ≤ 2000 → ∀ w1 : World, Below w.heap.size w w1 → Calls Try.prog 61 #[v, .int .i64 ((a : Int) + (j : Int))] w1 fun e w' => e = .returned (.int .i64 (letL l (a + j))) ∧ Below w1.heap.size w1 w') := fun j hj w1 hb => l9At_any v l hg (a + j) hj w1 (h.below hb)
  obtain ⟨ga, gn, gc, oa, on, oc, rfl⟩ := h.shape
  have HB0 : Hid (Below w.heap.size w (w.alloc (.cells #[.slice ga gn gc, .slice oa on oc] 26))) := (Below.refl _ _).alloc (Nat.le_refl _) _
  have x0 := box2_alloc w 26 (.slice ga gn gc) (.slice oa on oc)
  have hw0z : (w.alloc (.cells #[.slice ga gn gc, .slice oa on oc] 26)).heap.size = w.heap.size + 1 := World.size_alloc _ _
  have HXP : Hid (∀ w3, Below (w.heap.size + 1) (w.alloc (.cells #[.slice ga gn gc, .slice oa on oc] 26)) w3 → Box2 w3 w.heap.size 26 (.slice ga gn gc) (.slice oa on oc)) := fun w3 hb3 => x0.below hb3 (by omega)
  have HBX0 : Hid (Below (w.heap.size + 1) (w.alloc (.cells #[.slice ga gn gc, .slice oa on oc] 26)) (w.alloc (.cells #[.slice ga gn gc, .slice oa on oc] 26))) := Below.refl _ _
  obtain ⟨i0, hi, hz0, hz1, hz2⟩ := info_parts infoInt
  clear h x0 hg
  go_enter Try.func52, Try.ntmps52
  go_wp2_with fail
  generalize w.alloc (.cells #[.slice ga gn gc, .slice oa on oc] 26) = w0 at *
  go_loopw [7, 8] (fun v i wr => ∃ j : Nat, j ≤ n ∧ i = .int .i64 ((a : Int) + (j : Int)) ∧ Hid (OwnInts2 wr (w.heap.size + 1) v (unrL l a j)) ∧ Hid (Below w.heap.size w wr) ∧ Hid (Below (w.heap.size + 1) w0 wr)) (fun _ i _ => a + n - (intOf i).toNat)
  case atStart => exact ⟨0, by omega, by simp, World.ownsRow_nil _ _ _ _, HB0, HBX0⟩
  case round =>
    obtain ⟨j, hj, rfl, HO, HB, HBX⟩ := hrel
    clear HB0 HBX0
    obtain ⟨a0, a1⟩ := (HXP.out _ HBX.out).cells
    have ah := (HXP.out _ HBX.out).heap
    have al := (HXP.out _ HBX.out).lt
    by_cases hlt : j < n
    · have g0 := HAT.out j (by omega) wr HB.out
      obtain ⟨q, hq⟩ : ∃ q : Int, (a : Int) + (j : Int) = q := ⟨_, rfl⟩
      have hq0 : 0 ≤ q := by omega
      have hq1 : q < (a : Int) + (n : Int) := by omega
      have HQ : Hid (q = (a : Int) + (j : Int)) := hq.symm
      have HS : Hid (unrL l a (j + 1) = unrL l a j ++ [letL l (a + j)]) := unrL_snoc l a j
      have hll : (unrL l a j).length = j := unrL_len l a j
      rw [hq] at g0 ⊢
      clear hq
      generalize letL l (a + j) = X at *
      go_wp2_with fail
      refine g0.mono ?_
      rintro e w5 ⟨rfl, hs⟩
      have HB5 : Hid (Below w.heap.size w w5) := HB.out.trans (hs.mono HB.out.size)
      have HBX5 : Hid (Below (w.heap.size + 1) w0 w5) := HBX.out.trans (hs.mono (by have := HBX.out.size; omega))
      have HW5 : Hid (OwnInts2 w5 (w.heap.size + 1) u7 (unrL l a j)) := owns_below HO.out hs
      have own1 : (w5.alloc (.cells #[.int .i64 X] 3)).ownsRow (w.heap.size + 1) 3 1 u7 (unrL l a j).length (cellsI (unrL l a j)) := World.ownsRow.alloc HW5.out _
      have cellsN := oneI_cells w5 X
      have hsz5 := HB5.out.size
      have hszx5 := HBX5.out.size
      clear g0 hs a0 a1 ah al HO HB HBX HAT
      go_wp2_with (at_builtin; refine wpList_append_own _ rfl _ _ 24 rfl (w.heap.size + 1) 3 i0 (.int .i64 0) 1 8 Try.underlying24 hi hz0 hz1 hz2 rfl (by decide) _ _ _ rfl own1 ⟨w5.heap.size, 0, none⟩ 1 1 [.int .i64 X] rfl rfl cellsN (ints_one [X]) (by unfold maxLen; omega) (by omega) (by simp; omega) ?_)
      intro v7 w7 own7 grow7 _
      have HB7 : Hid (Below w.heap.size w w7) := (HB5.out.alloc HB5.out.size _).grown grow7 (by simp; omega) (fun k hk => by have := (own2_lt HW5.out k hk).1; omega)
      have HBX7 : Hid (Below (w.heap.size + 1) w0 w7) := (HBX5.out.alloc (by omega) _).grown grow7 (by simp; omega) (fun k hk => (own2_lt HW5.out k hk).1)
      have HO7 : Hid (OwnInts2 w7 (w.heap.size + 1) v7 (unrL l a (j + 1))) := by
        show OwnInts2 _ _ _ _
        rw [HS.out]
        have e1 : (unrL l a j ++ [X]).length = j + 1 := by
          rw [List.length_append, hll]
          rfl
        have e2 : cellsI (unrL l a j ++ [X]) = cellsI (unrL l a j) ++ [.int .i64 X] := by simp [cellsI]
        unfold OwnInts2
        rw [e1, e2]
        exact own7
      clear own1 own7 grow7 cellsN
      have hq2 : q ≤ 2000 := by omega
      have HQ1 : Hid (q + 1 = (a : Int) + ((j + 1 : Nat) : Int)) := by
        have := HQ.out
        show q + 1 = _
        omega
      go_wp2_with fail
      go_roundw
      case rel => exact ⟨j + 1, by omega, by rw [HQ1.out], HO7, HB7, HBX7⟩
      case measure => have := HQ.out; simp [intOf]; omega
    · obtain rfl : j = n := by omega
      clear HAT
      go_wp2_with fail
      go_ret
      exact ⟨_, rfl, HO.out.low (Nat.le_succ _), HB.out⟩
/-- what is appended to a list of one's own: nothing, or a row from anywhere in a block -/
def SrcO (w : World) (v : Value) (n : Nat) (xs : List Value) : Prop := (n = 0 ∧ xs = [] ∧ v = .slice none 0 0) ∨ ∃ (g off cap : Nat), v = .slice (some ⟨g, off, none⟩) n cap ∧ (0 < n → g < w.heap.size) ∧ ∀ (j : Nat) (u : Value), xs[j]? = some u → w.cell? ((⟨g, off, none⟩ : Addr).add j) = some u
theorem add_eq (g off j : Nat) : (⟨g, off, none⟩ : Addr).add j = ⟨g, off + j, none⟩ := by
  unfold Addr.add
  by_cases h0 : j = 0
  · subst h0
    simp
  · simp [h0]
theorem srcO_ints {w : World} {v : Value} {t : List Int} (h1 : IntsAt w v t) (h2 : Sol v) : SrcO w v t.length (cellsI t) := by
  rcases h1.2 with ⟨rfl, a, cap, hv⟩ | ⟨b, off, cap, hv, hlt, hc⟩
  · obtain ⟨a', n', c', e, hz, hb, _⟩ := h2
    rw [hv] at e
    injection e with e1 e2 e3
    subst e1 e2 e3
    cases a with
    | none => exact Or.inl ⟨rfl, rfl, by rw [hv, (hz rfl).2]⟩
    | some ad =>
      obtain ⟨b, off, s⟩ := ad
      have hs := hb _ rfl
      simp only at hs
      subst hs
      exact Or.inr ⟨b, off, cap, hv, fun h0 => absurd h0 (by simp), fun j u hu => by simp [cellsI] at hu⟩
  · refine Or.inr ⟨b, off, cap, hv, fun _ => hlt, fun j u hu => ?_⟩
    rw [add_eq]
    unfold cellsI at hu
    rw [List.getElem?_map, Option.map_eq_some_iff] at hu
    obtain ⟨x, hx, rfl⟩ := hu
    exact hc j x hx
theorem SrcO.below {w w' : World} {v : Value} {n : Nat} {xs : List Value} (h : SrcO w v n xs) (hn : xs.length = n) (hb : Below w.heap.size w w') : SrcO w' v n xs := by
  rcases h with h | ⟨g, off, cap, hv, hg, hc⟩
  · exact Or.inl h
  · refine Or.inr ⟨g, off, cap, hv, fun h0 => Nat.lt_of_lt_of_le (hg h0) hb.size, fun j u hu => ?_⟩
    have hj := (List.getElem?_eq_some_iff.1 hu).1
    have h1 := hc j u hu
    rw [add_eq] at h1 ⊢
    rw [hb.cell (p := ⟨g, off + j, none⟩) (hg (by omega))]
    exact h1
theorem SrcO.drew {w : World} {v : Value} {n : Nat} {xs : List Value} (h : SrcO w v n xs) : SrcO w.drew v n xs := h
theorem wp_append_srcO {P : Program} {o : Oper} {a : Act} {w : World} {K : Act → World → Prop} {Q : Exit → Act → World → Prop} (s x : Operand) (t : TypeId)
    (ho : o.op = .call { callee := .builtin .append, args := #[s, x], argTypes := #[t, t] })
    (base : Nat) (e : TypeId) (i : TypeInfo) (z : Value) (size bytes : Nat) (ht : P.underlying t = some (.slice e)) (hi : P.info? e = some i) (hz : i.zero = some z)
    (hsize : i.size = size) (hby : i.bytes = bytes) (hzs : z.cells.size = size) (hsz : 0 < size)
    (v : Value) (n : Nat) (xs : List Value) (hs : a.eval s = v) (hown : w.ownsRow base e size v n xs)
    (u : Value) (m : Nat) (news : List Value) (hx : a.eval x = u) (hsrc : SrcO w u m news) (hl : news.length = m * size) (h1 : ∀ u ∈ news, u.oneCell' = true)
    (h63 : n + m ≤ maxLen) (hbytes : (n + m) * bytes ≤ 140737488355328) (hbase : base ≤ w.heap.size)
    (h : ∀ v' w', w'.ownsRow base e size v' (n + m) (xs ++ news) → w.grownBy w' v.ownBlock → K (a.put o.dst v') w') : o.wp P a w K Q := by
  rcases hsrc with ⟨rfl, rfl, rfl⟩ | ⟨g, off, cap, rfl, _, hc⟩
  · have hrun := run_append_owned_none (P := P) (w := w) base t o.type e i size ht hi v n xs hown
    unfold Oper.wp
    simp [execOp, ho, resolve, invoke, builtin, hs, hx, hrun, Result.andThen]
    refine h v w ?_ (grown_refl _ _)
    rw [List.append_nil]
    exact hown
  · exact wp_append_own w s x t ho base e i z size bytes ht hi hz hsize hby hzs hsz v n xs hs hown ⟨g, off, none⟩ m cap news hx hl hc h1 h63 hbytes hbase (fun v' w' h2 h3 _ => h v' w' h2 h3)
theorem wpList_append_srcO {P : Program} {ops : Array Oper} {rest : List Oper} {o : Oper} {a : Act} {w : World} {Q : Exit → Act → World → Prop} (hgd : o.guard = none) (s x : Operand) (t : TypeId)
    (ho : o.op = .call { callee := .builtin .append, args := #[s, x], argTypes := #[t, t] })
    (base : Nat) (e : TypeId) (i : TypeInfo) (z : Value) (size bytes : Nat) (ht : P.underlying t = some (.slice e)) (hi : P.info? e = some i) (hz : i.zero = some z)
    (hsize : i.size = size) (hby : i.bytes = bytes) (hzs : z.cells.size = size) (hsz : 0 < size)
    (v : Value) (n : Nat) (xs : List Value) (hs : a.eval s = v) (hown : w.ownsRow base e size v n xs)
    (u : Value) (m : Nat) (news : List Value) (hx : a.eval x = u) (hsrc : SrcO w u m news) (hl : news.length = m * size) (h1 : ∀ u ∈ news, u.oneCell' = true)
    (h63 : n + m ≤ maxLen) (hbytes : (n + m) * bytes ≤ 140737488355328) (hbase : base ≤ w.heap.size)
    (h : ∀ v' w', w'.ownsRow base e size v' (n + m) (xs ++ news) → w.grownBy w' v.ownBlock → wpList P ops Q rest (a.put o.dst v') w') : wpList P ops Q (o :: rest) a w :=
  wpList_plain hgd fun _ hK => wp_append_srcO s x t ho base e i z size bytes ht hi hz hsize hby hzs hsz v n xs hs hown u m news hx hsrc hl h1 h63 hbytes hbase (fun v' w' h2 h3 => hK _ _ (h v' w' h2 h3))
set_option maxRecDepth 100000 in
theorem l1OwnO_any (a : Option Addr) (n cap : Nat) (os : List Int) (hn : os.length = n) (hO : n ≤ 100000) (w : World) (h : SrcO w (.slice a n cap) n (cellsI os)) :
    Calls Try.prog 53 #[.slice a n cap] w fun e w' => ∃ r, e = .returned r ∧ OwnInts2 w' w.heap.size r os ∧ Below w.heap.size w w' := by
  obtain ⟨i0, hif, hz0, hz1, hz2⟩ := info_parts infoInt
  have own0 := own_emptyI w w.heap.size (Nat.le_refl _)
  have hb0 : Below w.heap.size w (w.alloc (.cells #[] 3)) := (Below.refl _ _).alloc (Nat.le_refl _) _
  have sol : (cellsI os).length = n * 1 := by simp [cellsI, hn]
  have h0 := h.below (by omega) hb0
  have HN : Hid (os.length = n) := hn
  clear h hn
  go_enter Try.func53, Try.ntmps53
  go_wp2_with (at_builtin; refine wpList_append_srcO rfl _ _ 24 rfl w.heap.size 3 i0 (.int .i64 0) 1 8 Try.underlying24 hif hz0 hz1 hz2 rfl (by decide) _ _ _ rfl own0 (.slice a n cap) n (cellsI os) rfl h0 sol (ints_one os) (by unfold maxLen; omega) (by omega) hb0.size ?_)
  intro v5 w5 own5 grow5
  have HO : Hid (OwnInts2 w5 w.heap.size v5 os) := by
    show OwnInts2 _ _ _ _
    unfold OwnInts2
    rw [HN.out]
    exact own5
  have HB : Hid (Below w.heap.size w w5) := hb0.grown grow5 hb0.size (fun k hk => (own_block own0 hk).1)
  clear own5 grow5 own0 h0
  go_wp2_with fail
  go_ret
  exact ⟨_, rfl, HO.out, HB.out⟩
end Go.Proofs.Ythamdefkcjfjpaa

namespace Go.Proofs.Ythamdefkcjfjpaa
open Go Go.RowKit
open M
set_option linter.unusedVariables false
set_option linter.unusedSimpArgs false

structure RegSuf (W w' : World) (B X Y : Nat) (ga : Option Addr) (gn gc : Nat) (oa : Option Addr) (on oc k : Nat) (SV : Value) (xs ys : List Int) (l0 l1 l2 l3 l4 l5 l6 l7 l8 l9 : Bool) (s0 s1 s2 s3 s4 s5 s6 s7 s8 : Value) : Prop where
  (bel : l9 = false → Below W.heap.size W w')
  (all : l9 = true → l0 = true ∧ l1 = true ∧ l2 = true ∧ l3 = true ∧ l4 = true ∧ l5 = true ∧ l6 = true ∧ l7 = true ∧ l8 = true)
  (fin : l9 = true → ∃ w4 : World, Below W.heap.size W w4 ∧ w' = ((w4.setCell ⟨Y, 0, none⟩ s4).setCell ⟨Y, 1, none⟩ s7) ∧ Rw B w4 s4 xs ∧ Rw2 B w4 s4 s7 ys)
  (d0 : l0 = true → s0 = .pointer (some ⟨X, 0, none⟩) ∧ True)
  (d1 : l1 = true → s1 = .slice ga gn gc ∧ l0 = true)
  (d2 : l2 = true → s2 = .int .i64 k ∧ True)
  (d3 : l3 = true → s3 = SV ∧ l1 = true ∧ l2 = true)
  (d4 : l4 = true → (l9 = false → Rw B w' s4 xs) ∧ l3 = true)
  (d5 : l5 = true → s5 = .pointer (some ⟨X, 1, none⟩) ∧ True)
  (d6 : l6 = true → s6 = .slice oa on oc ∧ l5 = true)
  (d7 : l7 = true → (l9 = false → Rw2 B w' s4 s7 ys) ∧ l4 = true ∧ l6 = true)
  (d8 : l8 = true → s8 = .agg #[s4, s7] ∧ l4 = true ∧ l7 = true)
set_option maxRecDepth 100000 in
set_option maxHeartbeats 8000000 in
theorem suf_some (oa : Option Addr) (on oc k : Nat) (gb go gn gc : Nat) (asl : Option Addr) (hk : k ≤ gn) (hgn : gn ≤ 24) (hgc : gn ≤ gc) (hasl : (if gc = k then some (⟨gb, go, none⟩ : Addr) else some ⟨gb, go + k, none⟩) = asl) (xs ys : List Int) (w : World)
    (GO1 : Hid (∀ w1 : World, Below w.heap.size w w1 → Calls Try.prog 53 #[.slice asl (gn - k) (gc - k)] w1 fun e w' => ∃ r, e = .returned r ∧ OwnInts2 w' w1.heap.size r xs ∧ Below w1.heap.size w1 w'))
    (GO2 : Hid (∀ w1 : World, Below w.heap.size w w1 → Calls Try.prog 53 #[.slice oa on oc] w1 fun e w' => ∃ r, e = .returned r ∧ OwnInts2 w' w1.heap.size r ys ∧ Below w1.heap.size w1 w')) :
    Calls Try.prog 59 #[.agg #[.slice (some ⟨gb, go, none⟩) gn gc, .slice oa on oc], .int .i64 k] w fun e w' => ∃ u, e = .returned u ∧ OwnLa w' w.heap.size w'.heap.size u (xs, ys) ∧ Below w.heap.size w w' := by
  obtain ⟨w0, hw0⟩ : ∃ w0, (w.alloc (.cells #[.slice (some ⟨gb, go, none⟩) gn gc, .slice oa on oc] 26)).alloc (.cells #[.slice none 0 0, .slice none 0 0] 26) = w0 := ⟨_, rfl⟩
  have HB0 : Hid (Below w.heap.size w w0) := by
    show Below _ _ _
    rw [← hw0]
    exact ((Below.refl _ _).alloc (Nat.le_refl _) _).alloc (by rw [World.size_alloc]; omega) _
  have x0 := (box2_alloc w 26 (.slice (some ⟨gb, go, none⟩) gn gc) (.slice oa on oc)).alloc (.cells #[.slice none 0 0, .slice none 0 0] 26)
  have y0 := box2_alloc (w.alloc (.cells #[.slice (some ⟨gb, go, none⟩) gn gc, .slice oa on oc] 26)) 26 (.slice none 0 0) (.slice none 0 0)
  simp only [World.size_alloc] at y0
  have hz0 : w0.heap.size = w.heap.size + 2 := by rw [← hw0, World.size_alloc, World.size_alloc]
  rw [hw0] at x0 y0
  have HXP : Hid (∀ w3, Below w0.drew.heap.size w0.drew w3 → Box2 w3 w.heap.size 26 (.slice (some ⟨gb, go, none⟩) gn gc) (.slice oa on oc)) := fun w3 hb3 => Box2.below (w := w0.drew) ⟨x0.heap⟩ hb3 (by show _ < w0.heap.size; omega)
  have HYP : Hid (∀ w3, Below w0.drew.heap.size w0.drew w3 → Box2 w3 (w.heap.size + 1) 26 (.slice none 0 0) (.slice none 0 0)) := fun w3 hb3 => Box2.below (w := w0.drew) ⟨y0.heap⟩ hb3 (by show _ < w0.heap.size; omega)
  have HBW : Hid (∀ w3, Below w0.drew.heap.size w0.drew w3 → Below w.heap.size w w3) := fun w3 hb3 => HB0.out.drew.trans (hb3.mono (by show w.heap.size ≤ w0.heap.size; omega))
  have HW0 : Hid _ := hw0
  obtain ⟨a0, a1⟩ := x0.cells
  have ah := x0.heap
  have al := x0.lt
  rw [← hw0] at a0 a1 ah al
  clear x0 y0 hw0
  go_enter Try.func59, Try.ntmps59
  go_wp2_with fail
  rw [HW0.out]
  refine wp_region_any (by kernel_rfl) ?_
  change wpAny _ _ _ _ _ _ _ (World.drew _)
  refine wpAny_invN (fun lb9 ac9 w' => ∃ (l0 l1 l2 l3 l4 l5 l6 l7 l8 l9 : Bool) (s0 s1 s2 s3 s4 s5 s6 s7 s8 : Value), lb9 = #[l0, l1, l2, l3, l4, l5, l6, l7, l8, l9] ∧ ac9 = { tmps := #[.agg #[.slice (some ⟨gb, go, none⟩) gn gc, .slice oa on oc], .int .i64 k, .pointer (some ⟨w.heap.size, 0, none⟩), undef, .pointer (some ⟨w.heap.size + 1, 0, none⟩), .int .i64 k, .pointer (some ⟨w.heap.size, 0, none⟩), .slice (some ⟨gb, go, none⟩) gn gc, .int .i64 gn, .bool true, s0, s1, s2, s3, s4, s5, s6, s7, s8, undef, undef, undef, undef, undef, undef, undef], defers := [] } ∧ RegSuf w0.drew w' w0.drew.heap.size w.heap.size (w.heap.size + 1) (some ⟨gb, go, none⟩) gn gc oa on oc k (.slice asl (gn - k) (gc - k)) xs ys l0 l1 l2 l3 l4 l5 l6 l7 l8 l9 s0 s1 s2 s3 s4 s5 s6 s7 s8) ?done ?step 10 _ _ _ ⟨false, false, false, false, false, false, false, false, false, false, _, _, _, _, _, _, _, _, _, rfl, rfl, ?init⟩ (by decide)
  case init => exact { bel := fun _ => Below.refl _ _, all := fun e => (by cases e), fin := fun e => (by cases e), d0 := fun e => (by cases e), d1 := fun e => (by cases e), d2 := fun e => (by cases e), d3 := fun e => (by cases e), d4 := fun e => (by cases e), d5 := fun e => (by cases e), d6 := fun e => (by cases e), d7 := fun e => (by cases e), d8 := fun e => (by cases e) }
  case step =>
    rintro lb9 ac9 w3 ⟨l0, l1, l2, l3, l4, l5, l6, l7, l8, l9, s0, s1, s2, s3, s4, s5, s6, s7, s8, rfl, rfl, h⟩
    intro q hq
    have hlt9 := ready_ltN hq
    match q, hq, hlt9 with
    | 0, hq, _ =>
      have hr := ready_depN hq rfl
      have hme : l0 = false := hr.1
      have hT : l9 = false := by
        cases hc9 : l9 with
        | false => rfl
        | true => exact absurd (h.all hc9).1 (by rw [hme]; decide)
      have hbel := h.bel hT
      clear hr hq
      refine wpOp_runN rfl rfl (fun K hK => ?_)
      go_simp
      refine hK _ _ ⟨true, l1, l2, l3, l4, l5, l6, l7, l8, l9, _, _, _, _, _, _, _, _, _, rfl, rfl, ?_⟩
      exact { bel := h.bel, all := fun e => (by rw [hT] at e; cases e), fin := fun e => (by rw [hT] at e; cases e), d0 := fun _ => ⟨rfl, trivial⟩, d1 := fun e => absurd (h.d1 e).2 (by rw [hme]; decide), d2 := h.d2, d3 := h.d3, d4 := h.d4, d5 := h.d5, d6 := h.d6, d7 := h.d7, d8 := h.d8 }
    | 1, hq, _ =>
      have hr := ready_depN hq rfl
      have hme : l1 = false := hr.1
      have e0 : l0 = true := hr.2 ⟨0, .data⟩ (by simp) (by kernel_rfl)
      have hT : l9 = false := by
        cases hc9 : l9 with
        | false => rfl
        | true => exact absurd (h.all hc9).2.1 (by rw [hme]; decide)
      have hbel := h.bel hT
      obtain rfl := (h.d0 e0).1
      have x3 := HXP.out w3 hbel
      obtain ⟨c0, c1⟩ := x3.cells
      have ch := x3.heap
      have cl := x3.lt
      clear hr hq
      refine wpOp_runN rfl rfl (fun K hK => ?_)
      go_simp
      refine hK _ _ ⟨l0, true, l2, l3, l4, l5, l6, l7, l8, l9, _, _, _, _, _, _, _, _, _, rfl, rfl, ?_⟩
      exact { bel := h.bel, all := fun e => (by rw [hT] at e; cases e), fin := fun e => (by rw [hT] at e; cases e), d0 := h.d0, d1 := fun _ => ⟨rfl, e0⟩, d2 := h.d2, d3 := fun e => absurd (h.d3 e).2.1 (by rw [hme]; decide), d4 := h.d4, d5 := h.d5, d6 := h.d6, d7 := h.d7, d8 := h.d8 }
    | 2, hq, _ =>
      have hr := ready_depN hq rfl
      have hme : l2 = false := hr.1
      have hT : l9 = false := by
        cases hc9 : l9 with
        | false => rfl
        | true => exact absurd (h.all hc9).2.2.1 (by rw [hme]; decide)
      have hbel := h.bel hT
      clear hr hq
      refine wpOp_runN rfl rfl (fun K hK => ?_)
      go_simp
      refine hK _ _ ⟨l0, l1, true, l3, l4, l5, l6, l7, l8, l9, _, _, _, _, _, _, _, _, _, rfl, rfl, ?_⟩
      exact { bel := h.bel, all := fun e => (by rw [hT] at e; cases e), fin := fun e => (by rw [hT] at e; cases e), d0 := h.d0, d1 := h.d1, d2 := fun _ => ⟨rfl, trivial⟩, d3 := fun e => absurd (h.d3 e).2.2 (by rw [hme]; decide), d4 := h.d4, d5 := h.d5, d6 := h.d6, d7 := h.d7, d8 := h.d8 }
    | 3, hq, _ =>
      have hr := ready_depN hq rfl
      have hme : l3 = false := hr.1
      have e1 : l1 = true := hr.2 ⟨1, .data⟩ (by simp) (by kernel_rfl)
      have e2 : l2 = true := hr.2 ⟨2, .data⟩ (by simp) (by kernel_rfl)
      have hT : l9 = false := by
        cases hc9 : l9 with
        | false => rfl
        | true => exact absurd (h.all hc9).2.2.2.1 (by rw [hme]; decide)
      have hbel := h.bel hT
      obtain rfl := (h.d1 e1).1
      obtain rfl := (h.d2 e2).1
      clear hr hq
      refine wpOp_runN rfl rfl (fun K hK => ?_)
      go_simp
      refine hK _ _ ⟨l0, l1, l2, true, l4, l5, l6, l7, l8, l9, _, _, _, _, _, _, _, _, _, rfl, rfl, ?_⟩
      exact { bel := h.bel, all := fun e => (by rw [hT] at e; cases e), fin := fun e => (by rw [hT] at e; cases e), d0 := h.d0, d1 := h.d1, d2 := h.d2, d3 := fun _ => ⟨rfl, e1, e2⟩, d4 := fun e => absurd (h.d4 e).2 (by rw [hme]; decide), d5 := h.d5, d6 := h.d6, d7 := h.d7, d8 := h.d8 }
    | 4, hq, _ =>
      have hr := ready_depN hq rfl
      have hme : l4 = false := hr.1
      have e3 : l3 = true := hr.2 ⟨3, .data⟩ (by simp) (by kernel_rfl)
      have hT : l9 = false := by
        cases hc9 : l9 with
        | false => rfl
        | true => exact absurd (h.all hc9).2.2.2.2.1 (by rw [hme]; decide)
      have hbel := h.bel hT
      obtain rfl := (h.d3 e3).1
      clear hr hq
      refine wpOp_runN rfl rfl (fun K hK => ?_)
      go_simp
      go_at_call 53
      refine Calls.mono (GO1.out w3 (HBW.out w3 hbel)) ?_
      rintro e w4 ⟨r, rfl, ho, hs4⟩
      have hbel4 := hbel.trans (hs4.mono hbel.size)
      have hnew := rw_of hbel.size (own_of2 ho)
      refine hK _ _ ⟨l0, l1, l2, l3, true, l5, l6, l7, l8, l9, _, _, _, _, _, _, _, _, _, rfl, rfl, ?_⟩
      exact { bel := fun _ => hbel4, all := fun e => (by rw [hT] at e; cases e), fin := fun e => (by rw [hT] at e; cases e), d0 := h.d0, d1 := h.d1, d2 := h.d2, d3 := h.d3, d4 := fun _ => ⟨fun _ => hnew, e3⟩, d5 := h.d5, d6 := h.d6, d7 := fun e => absurd (h.d7 e).2.1 (by rw [hme]; decide), d8 := fun e => absurd (h.d8 e).2.1 (by rw [hme]; decide) }
    | 5, hq, _ =>
      have hr := ready_depN hq rfl
      have hme : l5 = false := hr.1
      have hT : l9 = false := by
        cases hc9 : l9 with
        | false => rfl
        | true => exact absurd (h.all hc9).2.2.2.2.2.1 (by rw [hme]; decide)
      have hbel := h.bel hT
      clear hr hq
      refine wpOp_runN rfl rfl (fun K hK => ?_)
      go_simp
      refine hK _ _ ⟨l0, l1, l2, l3, l4, true, l6, l7, l8, l9, _, _, _, _, _, _, _, _, _, rfl, rfl, ?_⟩
      exact { bel := h.bel, all := fun e => (by rw [hT] at e; cases e), fin := fun e => (by rw [hT] at e; cases e), d0 := h.d0, d1 := h.d1, d2 := h.d2, d3 := h.d3, d4 := h.d4, d5 := fun _ => ⟨rfl, trivial⟩, d6 := fun e => absurd (h.d6 e).2 (by rw [hme]; decide), d7 := h.d7, d8 := h.d8 }
    | 6, hq, _ =>
      have hr := ready_depN hq rfl
      have hme : l6 = false := hr.1
      have e5 : l5 = true := hr.2 ⟨5, .data⟩ (by simp) (by kernel_rfl)
      have hT : l9 = false := by
        cases hc9 : l9 with
        | false => rfl
        | true => exact absurd (h.all hc9).2.2.2.2.2.2.1 (by rw [hme]; decide)
      have hbel := h.bel hT
      obtain rfl := (h.d5 e5).1
      have x3 := HXP.out w3 hbel
      obtain ⟨c0, c1⟩ := x3.cells
      have ch := x3.heap
      have cl := x3.lt
      clear hr hq
      refine wpOp_runN rfl rfl (fun K hK => ?_)
      go_simp
      refine hK _ _ ⟨l0, l1, l2, l3, l4, l5, true, l7, l8, l9, _, _, _, _, _, _, _, _, _, rfl, rfl, ?_⟩
      exact { bel := h.bel, all := fun e => (by rw [hT] at e; cases e), fin := fun e => (by rw [hT] at e; cases e), d0 := h.d0, d1 := h.d1, d2 := h.d2, d3 := h.d3, d4 := h.d4, d5 := h.d5, d6 := fun _ => ⟨rfl, e5⟩, d7 := fun e => absurd (h.d7 e).2.2 (by rw [hme]; decide), d8 := h.d8 }
    | 7, hq, _ =>
      have hr := ready_depN hq rfl
      have hme : l7 = false := hr.1
      have e4 : l4 = true := hr.2 ⟨4, .chain⟩ (by simp) (by kernel_rfl)
      have e6 : l6 = true := hr.2 ⟨6, .data⟩ (by simp) (by kernel_rfl)
      have hT : l9 = false := by
        cases hc9 : l9 with
        | false => rfl
        | true => exact absurd (h.all hc9).2.2.2.2.2.2.2.1 (by rw [hme]; decide)
      have hbel := h.bel hT
      obtain rfl := (h.d6 e6).1
      clear hr hq
      refine wpOp_runN rfl rfl (fun K hK => ?_)
      go_simp
      go_at_call 53
      refine Calls.mono (GO2.out w3 (HBW.out w3 hbel)) ?_
      rintro e w4 ⟨r, rfl, ho, hs4⟩
      have hbel4 := hbel.trans (hs4.mono hbel.size)
      have hnew := rw2_of hbel.size ((h.d4 e4).1 hT) (own_of2 ho)
      refine hK _ _ ⟨l0, l1, l2, l3, l4, l5, l6, true, l8, l9, _, _, _, _, _, _, _, _, _, rfl, rfl, ?_⟩
      exact { bel := fun _ => hbel4, all := fun e => (by rw [hT] at e; cases e), fin := fun e => (by rw [hT] at e; cases e), d0 := h.d0, d1 := h.d1, d2 := h.d2, d3 := h.d3, d4 := fun e => ⟨fun hx => ((h.d4 e).1 hx).below hs4, (h.d4 e).2⟩, d5 := h.d5, d6 := h.d6, d7 := fun _ => ⟨fun _ => hnew, e4, e6⟩, d8 := fun e => absurd (h.d8 e).2.2 (by rw [hme]; decide) }
    | 8, hq, _ =>
      have hr := ready_depN hq rfl
      have hme : l8 = false := hr.1
      have e4 : l4 = true := hr.2 ⟨4, .data⟩ (by simp) (by kernel_rfl)
      have e7 : l7 = true := hr.2 ⟨7, .data⟩ (by simp) (by kernel_rfl)
      have hT : l9 = false := by
        cases hc9 : l9 with
        | false => rfl
        | true => exact absurd (h.all hc9).2.2.2.2.2.2.2.2 (by rw [hme]; decide)
      have hbel := h.bel hT
      obtain ⟨u3a, u3n, u3c, rfl⟩ := ((h.d4 e4).1 hT).shape
      obtain ⟨u9a, u9n, u9c, rfl⟩ := ((h.d7 e7).1 hT).shape
      clear hr hq
      refine wpOp_runN rfl rfl (fun K hK => ?_)
      go_simp
      refine hK _ _ ⟨l0, l1, l2, l3, l4, l5, l6, l7, true, l9, _, _, _, _, _, _, _, _, _, rfl, rfl, ?_⟩
      exact { bel := h.bel, all := fun e => (by rw [hT] at e; cases e), fin := fun e => (by rw [hT] at e; cases e), d0 := h.d0, d1 := h.d1, d2 := h.d2, d3 := h.d3, d4 := h.d4, d5 := h.d5, d6 := h.d6, d7 := h.d7, d8 := fun _ => ⟨rfl, e4, e7⟩ }
    | 9, hq, _ =>
      have hr := ready_depN hq rfl
      have hme : l9 = false := hr.1
      have e0 : l0 = true := hr.2 ⟨0, .phase⟩ (by simp) (by kernel_rfl)
      have e1 : l1 = true := hr.2 ⟨1, .phase⟩ (by simp) (by kernel_rfl)
      have e2 : l2 = true := hr.2 ⟨2, .phase⟩ (by simp) (by kernel_rfl)
      have e3 : l3 = true := hr.2 ⟨3, .phase⟩ (by simp) (by kernel_rfl)
      have e4 : l4 = true := hr.2 ⟨4, .phase⟩ (by simp) (by kernel_rfl)
      have e5 : l5 = true := hr.2 ⟨5, .phase⟩ (by simp) (by kernel_rfl)
      have e6 : l6 = true := hr.2 ⟨6, .phase⟩ (by simp) (by kernel_rfl)
      have e7 : l7 = true := hr.2 ⟨7, .chain⟩ (by simp) (by kernel_rfl)
      have e8 : l8 = true := hr.2 ⟨8, .data⟩ (by simp) (by kernel_rfl)
      have hbel := h.bel hme
      obtain rfl := (h.d0 e0).1
      obtain rfl := (h.d1 e1).1
      obtain rfl := (h.d2 e2).1
      obtain rfl := (h.d3 e3).1
      obtain rfl := (h.d5 e5).1
      obtain rfl := (h.d6 e6).1
      obtain rfl := (h.d8 e8).1
      have y3 := HYP.out w3 hbel
      obtain ⟨k0, k1⟩ := y3.cells
      have kh := y3.heap
      have kl := y3.lt
      have kf0 := y3.frozen 0
      have kf1 := y3.frozen 1
      clear hr hq
      have hF4 := (h.d4 e4).1 hme
      have hF7 := (h.d7 e7).1 hme
      refine wpOp_runN rfl rfl (fun K hK => ?_)
      obtain ⟨u3a, u3n, u3c, rfl⟩ := hF4.shape
      obtain ⟨u9a, u9n, u9c, rfl⟩ := hF7.shape
      go_simp
      refine hK _ _ ⟨l0, l1, l2, l3, l4, l5, l6, l7, l8, true, _, _, _, _, _, _, _, _, _, rfl, rfl, ?_⟩
      exact { bel := fun e => (by cases e), all := fun _ => ⟨e0, e1, e2, e3, e4, e5, e6, e7, e8⟩, fin := fun _ => ⟨w3, hbel, rfl, hF4, hF7⟩, d0 := h.d0, d1 := h.d1, d2 := h.d2, d3 := h.d3, d4 := fun e => ⟨fun e9 => (by cases e9), (h.d4 e).2⟩, d5 := h.d5, d6 := h.d6, d7 := fun e => ⟨fun e9 => (by cases e9), (h.d7 e).2⟩, d8 := h.d8 }
    | k + 10, hq, h18 => exact (Nat.not_lt_of_le (Nat.le_add_left 10 k) h18).elim
  case done =>
    rintro lb9 ac9 w3 ⟨l0, l1, l2, l3, l4, l5, l6, l7, l8, l9, s0, s1, s2, s3, s4, s5, s6, s7, s8, rfl, rfl, h⟩ hr
    cases l0
    · exact (ready_none2N hr 0 rfl rfl rfl).elim
    cases l1
    · exact (ready_none2N hr 1 rfl rfl rfl).elim
    cases l2
    · exact (ready_none2N hr 2 rfl rfl rfl).elim
    cases l3
    · exact (ready_none2N hr 3 rfl rfl rfl).elim
    cases l4
    · exact (ready_none2N hr 4 rfl rfl rfl).elim
    cases l5
    · exact (ready_none2N hr 5 rfl rfl rfl).elim
    cases l6
    · exact (ready_none2N hr 6 rfl rfl rfl).elim
    cases l7
    · exact (ready_none2N hr 7 rfl rfl rfl).elim
    cases l8
    · exact (ready_none2N hr 8 rfl rfl rfl).elim
    cases l9
    · exact (ready_none2N hr 9 rfl rfl rfl).elim
    obtain rfl := (h.d0 rfl).1
    obtain rfl := (h.d1 rfl).1
    obtain rfl := (h.d2 rfl).1
    obtain rfl := (h.d3 rfl).1
    obtain rfl := (h.d5 rfl).1
    obtain rfl := (h.d6 rfl).1
    obtain rfl := (h.d8 rfl).1
    obtain ⟨w4, hbel, rfl, hF4, hF7⟩ := h.fin rfl
    clear h hr
    obtain ⟨u3a, u3n, u3c, rfl⟩ := hF4.shape
    obtain ⟨u9a, u9n, u9c, rfl⟩ := hF7.shape
    have y4 := ((HYP.out w4 hbel).set0 (.slice u3a u3n u3c)).set1 (.slice u9a u9n u9c)
    have hsz4 := hbel.size
    change w0.heap.size ≤ w4.heap.size at hsz4
    have hO := ((ownLa_rw hF4 hF7).setO (b := w.heap.size + 1) (o := 0) (x := .slice u3a u3n u3c) (Or.inl (by show _ < w0.heap.size; omega))).setO (b := w.heap.size + 1) (o := 1) (x := .slice u9a u9n u9c) (Or.inl (by show _ < w0.heap.size; omega))
    have HOL : Hid (OwnLa ((w4.setCell ⟨w.heap.size + 1, 0, none⟩ (.slice u3a u3n u3c)).setCell ⟨w.heap.size + 1, 1, none⟩ (.slice u9a u9n u9c)) w.heap.size ((w4.setCell ⟨w.heap.size + 1, 0, none⟩ (.slice u3a u3n u3c)).setCell ⟨w.heap.size + 1, 1, none⟩ (.slice u9a u9n u9c)).heap.size (.agg #[.slice u3a u3n u3c, .slice u9a u9n u9c]) (xs, ys)) := hO.weak (by show w.heap.size ≤ w0.heap.size; omega) (by rw [size_set, size_set]; exact Nat.le_refl _) (Nat.le_refl _)
    have HBE : Hid (Below w.heap.size w ((w4.setCell ⟨w.heap.size + 1, 0, none⟩ (.slice u3a u3n u3c)).setCell ⟨w.heap.size + 1, 1, none⟩ (.slice u9a u9n u9c))) := ((HBW.out w4 hbel).setCell (by show w.heap.size ≤ w.heap.size + 1; omega) _).setCell (by show w.heap.size ≤ w.heap.size + 1; omega) _
    have hyh := y4.heap
    clear hO hF4 hF7
    go_wp2_with fail
    refine bodyPost_ret (results_cell_row rfl _ _ (w.heap.size + 1) 26 _ (0, 0) _ rfl hyh Try.underlying26 rfl (by kernel_rfl)) rfl ?_
    exact ⟨_, rfl, HOL.out, HBE.out⟩
set_option maxRecDepth 100000 in
set_option maxHeartbeats 8000000 in
theorem suf_none (oa : Option Addr) (on oc k : Nat) (hk : k = 0) (xs ys : List Int) (w : World)
    (GO1 : Hid (∀ w1 : World, Below w.heap.size w w1 → Calls Try.prog 53 #[.slice none 0 0] w1 fun e w' => ∃ r, e = .returned r ∧ OwnInts2 w' w1.heap.size r xs ∧ Below w1.heap.size w1 w'))
    (GO2 : Hid (∀ w1 : World, Below w.heap.size w w1 → Calls Try.prog 53 #[.slice oa on oc] w1 fun e w' => ∃ r, e = .returned r ∧ OwnInts2 w' w1.heap.size r ys ∧ Below w1.heap.size w1 w')) :
    Calls Try.prog 59 #[.agg #[.slice none 0 0, .slice oa on oc], .int .i64 k] w fun e w' => ∃ u, e = .returned u ∧ OwnLa w' w.heap.size w'.heap.size u (xs, ys) ∧ Below w.heap.size w w' := by
  subst hk
  obtain ⟨w0, hw0⟩ : ∃ w0, (w.alloc (.cells #[.slice none 0 0, .slice oa on oc] 26)).alloc (.cells #[.slice none 0 0, .slice none 0 0] 26) = w0 := ⟨_, rfl⟩
  have HB0 : Hid (Below w.heap.size w w0) := by
    show Below _ _ _
    rw [← hw0]
    exact ((Below.refl _ _).alloc (Nat.le_refl _) _).alloc (by rw [World.size_alloc]; omega) _
  have x0 := (box2_alloc w 26 (.slice none 0 0) (.slice oa on oc)).alloc (.cells #[.slice none 0 0, .slice none 0 0] 26)
  have y0 := box2_alloc (w.alloc (.cells #[.slice none 0 0, .slice oa on oc] 26)) 26 (.slice none 0 0) (.slice none 0 0)
  simp only [World.size_alloc] at y0
  have hz0 : w0.heap.size = w.heap.size + 2 := by rw [← hw0, World.size_alloc, World.size_alloc]
  rw [hw0] at x0 y0
  have HXP : Hid (∀ w3, Below w0.drew.heap.size w0.drew w3 → Box2 w3 w.heap.size 26 (.slice none 0 0) (.slice oa on oc)) := fun w3 hb3 => Box2.below (w := w0.drew) ⟨x0.heap⟩ hb3 (by show _ < w0.heap.size; omega)
  have HYP : Hid (∀ w3, Below w0.drew.heap.size w0.drew w3 → Box2 w3 (w.heap.size + 1) 26 (.slice none 0 0) (.slice none 0 0)) := fun w3 hb3 => Box2.below (w := w0.drew) ⟨y0.heap⟩ hb3 (by show _ < w0.heap.size; omega)
  have HBW : Hid (∀ w3, Below w0.drew.heap.size w0.drew w3 → Below w.heap.size w w3) := fun w3 hb3 => HB0.out.drew.trans (hb3.mono (by show w.heap.size ≤ w0.heap.size; omega))
  have HW0 : Hid _ := hw0
  obtain ⟨a0, a1⟩ := x0.cells
  have ah := x0.heap
  have al := x0.lt
  rw [← hw0] at a0 a1 ah al
  clear x0 y0 hw0
  go_enter Try.func59, Try.ntmps59
  go_wp2_with fail
  rw [HW0.out]
  refine wp_region_any (by kernel_rfl) ?_
  change wpAny _ _ _ _ _ _ _ (World.drew _)
  refine wpAny_invN (fun lb9 ac9 w' => ∃ (l0 l1 l2 l3 l4 l5 l6 l7 l8 l9 : Bool) (s0 s1 s2 s3 s4 s5 s6 s7 s8 : Value), lb9 = #[l0, l1, l2, l3, l4, l5, l6, l7, l8, l9] ∧ ac9 = { tmps := #[.agg #[.slice none 0 0, .slice oa on oc], .int .i64 0, .pointer (some ⟨w.heap.size, 0, none⟩), undef, .pointer (some ⟨w.heap.size + 1, 0, none⟩), .int .i64 0, .pointer (some ⟨w.heap.size, 0, none⟩), .slice none 0 0, .int .i64 0, .bool true, s0, s1, s2, s3, s4, s5, s6, s7, s8, undef, undef, undef, undef, undef, undef, undef], defers := [] } ∧ RegSuf w0.drew w' w0.drew.heap.size w.heap.size (w.heap.size + 1) none 0 0 oa on oc 0 (.slice none 0 0) xs ys l0 l1 l2 l3 l4 l5 l6 l7 l8 l9 s0 s1 s2 s3 s4 s5 s6 s7 s8) ?done ?step 10 _ _ _ ⟨false, false, false, false, false, false, false, false, false, false, _, _, _, _, _, _, _, _, _, rfl, rfl, ?init⟩ (by decide)
  case init => exact { bel := fun _ => Below.refl _ _, all := fun e => (by cases e), fin := fun e => (by cases e), d0 := fun e => (by cases e), d1 := fun e => (by cases e), d2 := fun e => (by cases e), d3 := fun e => (by cases e), d4 := fun e => (by cases e), d5 := fun e => (by cases e), d6 := fun e => (by cases e), d7 := fun e => (by cases e), d8 := fun e => (by cases e) }
  case step =>
    rintro lb9 ac9 w3 ⟨l0, l1, l2, l3, l4, l5, l6, l7, l8, l9, s0, s1, s2, s3, s4, s5, s6, s7, s8, rfl, rfl, h⟩
    intro q hq
    have hlt9 := ready_ltN hq
    match q, hq, hlt9 with
    | 0, hq, _ =>
      have hr := ready_depN hq rfl
      have hme : l0 = false := hr.1
      have hT : l9 = false := by
        cases hc9 : l9 with
        | false => rfl
        | true => exact absurd (h.all hc9).1 (by rw [hme]; decide)
      have hbel := h.bel hT
      clear hr hq
      refine wpOp_runN rfl rfl (fun K hK => ?_)
      go_simp
      refine hK _ _ ⟨true, l1, l2, l3, l4, l5, l6, l7, l8, l9, _, _, _, _, _, _, _, _, _, rfl, rfl, ?_⟩
      exact { bel := h.bel, all := fun e => (by rw [hT] at e; cases e), fin := fun e => (by rw [hT] at e; cases e), d0 := fun _ => ⟨rfl, trivial⟩, d1 := fun e => absurd (h.d1 e).2 (by rw [hme]; decide), d2 := h.d2, d3 := h.d3, d4 := h.d4, d5 := h.d5, d6 := h.d6, d7 := h.d7, d8 := h.d8 }
    | 1, hq, _ =>
      have hr := ready_depN hq rfl
      have hme : l1 = false := hr.1
      have e0 : l0 = true := hr.2 ⟨0, .data⟩ (by simp) (by kernel_rfl)
      have hT : l9 = false := by
        cases hc9 : l9 with
        | false => rfl
        | true => exact absurd (h.all hc9).2.1 (by rw [hme]; decide)
      have hbel := h.bel hT
      obtain rfl := (h.d0 e0).1
      have x3 := HXP.out w3 hbel
      obtain ⟨c0, c1⟩ := x3.cells
      have ch := x3.heap
      have cl := x3.lt
      clear hr hq
      refine wpOp_runN rfl rfl (fun K hK => ?_)
      go_simp
      refine hK _ _ ⟨l0, true, l2, l3, l4, l5, l6, l7, l8, l9, _, _, _, _, _, _, _, _, _, rfl, rfl, ?_⟩
      exact { bel := h.bel, all := fun e => (by rw [hT] at e; cases e), fin := fun e => (by rw [hT] at e; cases e), d0 := h.d0, d1 := fun _ => ⟨rfl, e0⟩, d2 := h.d2, d3 := fun e => absurd (h.d3 e).2.1 (by rw [hme]; decide), d4 := h.d4, d5 := h.d5, d6 := h.d6, d7 := h.d7, d8 := h.d8 }
    | 2, hq, _ =>
      have hr := ready_depN hq rfl
      have hme : l2 = false := hr.1
      have hT : l9 = false := by
        cases hc9 : l9 with
        | false => rfl
        | true => exact absurd (h.all hc9).2.2.1 (by rw [hme]; decide)
      have hbel := h.bel hT
      clear hr hq
      refine wpOp_runN rfl rfl (fun K hK => ?_)
      go_simp
      refine hK _ _ ⟨l0, l1, true, l3, l4, l5, l6, l7, l8, l9, _, _, _, _, _, _, _, _, _, rfl, rfl, ?_⟩
      exact { bel := h.bel, all := fun e => (by rw [hT] at e; cases e), fin := fun e => (by rw [hT] at e; cases e), d0 := h.d0, d1 := h.d1, d2 := fun _ => ⟨rfl, trivial⟩, d3 := fun e => absurd (h.d3 e).2.2 (by rw [hme]; decide), d4 := h.d4, d5 := h.d5, d6 := h.d6, d7 := h.d7, d8 := h.d8 }
    | 3, hq, _ =>
      have hr := ready_depN hq rfl
      have hme : l3 = false := hr.1
      have e1 : l1 = true := hr.2 ⟨1, .data⟩ (by simp) (by kernel_rfl)
      have e2 : l2 = true := hr.2 ⟨2, .data⟩ (by simp) (by kernel_rfl)
      have hT : l9 = false := by
        cases hc9 : l9 with
        | false => rfl
        | true => exact absurd (h.all hc9).2.2.2.1 (by rw [hme]; decide)
      have hbel := h.bel hT
      obtain rfl := (h.d1 e1).1
      obtain rfl := (h.d2 e2).1
      clear hr hq
      refine wpOp_runN rfl rfl (fun K hK => ?_)
      go_simp
      refine hK _ _ ⟨l0, l1, l2, true, l4, l5, l6, l7, l8, l9, _, _, _, _, _, _, _, _, _, rfl, rfl, ?_⟩
      exact { bel := h.bel, all := fun e => (by rw [hT] at e; cases e), fin := fun e => (by rw [hT] at e; cases e), d0 := h.d0, d1 := h.d1, d2 := h.d2, d3 := fun _ => ⟨rfl, e1, e2⟩, d4 := fun e => absurd (h.d4 e).2 (by rw [hme]; decide), d5 := h.d5, d6 := h.d6, d7 := h.d7, d8 := h.d8 }
    | 4, hq, _ =>
      have hr := ready_depN hq rfl
      have hme : l4 = false := hr.1
      have e3 : l3 = true := hr.2 ⟨3, .data⟩ (by simp) (by kernel_rfl)
      have hT : l9 = false := by
        cases hc9 : l9 with
        | false => rfl
        | true => exact absurd (h.all hc9).2.2.2.2.1 (by rw [hme]; decide)
      have hbel := h.bel hT
      obtain rfl := (h.d3 e3).1
      clear hr hq
      refine wpOp_runN rfl rfl (fun K hK => ?_)
      go_simp
      go_at_call 53
      refine Calls.mono (GO1.out w3 (HBW.out w3 hbel)) ?_
      rintro e w4 ⟨r, rfl, ho, hs4⟩
      have hbel4 := hbel.trans (hs4.mono hbel.size)
      have hnew := rw_of hbel.size (own_of2 ho)
      refine hK _ _ ⟨l0, l1, l2, l3, true, l5, l6, l7, l8, l9, _, _, _, _, _, _, _, _, _, rfl, rfl, ?_⟩
      exact { bel := fun _ => hbel4, all := fun e => (by rw [hT] at e; cases e), fin := fun e => (by rw [hT] at e; cases e), d0 := h.d0, d1 := h.d1, d2 := h.d2, d3 := h.d3, d4 := fun _ => ⟨fun _ => hnew, e3⟩, d5 := h.d5, d6 := h.d6, d7 := fun e => absurd (h.d7 e).2.1 (by rw [hme]; decide), d8 := fun e => absurd (h.d8 e).2.1 (by rw [hme]; decide) }
    | 5, hq, _ =>
      have hr := ready_depN hq rfl
      have hme : l5 = false := hr.1
      have hT : l9 = false := by
        cases hc9 : l9 with
        | false => rfl
        | true => exact absurd (h.all hc9).2.2.2.2.2.1 (by rw [hme]; decide)
      have hbel := h.bel hT
      clear hr hq
      refine wpOp_runN rfl rfl (fun K hK => ?_)
      go_simp
      refine hK _ _ ⟨l0, l1, l2, l3, l4, true, l6, l7, l8, l9, _, _, _, _, _, _, _, _, _, rfl, rfl, ?_⟩
      exact { bel := h.bel, all := fun e => (by rw [hT] at e; cases e), fin := fun e => (by rw [hT] at e; cases e), d0 := h.d0, d1 := h.d1, d2 := h.d2, d3 := h.d3, d4 := h.d4, d5 := fun _ => ⟨rfl, trivial⟩, d6 := fun e => absurd (h.d6 e).2 (by rw [hme]; decide), d7 := h.d7, d8 := h.d8 }
    | 6, hq, _ =>
      have hr := ready_depN hq rfl
      have hme : l6 = false := hr.1
      have e5 : l5 = true := hr.2 ⟨5, .data⟩ (by simp) (by kernel_rfl)
      have hT : l9 = false := by
        cases hc9 : l9 with
        | false => rfl
        | true => exact absurd (h.all hc9).2.2.2.2.2.2.1 (by rw [hme]; decide)
      have hbel := h.bel hT
      obtain rfl := (h.d5 e5).1
      have x3 := HXP.out w3 hbel
      obtain ⟨c0, c1⟩ := x3.cells
      have ch := x3.heap
      have cl := x3.lt
      clear hr hq
      refine wpOp_runN rfl rfl (fun K hK => ?_)
      go_simp
      refine hK _ _ ⟨l0, l1, l2, l3, l4, l5, true, l7, l8, l9, _, _, _, _, _, _, _, _, _, rfl, rfl, ?_⟩
      exact { bel := h.bel, all := fun e => (by rw [hT] at e; cases e), fin := fun e => (by rw [hT] at e; cases e), d0 := h.d0, d1 := h.d1, d2 := h.d2, d3 := h.d3, d4 := h.d4, d5 := h.d5, d6 := fun _ => ⟨rfl, e5⟩, d7 := fun e => absurd (h.d7 e).2.2 (by rw [hme]; decide), d8 := h.d8 }
    | 7, hq, _ =>
      have hr := ready_depN hq rfl
      have hme : l7 = false := hr.1
      have e4 : l4 = true := hr.2 ⟨4, .chain⟩ (by simp) (by kernel_rfl)
      have e6 : l6 = true := hr.2 ⟨6, .data⟩ (by simp) (by kernel_rfl)
      have hT : l9 = false := by
        cases hc9 : l9 with
        | false => rfl
        | true => exact absurd (h.all hc9).2.2.2.2.2.2.2.1 (by rw [hme]; decide)
      have hbel := h.bel hT
      obtain rfl := (h.d6 e6).1
      clear hr hq
      refine wpOp_runN rfl rfl (fun K hK => ?_)
      go_simp
      go_at_call 53
      refine Calls.mono (GO2.out w3 (HBW.out w3 hbel)) ?_
      rintro e w4 ⟨r, rfl, ho, hs4⟩
      have hbel4 := hbel.trans (hs4.mono hbel.size)
      have hnew := rw2_of hbel.size ((h.d4 e4).1 hT) (own_of2 ho)
      refine hK _ _ ⟨l0, l1, l2, l3, l4, l5, l6, true, l8, l9, _, _, _, _, _, _, _, _, _, rfl, rfl, ?_⟩
      exact { bel := fun _ => hbel4, all := fun e => (by rw [hT] at e; cases e), fin := fun e => (by rw [hT] at e; cases e), d0 := h.d0, d1 := h.d1, d2 := h.d2, d3 := h.d3, d4 := fun e => ⟨fun hx => ((h.d4 e).1 hx).below hs4, (h.d4 e).2⟩, d5 := h.d5, d6 := h.d6, d7 := fun _ => ⟨fun _ => hnew, e4, e6⟩, d8 := fun e => absurd (h.d8 e).2.2 (by rw [hme]; decide) }
    | 8, hq, _ =>
      have hr := ready_depN hq rfl
      have hme : l8 = false := hr.1
      have e4 : l4 = true := hr.2 ⟨4, .data⟩ (by simp) (by kernel_rfl)
      have e7 : l7 = true := hr.2 ⟨7, .data⟩ (by simp) (by kernel_rfl)
      have hT : l9 = false := by
        cases hc9 : l9 with
        | false => rfl
        | true => exact absurd (h.all hc9).2.2.2.2.2.2.2.2 (by rw [hme]; decide)
      have hbel := h.bel hT
      obtain ⟨u3a, u3n, u3c, rfl⟩ := ((h.d4 e4).1 hT).shape
      obtain ⟨u9a, u9n, u9c, rfl⟩ := ((h.d7 e7).1 hT).shape
      clear hr hq
      refine wpOp_runN rfl rfl (fun K hK => ?_)
      go_simp
      refine hK _ _ ⟨l0, l1, l2, l3, l4, l5, l6, l7, true, l9, _, _, _, _, _, _, _, _, _, rfl, rfl, ?_⟩
      exact { bel := h.bel, all := fun e => (by rw [hT] at e; cases e), fin := fun e => (by rw [hT] at e; cases e), d0 := h.d0, d1 := h.d1, d2 := h.d2, d3 := h.d3, d4 := h.d4, d5 := h.d5, d6 := h.d6, d7 := h.d7, d8 := fun _ => ⟨rfl, e4, e7⟩ }
    | 9, hq, _ =>
      have hr := ready_depN hq rfl
      have hme : l9 = false := hr.1
      have e0 : l0 = true := hr.2 ⟨0, .phase⟩ (by simp) (by kernel_rfl)
      have e1 : l1 = true := hr.2 ⟨1, .phase⟩ (by simp) (by kernel_rfl)
      have e2 : l2 = true := hr.2 ⟨2, .phase⟩ (by simp) (by kernel_rfl)
      have e3 : l3 = true := hr.2 ⟨3, .phase⟩ (by simp) (by kernel_rfl)
      have e4 : l4 = true := hr.2 ⟨4, .phase⟩ (by simp) (by kernel_rfl)
      have e5 : l5 = true := hr.2 ⟨5, .phase⟩ (by simp) (by kernel_rfl)
      have e6 : l6 = true := hr.2 ⟨6, .phase⟩ (by simp) (by kernel_rfl)
      have e7 : l7 = true := hr.2 ⟨7, .chain⟩ (by simp) (by kernel_rfl)
      have e8 : l8 = true := hr.2 ⟨8, .data⟩ (by simp) (by kernel_rfl)
      have hbel := h.bel hme
      obtain rfl := (h.d0 e0).1
      obtain rfl := (h.d1 e1).1
      obtain rfl := (h.d2 e2).1
      obtain rfl := (h.d3 e3).1
      obtain rfl := (h.d5 e5).1
      obtain rfl := (h.d6 e6).1
      obtain rfl := (h.d8 e8).1
      have y3 := HYP.out w3 hbel
      obtain ⟨k0, k1⟩ := y3.cells
      have kh := y3.heap
      have kl := y3.lt
      have kf0 := y3.frozen 0
      have kf1 := y3.frozen 1
      clear hr hq
      have hF4 := (h.d4 e4).1 hme
      have hF7 := (h.d7 e7).1 hme
      refine wpOp_runN rfl rfl (fun K hK => ?_)
      obtain ⟨u3a, u3n, u3c, rfl⟩ := hF4.shape
      obtain ⟨u9a, u9n, u9c, rfl⟩ := hF7.shape
      go_simp
      refine hK _ _ ⟨l0, l1, l2, l3, l4, l5, l6, l7, l8, true, _, _, _, _, _, _, _, _, _, rfl, rfl, ?_⟩
      exact { bel := fun e => (by cases e), all := fun _ => ⟨e0, e1, e2, e3, e4, e5, e6, e7, e8⟩, fin := fun _ => ⟨w3, hbel, rfl, hF4, hF7⟩, d0 := h.d0, d1 := h.d1, d2 := h.d2, d3 := h.d3, d4 := fun e => ⟨fun e9 => (by cases e9), (h.d4 e).2⟩, d5 := h.d5, d6 := h.d6, d7 := fun e => ⟨fun e9 => (by cases e9), (h.d7 e).2⟩, d8 := h.d8 }
    | k + 10, hq, h18 => exact (Nat.not_lt_of_le (Nat.le_add_left 10 k) h18).elim
  case done =>
    rintro lb9 ac9 w3 ⟨l0, l1, l2, l3, l4, l5, l6, l7, l8, l9, s0, s1, s2, s3, s4, s5, s6, s7, s8, rfl, rfl, h⟩ hr
    cases l0
    · exact (ready_none2N hr 0 rfl rfl rfl).elim
    cases l1
    · exact (ready_none2N hr 1 rfl rfl rfl).elim
    cases l2
    · exact (ready_none2N hr 2 rfl rfl rfl).elim
    cases l3
    · exact (ready_none2N hr 3 rfl rfl rfl).elim
    cases l4
    · exact (ready_none2N hr 4 rfl rfl rfl).elim
    cases l5
    · exact (ready_none2N hr 5 rfl rfl rfl).elim
    cases l6
    · exact (ready_none2N hr 6 rfl rfl rfl).elim
    cases l7
    · exact (ready_none2N hr 7 rfl rfl rfl).elim
    cases l8
    · exact (ready_none2N hr 8 rfl rfl rfl).elim
    cases l9
    · exact (ready_none2N hr 9 rfl rfl rfl).elim
    obtain rfl := (h.d0 rfl).1
    obtain rfl := (h.d1 rfl).1
    obtain rfl := (h.d2 rfl).1
    obtain rfl := (h.d3 rfl).1
    obtain rfl := (h.d5 rfl).1
    obtain rfl := (h.d6 rfl).1
    obtain rfl := (h.d8 rfl).1
    obtain ⟨w4, hbel, rfl, hF4, hF7⟩ := h.fin rfl
    clear h hr
    obtain ⟨u3a, u3n, u3c, rfl⟩ := hF4.shape
    obtain ⟨u9a, u9n, u9c, rfl⟩ := hF7.shape
    have y4 := ((HYP.out w4 hbel).set0 (.slice u3a u3n u3c)).set1 (.slice u9a u9n u9c)
    have hsz4 := hbel.size
    change w0.heap.size ≤ w4.heap.size at hsz4
    have hO := ((ownLa_rw hF4 hF7).setO (b := w.heap.size + 1) (o := 0) (x := .slice u3a u3n u3c) (Or.inl (by show _ < w0.heap.size; omega))).setO (b := w.heap.size + 1) (o := 1) (x := .slice u9a u9n u9c) (Or.inl (by show _ < w0.heap.size; omega))
    have HOL : Hid (OwnLa ((w4.setCell ⟨w.heap.size + 1, 0, none⟩ (.slice u3a u3n u3c)).setCell ⟨w.heap.size + 1, 1, none⟩ (.slice u9a u9n u9c)) w.heap.size ((w4.setCell ⟨w.heap.size + 1, 0, none⟩ (.slice u3a u3n u3c)).setCell ⟨w.heap.size + 1, 1, none⟩ (.slice u9a u9n u9c)).heap.size (.agg #[.slice u3a u3n u3c, .slice u9a u9n u9c]) (xs, ys)) := hO.weak (by show w.heap.size ≤ w0.heap.size; omega) (by rw [size_set, size_set]; exact Nat.le_refl _) (Nat.le_refl _)
    have HBE : Hid (Below w.heap.size w ((w4.setCell ⟨w.heap.size + 1, 0, none⟩ (.slice u3a u3n u3c)).setCell ⟨w.heap.size + 1, 1, none⟩ (.slice u9a u9n u9c))) := ((HBW.out w4 hbel).setCell (by show w.heap.size ≤ w.heap.size + 1; omega) _).setCell (by show w.heap.size ≤ w.heap.size + 1; omega) _
    have hyh := y4.heap
    clear hO hF4 hF7
    go_wp2_with fail
    refine bodyPost_ret (results_cell_row rfl _ _ (w.heap.size + 1) 26 _ (0, 0) _ rfl hyh Try.underlying26 rfl (by kernel_rfl)) rfl ?_
    exact ⟨_, rfl, HOL.out, HBE.out⟩
end Go.Proofs.Ythamdefkcjfjpaa

namespace Go.Proofs.Ythamdefkcjfjpaa
open Go Go.RowKit
open M
set_option linter.unusedVariables false
set_option linter.unusedSimpArgs false

def letR (l : La) (k : Int) : Int := if atB l k = true then letL l k.toNat else 0
def unrR (l : La) (k : Int) : List Int := if atB l k = true then unrL l 0 k.toNat else []
def sufR (l : La) (k : Int) : La := if atB l k = true then sufL l k.toNat else ([], [])
theorem at_parts {l : La} {k : Int} (h : atB l k = true) : goodLa l = true ∧ ∃ n : Nat, k = n ∧ n ≤ 1000 := by
  unfold atB at h
  rw [Bool.and_eq_true, decide_eq_true_eq] at h
  exact ⟨h.1, k.toNat, by omega, by omega⟩
set_option maxRecDepth 100000 in
theorem iLetterAt_any (v : Value) (l : La) (k : Int) (w : World) (h : AtLa w v l) :
    Calls Try.prog 30 #[v, .int .i64 k] w fun e w' => e = .returned (.tuple #[.int .i64 (letR l k), .bool (atB l k)]) ∧ Below w.heap.size w w' := by
  have HG : Hid (∀ w1 : World, Below w.heap.size w w1 → Calls Try.prog 58 #[v, .int .i64 k] w1 fun e w' => e = .returned (.bool (atB l k)) ∧ Below w1.heap.size w1 w') := fun w1 hb => goodAt_any v l k w1 (h.below hb)
  have HLT : Hid (atB l k = true → ∀ w1 : World, Below w.heap.size w w1 → Calls Try.prog 63 #[v, .int .i64 k] w1 fun e w' => e = .returned (.int .i64 (letR l k)) ∧ Below w1.heap.size w1 w') := fun hat w1 hb => by
    obtain ⟨hg, n, rfl, hn⟩ := at_parts hat
    unfold letR
    rw [if_pos hat, Int.toNat_natCast]
    exact letter_any v l hg n (by omega) w1 (h.below hb)
  have HN : Hid (atB l k = false → letR l k = 0) := fun e => by
    unfold letR
    rw [if_neg (by rw [e]; decide)]
  obtain ⟨ga, gn, gc, oa, on, oc, rfl⟩ := h.shape
  have HB0 : Hid (Below w.heap.size w (w.alloc (.cells #[.slice ga gn gc, .slice oa on oc] 26))) := (Below.refl _ _).alloc (Nat.le_refl _) _
  have x0 := box2_alloc w 26 (.slice ga gn gc) (.slice oa on oc)
  have HX0 : Hid _ := x0
  have g := HG.out _ HB0.out
  clear h HG x0
  generalize letR l k = LR at *
  generalize atB l k = AB at *
  cases AB with
  | false =>
    have HZ := HN.out rfl
    subst HZ
    clear HLT HN HX0
    go_enter Try.func30, Try.ntmps30
    go_wp2_with fail
    refine g.mono ?_
    rintro e w1 ⟨rfl, hs⟩
    have HB1 : Hid (Below w.heap.size w w1) := HB0.out.trans (hs.mono HB0.out.size)
    clear g hs
    go_wp2_with fail
    go_ret2
    exact ⟨rfl, HB1.out⟩
  | true =>
    have HL2 : Hid _ := HLT.out rfl
    clear HLT HN
    go_enter Try.func30, Try.ntmps30
    go_wp2_with fail
    refine g.mono ?_
    generalize w.alloc (.cells #[.slice ga gn gc, .slice oa on oc] 26) = w0 at *
    rintro e w1 ⟨rfl, hs⟩
    have HB1 : Hid (Below w.heap.size w w1) := HB0.out.trans (hs.mono HB0.out.size)
    have x1 := HX0.out.below hs HX0.out.lt
    obtain ⟨a0, a1⟩ := x1.cells
    have ah := x1.heap
    have al := x1.lt
    clear g hs x1 HX0
    have g2 := HL2.out _ HB1.out
    go_wp2_with fail
    refine g2.mono ?_
    rintro e w2 ⟨rfl, hs⟩
    have HB2 : Hid (Below w.heap.size w w2) := HB1.out.trans (hs.mono HB1.out.size)
    clear g2 hs a0 a1 ah al
    go_wp2_with fail
    go_ret2
    exact ⟨rfl, HB2.out⟩
set_option maxRecDepth 100000 in
theorem iUnrollOf_any (v : Value) (l : La) (k : Int) (w : World) (h : AtLa w v l) :
    Calls Try.prog 31 #[v, .int .i64 k] w fun e w' => ∃ r, e = .returned (.tuple #[r, .bool (atB l k)]) ∧ OwnOI w' w.heap.size w'.heap.size r (unrR l k) ∧ Below w.heap.size w w' := by
  have HG : Hid (∀ w1 : World, Below w.heap.size w w1 → Calls Try.prog 58 #[v, .int .i64 k] w1 fun e w' => e = .returned (.bool (atB l k)) ∧ Below w1.heap.size w1 w') := fun w1 hb => goodAt_any v l k w1 (h.below hb)
  have HLT : Hid (atB l k = true → ∀ w1 : World, Below w.heap.size w w1 → Calls Try.prog 47 #[v, .int .i64 0, .int .i64 k] w1 fun e w' => ∃ r, e = .returned r ∧ OwnOI w' w1.heap.size w'.heap.size r (unrR l k) ∧ Below w1.heap.size w1 w') := fun hat w1 hb => by
    obtain ⟨hg, n, rfl, hn⟩ := at_parts hat
    unfold unrR
    rw [if_pos hat, Int.toNat_natCast]
    exact between_any v l hg 0 n (Nat.zero_le _) (by omega) w1 (h.below hb)
  have HN : Hid (atB l k = false → unrR l k = []) := fun e => by
    unfold unrR
    rw [if_neg (by rw [e]; decide)]
  obtain ⟨ga, gn, gc, oa, on, oc, rfl⟩ := h.shape
  have HB0 : Hid (Below w.heap.size w (w.alloc (.cells #[.slice ga gn gc, .slice oa on oc] 26))) := (Below.refl _ _).alloc (Nat.le_refl _) _
  have x0 := box2_alloc w 26 (.slice ga gn gc) (.slice oa on oc)
  have HX0 : Hid _ := x0
  have g := HG.out _ HB0.out
  clear h HG x0
  generalize unrR l k = LR at *
  generalize atB l k = AB at *
  cases AB with
  | false =>
    have HZ := HN.out rfl
    subst HZ
    clear HLT HN HX0
    go_enter Try.func31, Try.ntmps31
    go_wp2_with fail
    refine g.mono ?_
    rintro e w1 ⟨rfl, hs⟩
    have HB1 : Hid (Below w.heap.size w w1) := HB0.out.trans (hs.mono HB0.out.size)
    have HE : Hid (OwnOI w1 w.heap.size w1.heap.size (.slice none 0 0) []) := ⟨Nat.le_refl _, Or.inl ⟨rfl, none, 0, rfl, fun _ => rfl, fun ad e => by cases e⟩⟩
    clear g hs
    go_wp2_with fail
    go_ret2
    exact ⟨_, rfl, HE.out, HB1.out⟩
  | true =>
    have HL2 : Hid _ := HLT.out rfl
    clear HLT HN
    go_enter Try.func31, Try.ntmps31
    go_wp2_with fail
    refine g.mono ?_
    generalize w.alloc (.cells #[.slice ga gn gc, .slice oa on oc] 26) = w0 at *
    rintro e w1 ⟨rfl, hs⟩
    have HB1 : Hid (Below w.heap.size w w1) := HB0.out.trans (hs.mono HB0.out.size)
    have x1 := HX0.out.below hs HX0.out.lt
    obtain ⟨a0, a1⟩ := x1.cells
    have ah := x1.heap
    have al := x1.lt
    clear g hs x1 HX0
    have g2 := HL2.out _ HB1.out
    go_wp2_with fail
    refine g2.mono ?_
    rintro e w2 ⟨r, rfl, ho, hs⟩
    have HB2 : Hid (Below w.heap.size w w2) := HB1.out.trans (hs.mono HB1.out.size)
    have HO2 : Hid (OwnOI w2 w.heap.size w2.heap.size r LR) := OffIn.weak ho HB1.out.size (Nat.le_refl _) (Nat.le_refl _)
    clear g2 hs a0 a1 ah al ho
    go_wp2_with fail
    go_ret2
    exact ⟨_, rfl, HO2.out, HB2.out⟩
end Go.Proofs.Ythamdefkcjfjpaa

namespace Go.Proofs.Ythamdefkcjfjpaa
open Go Go.RowKit
open M
set_option linter.unusedVariables false
set_option linter.unusedSimpArgs false

theorem unrR_ok (l : La) (n : Int) : (unrR l n).length ≤ 1048576 := by
  unfold unrR
  by_cases h : atB l n = true
  · rw [if_pos h, unrL_len]
    obtain ⟨_, m, rfl, hm⟩ := at_parts h
    rw [Int.toNat_natCast]
    omega
  · rw [if_neg h]
    simp
theorem own_oi2 {w : World} {B : Nat} {v : Value} {t : List Int} (h : OwnInts2 w B v t) : OwnOI w B w.heap.size v t := offIn_of h
set_option maxRecDepth 100000 in
set_option maxHeartbeats 2000000 in
theorem sLetterAt_any (v : Value) (l : La) (k : Int) (w : World) (h : AtLa w v l) :
    Calls Try.prog 35 #[v, .int .i64 k] w fun e w' => e = .returned (.tuple #[.int .i64 (letR l k), .bool (atB l k)]) ∧ Below w.heap.size w w' := by
  have HG : Hid (∀ w1 : World, Below w.heap.size w w1 → Calls Try.prog 21 #[v] w1 fun e w' => e = .returned (.bool (goodLa l)) ∧ Below w1.heap.size w1 w') := fun w1 hb => sGoodLasso_any v l w1 (h.below hb)
  have HLT : Hid (atB l k = true → ∀ w1 : World, Below w.heap.size w w1 → Calls Try.prog 61 #[v, .int .i64 k] w1 fun e w' => e = .returned (.int .i64 (letR l k)) ∧ Below w1.heap.size w1 w') := fun hat w1 hb => by
    obtain ⟨hg, n, rfl, hn⟩ := at_parts hat
    unfold letR
    rw [if_pos hat, Int.toNat_natCast]
    exact l9At_any v l hg n (by omega) w1 (h.below hb)
  have HN : Hid (atB l k = false → letR l k = 0) := fun e => by
    unfold letR
    rw [if_neg (by rw [e]; decide)]
  have hE : atB l k = (goodLa l && decide (0 ≤ k ∧ k ≤ 1000)) := rfl
  have GI : Hid (∀ w1 : World, Calls Try.prog 55 #[.int .i64 k, .int .i64 0, .int .i64 1000] w1 fun e w' => e = .returned (.bool (decide (0 ≤ k ∧ k ≤ 1000))) ∧ w' = w1) := fun w1 => l1In_any k 0 1000 w1
  obtain ⟨ga, gn, gc, oa, on, oc, rfl⟩ := h.shape
  have HB0 : Hid (Below w.heap.size w (w.alloc (.cells #[.slice ga gn gc, .slice oa on oc] 26))) := (Below.refl _ _).alloc (Nat.le_refl _) _
  have x0 := box2_alloc w 26 (.slice ga gn gc) (.slice oa on oc)
  have HX0 : Hid _ := x0
  have g := HG.out _ HB0.out
  rw [hE] at HLT HN ⊢
  clear h HG x0 hE
  generalize letR l k = LR at *
  generalize goodLa l = AB at *
  generalize decide (0 ≤ k ∧ k ≤ 1000) = IB at *
  cases AB with
  | false =>
    rw [Bool.false_and] at HN ⊢
    have HZ := HN.out rfl
    subst HZ
    clear HLT HN HX0 GI
    go_enter Try.func35, Try.ntmps35
    go_wp2_with fail
    refine g.mono ?_
    rintro e w1 ⟨rfl, hs⟩
    have HB1 : Hid (Below w.heap.size w w1) := HB0.out.trans (hs.mono HB0.out.size)
    clear g hs
    go_wp2_with fail
    go_ret2
    exact ⟨rfl, HB1.out⟩
  | true =>
    rw [Bool.true_and] at HLT HN ⊢
    cases IB with
    | false =>
      have HZ := HN.out rfl
      subst HZ
      clear HLT HN HX0
      go_enter Try.func35, Try.ntmps35
      go_wp2_with fail
      refine g.mono ?_
      rintro e w1 ⟨rfl, hs⟩
      have HB1 : Hid (Below w.heap.size w w1) := HB0.out.trans (hs.mono HB0.out.size)
      clear g hs
      go_wp2_with fail
      refine (GI.out _).mono ?_
      rintro e w2 ⟨rfl, rfl⟩
      go_wp2_with fail
      go_ret2
      exact ⟨rfl, HB1.out⟩
    | true =>
      have HL2 : Hid _ := HLT.out rfl
      clear HLT HN
      go_enter Try.func35, Try.ntmps35
      go_wp2_with fail
      refine g.mono ?_
      generalize w.alloc (.cells #[.slice ga gn gc, .slice oa on oc] 26) = w0 at *
      rintro e w1 ⟨rfl, hs⟩
      have HB1 : Hid (Below w.heap.size w w1) := HB0.out.trans (hs.mono HB0.out.size)
      have x1 := HX0.out.below hs HX0.out.lt
      obtain ⟨a0, a1⟩ := x1.cells
      have ah := x1.heap
      have al := x1.lt
      clear g hs x1 HX0
      go_wp2_with fail
      refine (GI.out _).mono ?_
      rintro e w2 ⟨rfl, rfl⟩
      have g2 := HL2.out _ HB1.out
      go_wp2_with fail
      refine g2.mono ?_
      rintro e w2 ⟨rfl, hs⟩
      have HB2 : Hid (Below w.heap.size w w2) := HB1.out.trans (hs.mono HB1.out.size)
      clear g2 hs a0 a1 ah al
      go_wp2_with fail
      go_ret2
      exact ⟨rfl, HB2.out⟩
set_option maxRecDepth 100000 in
set_option maxHeartbeats 2000000 in
theorem sUnrollOf_any (v : Value) (l : La) (k : Int) (w : World) (h : AtLa w v l) :
    Calls Try.prog 34 #[v, .int .i64 k] w fun e w' => ∃ r, e = .returned (.tuple #[r, .bool (atB l k)]) ∧ OwnOI w' w.heap.size w'.heap.size r (unrR l k) ∧ Below w.heap.size w w' := by
  have HG : Hid (∀ w1 : World, Below w.heap.size w w1 → Calls Try.prog 21 #[v] w1 fun e w' => e = .returned (.bool (goodLa l)) ∧ Below w1.heap.size w1 w') := fun w1 hb => sGoodLasso_any v l w1 (h.below hb)
  have HLT : Hid (atB l k = true → ∀ w1 : World, Below w.heap.size w w1 → Calls Try.prog 52 #[v, .int .i64 0, .int .i64 k] w1 fun e w' => ∃ r, e = .returned r ∧ OwnInts2 w' w1.heap.size r (unrR l k) ∧ Below w1.heap.size w1 w') := fun hat w1 hb => by
    obtain ⟨hg, n, rfl, hn⟩ := at_parts hat
    unfold unrR
    rw [if_pos hat, Int.toNat_natCast]
    exact l9First_any v l hg 0 n (by omega) w1 (h.below hb)
  have HN : Hid (atB l k = false → unrR l k = []) := fun e => by
    unfold unrR
    rw [if_neg (by rw [e]; decide)]
  have hE : atB l k = (goodLa l && decide (0 ≤ k ∧ k ≤ 1000)) := rfl
  have GI : Hid (∀ w1 : World, Calls Try.prog 55 #[.int .i64 k, .int .i64 0, .int .i64 1000] w1 fun e w' => e = .returned (.bool (decide (0 ≤ k ∧ k ≤ 1000))) ∧ w' = w1) := fun w1 => l1In_any k 0 1000 w1
  obtain ⟨ga, gn, gc, oa, on, oc, rfl⟩ := h.shape
  have HB0 : Hid (Below w.heap.size w (w.alloc (.cells #[.slice ga gn gc, .slice oa on oc] 26))) := (Below.refl _ _).alloc (Nat.le_refl _) _
  have x0 := box2_alloc w 26 (.slice ga gn gc) (.slice oa on oc)
  have HX0 : Hid _ := x0
  have g := HG.out _ HB0.out
  rw [hE] at HLT HN ⊢
  clear h HG x0 hE
  generalize unrR l k = LR at *
  generalize goodLa l = AB at *
  generalize decide (0 ≤ k ∧ k ≤ 1000) = IB at *
  cases AB with
  | false =>
    rw [Bool.false_and] at HN ⊢
    have HZ := HN.out rfl
    subst HZ
    clear HLT HN HX0 GI
    go_enter Try.func34, Try.ntmps34
    go_wp2_with fail
    refine g.mono ?_
    rintro e w1 ⟨rfl, hs⟩
    have HB1 : Hid (Below w.heap.size w w1) := HB0.out.trans (hs.mono HB0.out.size)
    have HE : Hid (OwnOI w1 w.heap.size w1.heap.size (.slice none 0 0) []) := ⟨Nat.le_refl _, Or.inl ⟨rfl, none, 0, rfl, fun _ => rfl, fun ad e => by cases e⟩⟩
    clear g hs
    go_wp2_with fail
    go_ret2
    exact ⟨_, rfl, HE.out, HB1.out⟩
  | true =>
    rw [Bool.true_and] at HLT HN ⊢
    cases IB with
    | false =>
      have HZ := HN.out rfl
      subst HZ
      clear HLT HN HX0
      go_enter Try.func34, Try.ntmps34
      go_wp2_with fail
      refine g.mono ?_
      rintro e w1 ⟨rfl, hs⟩
      have HB1 : Hid (Below w.heap.size w w1) := HB0.out.trans (hs.mono HB0.out.size)
      have HE : Hid (OwnOI w1 w.heap.size w1.heap.size (.slice none 0 0) []) := ⟨Nat.le_refl _, Or.inl ⟨rfl, none, 0, rfl, fun _ => rfl, fun ad e => by cases e⟩⟩
      clear g hs
      go_wp2_with fail
      refine (GI.out _).mono ?_
      rintro e w2 ⟨rfl, rfl⟩
      go_wp2_with fail
      go_ret2
      exact ⟨_, rfl, HE.out, HB1.out⟩
    | true =>
      have HL2 : Hid _ := HLT.out rfl
      clear HLT HN
      go_enter Try.func34, Try.ntmps34
      go_wp2_with fail
      refine g.mono ?_
      generalize w.alloc (.cells #[.slice ga gn gc, .slice oa on oc] 26) = w0 at *
      rintro e w1 ⟨rfl, hs⟩
      have HB1 : Hid (Below w.heap.size w w1) := HB0.out.trans (hs.mono HB0.out.size)
      have x1 := HX0.out.below hs HX0.out.lt
      obtain ⟨a0, a1⟩ := x1.cells
      have ah := x1.heap
      have al := x1.lt
      clear g hs x1 HX0
      go_wp2_with fail
      refine (GI.out _).mono ?_
      rintro e w2 ⟨rfl, rfl⟩
      have g2 := HL2.out _ HB1.out
      go_wp2_with fail
      refine g2.mono ?_
      rintro e w2 ⟨r, rfl, ho, hs⟩
      have HB2 : Hid (Below w.heap.size w w2) := HB1.out.trans (hs.mono HB1.out.size)
      have HO2 : Hid (OwnOI w2 w.heap.size w2.heap.size r LR) := OffIn.weak (own_oi2 ho) HB1.out.size (Nat.le_refl _) (Nat.le_refl _)
      clear g2 hs a0 a1 ah al ho
      go_wp2_with fail
      go_ret2
      exact ⟨_, rfl, HO2.out, HB2.out⟩
end Go.Proofs.Ythamdefkcjfjpaa

namespace Go.Proofs.Ythamdefkcjfjpaa
open Go Go.RowKit
open M
set_option linter.unusedVariables false
set_option linter.unusedSimpArgs false

theorem laOk_nil : LaOk ([], []) := ⟨by simp, by simp⟩
theorem sufR_ok (l : La) (k : Int) : LaOk (sufR l k) := by
  unfold sufR
  by_cases h : atB l k = true
  · rw [if_pos h]
    obtain ⟨hg, m, rfl, hm⟩ := at_parts h
    obtain ⟨q1, q2, q3⟩ := good_lens hg
    unfold sufL
    refine ⟨?_, ?_⟩
    · rw [unrL_len]
      have : Nat.max (m : Int).toNat l.1.length ≤ 1024 := Nat.max_le.2 ⟨by rw [Int.toNat_natCast]; omega, by omega⟩
      omega
    · rw [unrL_len]
      omega
  · rw [if_neg h]
    exact laOk_nil
theorem ownLa_one {w : World} {B : Nat} {r : Value} {ys : List Int} (h : OwnOI w B w.heap.size r ys) : OwnLa w B w.heap.size (.agg #[.slice none 0 0, r]) ([], ys) :=
  ⟨_, r, rfl, ⟨Nat.le_refl _, Or.inl ⟨rfl, none, 0, rfl, fun _ => rfl, fun ad e => by cases e⟩⟩, h, fun k h1 _ => by cases h1⟩
theorem ownLa_nil (w : World) (B : Nat) : OwnLa w B w.heap.size (.agg #[.slice none 0 0, .slice none 0 0]) ([], []) := ownLa_one ⟨Nat.le_refl _, Or.inl ⟨rfl, none, 0, rfl, fun _ => rfl, fun ad e => by cases e⟩⟩
set_option maxRecDepth 100000 in
set_option maxHeartbeats 2000000 in
theorem suf_far (ga : Option Addr) (gn gc : Nat) (oa : Option Addr) (on oc k : Nat) (ys : List Int) (hk : gn < k) (hgn : gn ≤ 24) (hon : on ≤ 24) (hk1 : k ≤ 1000) (w : World)
    (GF : Hid (∀ w1 : World, Below w.heap.size w w1 → Calls Try.prog 52 #[.agg #[.slice ga gn gc, .slice oa on oc], .int .i64 k, .int .i64 on] w1 fun e w' => ∃ r, e = .returned r ∧ OwnInts2 w' w1.heap.size r ys ∧ Below w1.heap.size w1 w')) :
    Calls Try.prog 59 #[.agg #[.slice ga gn gc, .slice oa on oc], .int .i64 k] w fun e w' => ∃ u, e = .returned u ∧ OwnLa w' w.heap.size w'.heap.size u ([], ys) ∧ Below w.heap.size w w' := by
  have hb2 : Below w.heap.size w ((w.alloc (.cells #[.slice ga gn gc, .slice oa on oc] 26)).alloc (.cells #[.slice none 0 0, .slice none 0 0] 26)) := ((Below.refl _ _).alloc (Nat.le_refl _) _).alloc (by rw [World.size_alloc]; omega) _
  have HB0 : Hid _ := hb2
  have x0 := (box2_alloc w 26 (.slice ga gn gc) (.slice oa on oc)).alloc (.cells #[.slice none 0 0, .slice none 0 0] 26)
  have y0 := box2_alloc (w.alloc (.cells #[.slice ga gn gc, .slice oa on oc] 26)) 26 (.slice none 0 0) (.slice none 0 0)
  simp only [World.size_alloc] at y0
  have g := GF.out _ HB0.out
  have HY0 : Hid _ := y0
  have hz0 : ((w.alloc (.cells #[.slice ga gn gc, .slice oa on oc] 26)).alloc (.cells #[.slice none 0 0, .slice none 0 0] 26)).heap.size = w.heap.size + 2 := by rw [World.size_alloc, World.size_alloc]
  obtain ⟨a0, a1⟩ := x0.cells
  have ah := x0.heap
  have al := x0.lt
  clear hb2 x0 y0 GF
  go_enter Try.func59, Try.ntmps59
  go_wp2_with fail
  refine g.mono ?_
  clear a0 a1 ah al
  generalize (w.alloc (.cells #[.slice ga gn gc, .slice oa on oc] 26)).alloc (.cells #[.slice none 0 0, .slice none 0 0] 26) = w0 at *
  rintro e w1 ⟨r, rfl, ho, hs⟩
  have HB1 : Hid (Below w.heap.size w w1) := HB0.out.trans (hs.mono (by omega))
  obtain ⟨ra, rn, rc, rfl⟩ := (own_of2 ho).shape
  have y1 := HY0.out.below hs (by omega)
  have hs1 := hs.size
  have HO : Hid _ := own_of2 ho
  obtain ⟨k0, k1⟩ := y1.cells
  have kh := y1.heap
  have kl := y1.lt
  have f0 := y1.frozen 0
  have f1 := y1.frozen 1
  have y2 := (y1.set0 (.slice none 0 0)).set1 (.slice ra rn rc)
  have hyh := y2.heap
  have HOL : Hid (OwnLa ((w1.setCell ⟨w.heap.size + 1, 0, none⟩ (.slice none 0 0)).setCell ⟨w.heap.size + 1, 1, none⟩ (.slice ra rn rc)) w.heap.size ((w1.setCell ⟨w.heap.size + 1, 0, none⟩ (.slice none 0 0)).setCell ⟨w.heap.size + 1, 1, none⟩ (.slice ra rn rc)).heap.size (.agg #[.slice none 0 0, .slice ra rn rc]) ([], ys)) := by
    have h9 := ((ownLa_one (OffIn.weak (lo' := w0.heap.size) (hi' := w1.heap.size) HO.out (Nat.le_refl _) (Nat.le_refl _) (Nat.le_refl _))).setO (b := w.heap.size + 1) (o := 0) (x := .slice none 0 0) (Or.inl (by omega))).setO (b := w.heap.size + 1) (o := 1) (x := .slice ra rn rc) (Or.inl (by omega))
    exact h9.weak (by omega) (by rw [size_set, size_set]; exact Nat.le_refl _) (Nat.le_refl _)
  have HBE : Hid (Below w.heap.size w ((w1.setCell ⟨w.heap.size + 1, 0, none⟩ (.slice none 0 0)).setCell ⟨w.heap.size + 1, 1, none⟩ (.slice ra rn rc))) := (HB1.out.setCell (by show w.heap.size ≤ w.heap.size + 1; omega) _).setCell (by show w.heap.size ≤ w.heap.size + 1; omega) _
  clear g ho hs y1 HY0 HO
  go_wp2_with fail
  refine bodyPost_ret (results_cell_row rfl _ _ (w.heap.size + 1) 26 _ (0, 0) _ rfl hyh Try.underlying26 rfl (by kernel_rfl)) rfl ?_
  exact ⟨_, rfl, HOL.out, HBE.out⟩
theorem srcO_drop {w : World} {b off cap k : Nat} {t : List Int} (hk : k ≤ t.length) (hc : t.length ≤ cap) (h : IntsAt w (.slice (some ⟨b, off, none⟩) t.length cap) t) :
    SrcO w (.slice (if cap = k then some (⟨b, off, none⟩ : Addr) else some ⟨b, off + k, none⟩) (t.length - k) (cap - k)) (t.length - k) (cellsI (t.drop k)) := by
  by_cases e : cap = k
  · rw [if_pos e]
    refine Or.inr ⟨b, off, cap - k, rfl, fun h0 => by omega, fun j u hu => ?_⟩
    have hj := (List.getElem?_eq_some_iff.1 hu).1
    rw [cellsI_len, List.length_drop] at hj
    omega
  · rw [if_neg e]
    refine Or.inr ⟨b, off + k, cap - k, rfl, fun h0 => ?_, fun j u hu => ?_⟩
    · rcases h.2 with ⟨h1, _⟩ | ⟨b', off', cap', hv, hlt, _⟩
      · rw [h1] at h0
        simp at h0
      · injection hv with e1
        injection e1 with e1
        injection e1 with e1
        omega
    · unfold cellsI at hu
      rw [List.getElem?_map, Option.map_eq_some_iff] at hu
      obtain ⟨x, hx, rfl⟩ := hu
      rw [List.getElem?_drop] at hx
      rcases h.2 with ⟨h1, _⟩ | ⟨b', off', cap', hv, hlt, hc'⟩
      · rw [h1] at hx
        simp at hx
      · injection hv with e1
        injection e1 with e1
        injection e1 with e1 e2
        subst e1 e2
        rw [add_eq, Nat.add_assoc]
        exact hc' _ x hx
theorem l9Suffix_any (v : Value) (l : La) (hg : goodLa l = true) (k : Nat) (hk : k ≤ 1000) (w : World) (h : AtLS w v l) :
    Calls Try.prog 59 #[v, .int .i64 k] w fun e w' => ∃ u, e = .returned u ∧ OwnLa w' w.heap.size w'.heap.size u (sufL l k) ∧ Below w.heap.size w w' := by
  obtain ⟨q1, q2, q3⟩ := good_lens hg
  have hat := h.at
  obtain ⟨g, o, rfl, h1, h2, h3, h4⟩ := h
  have so := srcO_ints h2 h4
  obtain ⟨oa, oc, rfl⟩ := h2.shape
  have GO2 : Hid (∀ w1 : World, Below w.heap.size w w1 → Calls Try.prog 53 #[.slice oa l.2.length oc] w1 fun e w' => ∃ r, e = .returned r ∧ OwnInts2 w' w1.heap.size r l.2 ∧ Below w1.heap.size w1 w') := fun w1 hb => l1OwnO_any oa _ oc l.2 rfl (by omega) w1 (so.below (cellsI_len _) hb)
  by_cases hle : k ≤ l.1.length
  · rw [sufL_stem l k hle]
    obtain ⟨a', n', c', e, hz, hsp, hgc⟩ := h3
    obtain ⟨ga, gc, e2⟩ := h1.shape
    rw [e2] at e
    injection e with e3 e4 e5
    subst e3 e4 e5 e2
    cases ga with
    | none =>
      obtain ⟨z1, z2⟩ := hz rfl
      have hk0 : k = 0 := by omega
      have hnil : l.1 = [] := List.length_eq_zero_iff.1 z1
      subst hk0
      rw [z1, z2]
      have hd : l.1.drop 0 = [] := by rw [hnil]; rfl
      rw [hd]
      exact suf_none oa _ oc 0 rfl [] l.2 w (fun w1 hb => l1OwnO_any none 0 0 [] rfl (by omega) w1 (Or.inl ⟨rfl, rfl, rfl⟩)) GO2
    | some ad =>
      obtain ⟨b, off, s⟩ := ad
      have hs := hsp _ rfl
      simp only at hs
      subst hs
      refine suf_some oa _ oc k b off _ gc _ hle q1 hgc rfl (l.1.drop k) l.2 w (fun w1 hb => ?_) GO2
      have h9 := srcO_drop hle hgc (h1.below hb)
      exact l1OwnO_any _ _ _ _ (by rw [List.length_drop]) (by omega) w1 h9
  · rw [sufL_loop l k (by omega)]
    obtain ⟨ga, gc, rfl⟩ := h1.shape
    exact suf_far ga _ gc oa _ oc k (unrL l k l.2.length) (by omega) q1 q3 hk w (fun w1 hb => l9First_any _ l hg k l.2.length (by omega) w1 (hat.below hb))
end Go.Proofs.Ythamdefkcjfjpaa

namespace Go.Proofs.Ythamdefkcjfjpaa
open Go Go.RowKit
open M
set_option linter.unusedVariables false
set_option linter.unusedSimpArgs false

theorem run_append_zero {P : Program} (w : World) (t ty e : TypeId) (i : TypeInfo) (ht : P.underlying t = some (.slice e)) (hi : P.info? e = some i) (b : Addr) (n cap : Nat) (hle : n ≤ cap) (x : Option Addr) (c : Nat) (hx : x = none → c = 0) :
    (Builtin.append_ #[t, t] ty #[.slice (some b) n cap, .slice x 0 c]).run P w = .ok (.slice (some b) n cap) w := by
  cases x with
  | none =>
    have := hx rfl
    subst this
    simp [Builtin.append_, run_underlying ht, sizeOf, typeInfo, hi, Builtin.lenOf, hle, Builtin.firstCells, storeCells]
  | some a =>
    have hfc := run_firstCells_some (P := P) w i.size 0 a 0 c [] (by simp) (by simp)
    simp [Builtin.append_, run_underlying ht, sizeOf, typeInfo, hi, Builtin.lenOf, hle, hfc, storeCells]
/-- a full slice: no room behind it -/
def FullS (v : Value) (n : Nat) : Prop := ∃ g off : Nat, v = .slice (some ⟨g, off, none⟩) n n
theorem wp_append_off {o : Oper} {a : Act} {w : World} {K : Act → World → Prop} {Q : Exit → Act → World → Prop} (s x : Operand)
    (ho : o.op = .call { callee := .builtin .append, args := #[s, x], argTypes := #[24, 24] })
    (B lo hi n m : Nat) (v u : Value) (xs ys : List Int) (hs : a.eval s = v) (hv : FullS v n) (hr : OwnOI w lo hi v xs) (hn : xs.length = n) (h1 : 1 ≤ n) (hB : B ≤ lo) (hBw : B ≤ w.heap.size)
    (hx : a.eval x = u) (hu : SrcO w u m (cellsI ys)) (hm : ys.length = m) (hb : n + m ≤ 100000)
    (h : ∀ v' w', Below w.heap.size w w' → Rw B w' v' (xs ++ ys) → K (a.put o.dst v') w') : o.wp Try.prog a w K Q := by
  obtain ⟨i0, hif, hz0, hz1, hz2⟩ := info_parts infoInt
  obtain ⟨g, off, rfl⟩ := hv
  have hcell : RowFrom w g off (cellsI xs) := by
    rcases hr.2 with ⟨hnil, _⟩ | ⟨g', off', cap', hv', _, _, hc, _⟩
    · have := congrArg List.length hnil
      rw [cellsI_len] at this
      simp at this
      rw [this] at hn
      simp at hn
      omega
    · injection hv' with e1
      injection e1 with e1
      injection e1 with e1 e2
      subst e1 e2
      exact hc
  by_cases hm0 : m = 0
  · subst hm0
    have hy : ys = [] := List.length_eq_zero_iff.1 hm
    subst hy
    have hxv : ∃ ad c, u = .slice ad 0 c ∧ (ad = none → c = 0) := by
      rcases hu with ⟨_, _, h9⟩ | ⟨g2, off2, cap2, h9, _⟩
      · exact ⟨none, 0, h9, fun _ => rfl⟩
      · exact ⟨_, cap2, h9, fun e => by cases e⟩
    obtain ⟨ad, c, rfl, hz⟩ := hxv
    have hrun := run_append_zero (P := Try.prog) w 24 o.type 3 i0 Try.underlying24 hif ⟨g, off, none⟩ n n (Nat.le_refl _) ad c hz
    unfold Oper.wp
    simp [execOp, ho, resolve, invoke, builtin, hs, hx, hrun, Result.andThen]
    refine h _ _ (Below.refl _ _) ⟨lo, hi, hB, ?_⟩
    rw [List.append_nil]
    exact hr
  · rcases hu with ⟨h9, _⟩ | ⟨g2, off2, cap2, rfl, _, hc⟩
    · exact absurd h9 hm0
    · obtain ⟨v', w', hrun, r1, r2⟩ := run_append_arg_grows (P := Try.prog) w 24 o.type 3 i0 (.int .i64 0) 1 8 Try.underlying24 hif hz0 hz1 hz2 rfl (by decide) ⟨g, off, none⟩ n n (cellsI xs) (by rw [cellsI_len]; omega) (fun j z hz => by rw [add_eq]; exact hcell j z hz) ⟨g2, off2, none⟩ m cap2 (cellsI ys) (by rw [cellsI_len]; omega) hc (by omega) (by unfold maxLen; omega) (by omega)
      unfold Oper.wp
      simp [execOp, ho, resolve, invoke, builtin, hs, hx, hrun, Result.andThen]
      refine h _ _ ((Below.refl _ _).grown r2 (Nat.le_refl _) (fun k hk => by cases hk)) ⟨w.heap.size, w'.heap.size, hBw, ?_⟩
      have e : cellsI xs ++ cellsI ys = cellsI (xs ++ ys) := by simp [cellsI]
      rw [e] at r1
      exact offIn_of r1
end Go.Proofs.Ythamdefkcjfjpaa

namespace Go.Proofs.Ythamdefkcjfjpaa
open Go Go.RowKit
open M
set_option linter.unusedVariables false
set_option linter.unusedSimpArgs false

set_option maxRecDepth 100000 in
set_option maxHeartbeats 4000000 in
theorem between_full (v : Value) (l : La) (hg : goodLa l = true) (a b : Nat) (hab : a ≤ b) (hlt0 : a < b) (hb : b ≤ 1100) (w : World) (h : AtLa w v l) :
    Calls Try.prog 47 #[v, .int .i64 a, .int .i64 b] w fun e w' => ∃ r, e = .returned r ∧ FullS r (b - a) ∧ OwnOI w' w.heap.size w'.heap.size r (unrL l a (b - a)) ∧ Below w.heap.size w w' := by
  obtain ⟨q1, q2, q3⟩ := good_lens hg
  obtain ⟨g, o, rfl, h1, h2⟩ := h
  obtain ⟨i0, hi, hz0, hz1, hz2⟩ := info_parts infoInt
  obtain ⟨ga, gc, rfl, hc1⟩ := h1.opened
  obtain ⟨oa, oc, rfl, hc2⟩ := h2.opened
  -- how far the word is laid
  obtain ⟨Q, hQ⟩ : ∃ Q : Nat, b / l.2.length = Q := ⟨_, rfl⟩
  have hdm := Nat.div_add_mod b l.2.length
  have hml := Nat.mod_lt b (show 0 < l.2.length by omega)
  have hquo : (b : Int).tdiv (l.2.length : Int) = (Q : Int) := by rw [← hQ]; rfl
  obtain ⟨T, hT⟩ : ∃ T : Nat, (Q + 1) * l.2.length = T := ⟨_, rfl⟩
  have hTi : ((Q : Int) + 1) * (l.2.length : Int) = (T : Int) := by rw [← hT]; simp
  have hbT : b ≤ T := by rw [← hT, Nat.add_mul, Nat.mul_comm Q, ← hQ]; omega
  have hTb : T ≤ b + 24 := by
    have e : l.2.length * (b / l.2.length) ≤ b := by omega
    rw [← hT, Nat.add_mul, Nat.mul_comm Q, ← hQ]
    omega
  have hQ1 : Q ≤ 1100 := by rw [← hQ]; exact Nat.le_trans (Nat.div_le_self _ _) hb
  obtain ⟨S, hS⟩ : ∃ S : Nat, l.1.length + T = S := ⟨_, rfl⟩
  have HP1 : Hid (∀ w1 : World, Below w.heap.size w w1 → 0 < (cellsI l.1).length → ∃ ad, ga = some ad ∧ ∀ (j : Nat) (v : Value), (cellsI l.1)[j]? = some v → w1.cell? (ad.add j) = some v) := fun w1 hb => src_pos hc1 hb
  have HP2 : Hid (∀ w1 : World, Below w.heap.size w w1 → 0 < (cellsI l.2).length → ∃ ad, oa = some ad ∧ ∀ (j : Nat) (v : Value), (cellsI l.2)[j]? = some v → w1.cell? (ad.add j) = some v) := fun w1 hb => src_pos hc2 hb
  have hn1 : (cellsI l.1).length = l.1.length := cellsI_len _
  have hn2 : (cellsI l.2).length = l.2.length := cellsI_len _
  have HC1 : Hid (splice (part9 l S 0) 0 (cellsI l.1) = part9 l S l.1.length) := by
    show splice _ _ _ = _
    rw [part9_copy l S 0 l.1 (unrL_stem l) (by omega), Nat.zero_add]
  have HC2 : Hid (∀ r : Nat, l.1.length + r * l.2.length + l.2.length ≤ S → splice (part9 l S (l.1.length + r * l.2.length)) (l.1.length + r * l.2.length) (cellsI l.2) = part9 l S (l.1.length + r * l.2.length + l.2.length)) := fun r hr => part9_copy l S _ l.2 (loop_at l r) hr
  have HPL : Hid (∀ j, j ≤ S → (part9 l S j).length = S) := fun j hj => part9_len l S j hj
  have HEND : Hid (∀ (i : Nat) (x : Value), (cellsI (unrL l a (b - a)))[i]? = some x → (part9 l S S)[a + i]? = some x) := fun i x hx => by
    have hi := (List.getElem?_eq_some_iff.1 hx).1
    rw [cellsI_len, unrL_len] at hi
    unfold part9
    rw [Nat.sub_self, List.replicate_zero, List.append_nil]
    unfold cellsI at hx ⊢
    rw [List.getElem?_map, unrL_at _ _ _ _ (by omega)] at hx ⊢
    rw [Nat.zero_add]
    exact hx
  have hlE : (cellsI (unrL l a (b - a))).length = b - a := by rw [cellsI_len, unrL_len]
  have HO1 : Hid (∀ c ∈ cellsI l.1, c.oneCell' = true) := ints_one l.1
  have HO2 : Hid (∀ c ∈ cellsI l.2, c.oneCell' = true) := ints_one l.2
  have HRQ : Hid (∀ r : Nat, l.1.length + r * l.2.length < S → r ≤ Q ∧ l.1.length + r * l.2.length + l.2.length ≤ S) := fun r hr => by
    have e1 : r * l.2.length < T := by omega
    have e2 : r < Q + 1 := by
      rw [← hT] at e1
      exact Nat.lt_of_mul_lt_mul_right e1
    refine ⟨by omega, ?_⟩
    have e3 : (r + 1) * l.2.length ≤ T := by
      rw [← hT]
      exact Nat.mul_le_mul_right _ (by omega)
    rw [Nat.add_mul, Nat.one_mul] at e3
    omega
  have HSQ : Hid (S = l.1.length + (Q + 1) * l.2.length) := by
    show S = _
    rw [hT, hS]
  have hSi : (l.1.length : Int) + (T : Int) = (S : Int) := by omega
  have hSb : S ≤ 1148 := by omega
  have hbS : b ≤ S := by omega
  have HB0 : Hid (Below w.heap.size w (w.alloc (.cells #[.slice ga l.1.length gc, .slice oa l.2.length oc] 26))) := (Below.refl _ _).alloc (Nat.le_refl _) _
  have x0 := box2_alloc w 26 (.slice ga l.1.length gc) (.slice oa l.2.length oc)
  have hw0z : (w.alloc (.cells #[.slice ga l.1.length gc, .slice oa l.2.length oc] 26)).heap.size = w.heap.size + 1 := World.size_alloc _ _
  have HE0 : Hid (part9 l S 0 = List.replicate S (.int .i64 0)) := by
    show part9 l S 0 = _
    unfold part9
    rw [unrL_zero]
    simp [cellsI]
  generalize hEE : cellsI (unrL l a (b - a)) = EE at *
  have HEE : Hid _ := hEE
  clear hEE
  generalize part9 l S = PP at *
  generalize cellsI l.1 = C1 at *
  generalize cellsI l.2 = C2 at *
  generalize l.1.length = n1 at *
  generalize l.2.length = n2 at *
  have HX : Hid (Box2 (w.alloc (.cells #[.slice ga n1 gc, .slice oa n2 oc] 26)) w.heap.size 26 (.slice ga n1 gc) (.slice oa n2 oc)) := x0
  obtain ⟨a0, a1⟩ := x0.cells
  have ah := x0.heap
  have al := x0.lt
  clear hc1 hc2 h1 h2 hg hQ hT hS hdm hml x0
  go_enter Try.func47, Try.ntmps47
  go_wp2_with (at_make; refine wpList_make_full _ rfl _ _ 24 rfl (w.heap.size + 1) 3 i0 (.int .i64 0) 1 Try.underlying24 hi hz0 hz1 .i64 .i64 _ _ S rfl rfl (by omega) (by omega) (by rw [hz2]; omega) (by unfold maxLen; omega) (by rw [hw0z]; exact Nat.le_refl _) ?_)
  intro w1 own1 grow1
  have hg1 := own_heap own1
  rw [toList_madeCells_one, ← HE0.out] at hg1
  have HB1 : Hid (Below w.heap.size w w1) := HB0.out.grown grow1 HB0.out.size (fun k hk => by cases hk)
  have HX1 : Hid (Box2 w1 w.heap.size 26 (.slice ga n1 gc) (.slice oa n2 oc)) := HX.out.grown grow1 (fun e => by cases e)
  have hz1s : w.heap.size + 1 < w1.heap.size := (Array.getElem?_eq_some_iff.1 hg1).1
  have hint : (Try.prog.info? 3).map (·.size) = some 1 := by rw [hi]; simp [hz1]
  have hp1 : 0 < C1.length → (some ⟨w.heap.size + 1, 0, none⟩ : Option Addr) = some ⟨w.heap.size + 1, 0, none⟩ ∧ ∃ ad, ga = some ad ∧ ∀ (j : Nat) (v : Value), C1[j]? = some v → w1.cell? (ad.add j) = some v := fun h0 => ⟨rfl, HP1.out w1 HB1.out h0⟩
  have hf1 : 0 + C1.length ≤ (PP 0).length := by rw [HPL.out 0 (by omega)]; omega
  have hm1 : C1.length = Nat.min n1 S := by rw [hn1]; exact (Nat.min_eq_left (by omega)).symm
  obtain ⟨b0, b1⟩ := HX1.out.cells
  have bh := HX1.out.heap
  have bl := HX1.out.lt
  clear own1 grow1 a0 a1 ah al
  go_wp2_with (refine wpList_copy_splice rfl _ _ _ _ rfl 3 Try.underlying24 hint _ _ _ _ _ _ rfl rfl (w.heap.size + 1) 0 (PP 0) 3 hg1 C1 hm1 hp1 hf1 HO1.out (w.heap.size + 1) _ (Below.refl _ _) (Nat.le_refl _) ?_)
  intro w2 HG2 hb2
  have HB2 : Hid (Below w.heap.size w w2) := HB1.out.trans (hb2.mono (by omega))
  have HX2 : Hid (Box2 w2 w.heap.size 26 (.slice ga n1 gc) (.slice oa n2 oc)) := HX1.out.below hb2 (by omega)
  have HG3 : Hid (w2.heap[w.heap.size + 1]? = some (.cells (PP (n1 + 0 * n2)).toArray 3 (0, 0))) := by
    have h9 := HG2.out
    rw [HC1.out] at h9
    show w2.heap[w.heap.size + 1]? = _
    rw [Nat.zero_mul, Nat.add_zero]
    exact h9
  clear HG2 hb2 b0 b1 bh bl hg1 hp1 hf1
  go_wp2_with fail
  go_loopw [9] (fun i wr => ∃ r j : Nat, j = n1 + r * n2 ∧ j ≤ S ∧ i = .int .i64 j ∧ Hid (wr.heap[w.heap.size + 1]? = some (.cells (PP j).toArray 3 (0, 0))) ∧ Hid (Below w.heap.size w wr) ∧ Hid (Box2 wr w.heap.size 26 (.slice ga n1 gc) (.slice oa n2 oc))) (fun i _ => S - (intOf i).toNat)
  case atStart => exact ⟨0, n1, by simp, by omega, rfl, by have h9 := HG3.out; rw [Nat.zero_mul, Nat.add_zero] at h9; exact h9, HB2, HX2⟩
  case round =>
    obtain ⟨r, j, hjr, hj, rfl, HG, HB, HX3⟩ := hrel
    clear HB2 HX2 HG3 HB1 HX1 HB0 HX
    obtain ⟨b0, b1⟩ := HX3.out.cells
    have bh := HX3.out.heap
    have bl := HX3.out.lt
    have hgl := HG.out
    have hsz := HB.out.size
    by_cases hlt : j < S
    · obtain ⟨hrQ, hfit⟩ := HRQ.out r (by rw [← hjr]; exact hlt)
      rw [← hjr] at hfit
      have hne : ¬ S = j := by omega
      have HP3 : Hid (0 < C2.length → ∃ ad, oa = some ad ∧ ∀ (j : Nat) (v : Value), C2[j]? = some v → wr.drew.cell? (ad.add j) = some v) := fun h0 => HP2.out wr.drew HB.out.drew h0
      have hf2 : j + C2.length ≤ (PP j).length := by rw [HPL.out j hj, hn2]; omega
      have hm2 : C2.length = Nat.min n2 (S - j) := by rw [hn2]; exact (Nat.min_eq_left (by omega)).symm
      have HSP : Hid (splice (PP j) j C2 = PP (j + n2)) := by
        have h9 := HC2.out r (by rw [← hjr]; exact hfit)
        rw [← hjr] at h9
        exact h9
      have HJ : Hid (j + n2 = n1 + (r + 1) * n2) := by
        show j + n2 = _
        rw [Nat.add_mul, Nat.one_mul]
        omega
      have hwr : IntKind.i64.wrap ((j : Int) + (n2 : Int)) = (j : Int) + (n2 : Int) := IntWalk.i64_in _ ⟨by omega, by omega⟩
      clear hjr
      go_wp2_with fail
      go_region_law (refine step_copy_splice rfl _ _ _ _ rfl 3 Try.underlying24 hint (some ⟨w.heap.size + 1, j, none⟩) oa (S - j) (S - j) n2 oc (by simp [Act.eval, Act.put]) (by simp [Act.eval, Act.put]) (w.heap.size + 1) j (PP j) 3 hgl C2 hm2 (fun h0 => ⟨rfl, HP3.out h0⟩) hf2 HO2.out (w.heap.size + 1) _ (Below.refl _ _) (Nat.le_refl _) ?_; intro w4 HG4 hb4)
      all_goals
        have HG5 : Hid (w4.heap[w.heap.size + 1]? = some (.cells (PP (j + n2)).toArray 3 (0, 0))) := by
          have h9 := HG4.out
          rw [HSP.out] at h9
          exact h9
        have HB4 : Hid (Below w.heap.size w w4) := HB.out.drew.trans (hb4.mono (Nat.le_succ _))
        have HX4 : Hid (Box2 w4 w.heap.size 26 (.slice ga n1 gc) (.slice oa n2 oc)) := Box2.below (w := wr.drew) ⟨HX3.out.heap⟩ hb4 (by omega)
        clear HG4 hb4 b0 b1 bh bl hgl HG HB HX3
        go_wp2_with fail
        refine ⟨?_, ?measure⟩
        (repeat apply Exists.intro)
        refine ⟨?rel, rfl⟩
        case rel => exact ⟨r + 1, j + n2, HJ.out, hfit, by simp, HG5, HB4, HX4⟩
        case measure =>
          show S - ((j : Int) + (n2 : Int)).toNat < S - ((j : Int)).toNat
          omega
    · obtain rfl : j = S := by omega
      have hgs := (Array.getElem?_eq_some_iff.1 hgl).1
      by_cases hba : b = a
      · exact absurd hlt0 (by omega)
      have HR : Hid (OwnOI wr w.heap.size wr.heap.size (.slice (some ⟨w.heap.size + 1, a, none⟩) (b - a) (b - a)) (unrL l a (b - a))) := by
        refine ⟨Nat.le_refl _, Or.inr ⟨w.heap.size + 1, a, b - a, by rw [cellsI_len, unrL_len], Nat.le_succ _, hgs, fun i x hx => ?_, (fun i => by simp [World.frozen?, hgl]), by rw [cellsI_len, unrL_len]; exact Nat.le_refl _⟩⟩
        have h9 := HEND.out i x (by rw [← HEE.out]; exact hx)
        simp [World.cell?, hgl, h9]
      have hba2 : ¬ a = b := fun e => hba e.symm
      clear hgl b0 b1 bh bl HEND hjr
      go_wp2_with fail
      go_ret
      exact ⟨_, rfl, ⟨_, _, rfl⟩, HR.out, HB.out⟩
end Go.Proofs.Ythamdefkcjfjpaa

namespace Go.Proofs.Ythamdefkcjfjpaa
open Go Go.RowKit
open M
set_option linter.unusedVariables false
set_option linter.unusedSimpArgs false

def stutB (l : La) (k : Int) : Bool := atB l k && goodLa (stutL l k.toNat)
def stutR (l : La) (k : Int) : La := bif stutB l k then stutL l k.toNat else ([], [])
theorem stutR_ok (l : La) (k : Int) : LaOk (stutR l k) := by
  unfold stutR
  cases h : stutB l k with
  | false => exact laOk_nil
  | true =>
    unfold stutB at h
    rw [Bool.and_eq_true] at h
    obtain ⟨q1, q2, q3⟩ := good_lens h.2
    exact ⟨by show (stutL l k.toNat).1.length ≤ _; omega, by show (stutL l k.toNat).2.length ≤ _; omega⟩
/-- a row without room behind it -/
def RwF (B : Nat) (w : World) (s : Value) (n : Nat) (xs : List Int) : Prop := ∃ lo hi, B ≤ lo ∧ FullS s n ∧ OwnOI w lo hi s xs
theorem RwF.below {B n : Nat} {w w' : World} {s : Value} {xs : List Int} (h : RwF B w s n xs) (hb : Below w.heap.size w w') : RwF B w' s n xs := by
  obtain ⟨lo, hi, h0, h1, h2⟩ := h
  exact ⟨lo, hi, h0, h1, OffIn.belowR h2 hb h2.1⟩
theorem ap3_symm {u v : Value} (h : Ap3 u v) : Ap3 v u := fun k h1 h2 => h k h2 h1
structure RegStut (W w' : World) (B TB : Nat) (ga : Option Addr) (gn gc : Nat) (oa : Option Addr) (on oc : Nat) (aa : Option Addr) (an ac n N : Nat) (xs ys : List Int) (l0 l1 l2 l3 l4 l5 l6 l7 l8 : Bool) (s0 s1 s2 s3 s4 s5 s6 s7 : Value) : Prop where
  (bel : l8 = false → Below W.heap.size W w')
  (all : l8 = true → l0 = true ∧ l1 = true ∧ l2 = true ∧ l3 = true ∧ l4 = true ∧ l5 = true ∧ l6 = true ∧ l7 = true)
  (fin : l8 = true → ∃ w4 : World, Below W.heap.size W w4 ∧ w' = (w4.setCell ⟨TB, 0, none⟩ s6) ∧ RwF B w4 s3 N xs ∧ Rw B w4 s6 (xs ++ ys))
  (d0 : l0 = true → s0 = .agg #[.slice ga gn gc, .slice oa on oc] ∧ True)
  (d1 : l1 = true → s1 = .int .i64 n ∧ True)
  (d2 : l2 = true → s2 = .int .i64 N ∧ l1 = true)
  (d3 : l3 = true → (l8 = false → RwF B w' s3 N xs) ∧ l0 = true ∧ l2 = true)
  (d4 : l4 = true → s4 = .pointer (some ⟨TB, 0, none⟩) ∧ True)
  (d5 : l5 = true → s5 = .slice aa an ac ∧ l4 = true)
  (d6 : l6 = true → (l8 = false → Rw B w' s6 (xs ++ ys)) ∧ l3 = true ∧ l5 = true)
  (d7 : l7 = true → s7 = .pointer (some ⟨TB, 0, none⟩) ∧ l0 = true ∧ l1 = true ∧ l2 = true ∧ l3 = true ∧ l4 = true ∧ l5 = true ∧ l6 = true)
set_option maxRecDepth 100000 in
set_option maxHeartbeats 1000000 in
theorem iStutterAt_any (v : Value) (l : La) (k : Int) (w : World) (h : AtLa w v l) :
    Calls Try.prog 25 #[v, .int .i64 k] w fun e w' => ∃ r, e = .returned (.tuple #[r, .bool (stutB l k)]) ∧ OwnLa w' w.heap.size w'.heap.size r (stutR l k) ∧ Below w.heap.size w w' := by
  have HG : Hid (∀ w1 : World, Below w.heap.size w w1 → Calls Try.prog 58 #[v, .int .i64 k] w1 fun e w' => e = .returned (.bool (atB l k)) ∧ Below w1.heap.size w1 w') := fun w1 hb => goodAt_any v l k w1 (h.below hb)
  have hR : stutR l k = bif atB l k && goodLa (stutL l k.toNat) then stutL l k.toNat else ([], []) := rfl
  have hB : stutB l k = (atB l k && goodLa (stutL l k.toNat)) := rfl
  have HLT : Hid (atB l k = true → ∃ n M N : Nat, ∃ xs ys zs : List Int, k = n ∧ n ≤ 1000 ∧ ((l.1.length ≤ n ∧ n = M) ∨ (n < l.1.length ∧ l.1.length = M)) ∧ n + 1 = N ∧ l.1.length ≤ 24 ∧ l.2.length ≤ 24 ∧ xs.length = N ∧ ys.length ≤ 24 ∧ zs.length ≤ 24 ∧ stutL l k.toNat = (xs ++ ys, zs) ∧
      (∀ w1 : World, Below w.heap.size w w1 → Calls Try.prog 50 #[v, .int .i64 n, .int .i64 M, .int .i64 l.2.length] w1 fun e w' => ∃ u, e = .returned u ∧ OwnLa w' w1.heap.size w'.heap.size u (ys, zs) ∧ Below w1.heap.size w1 w') ∧
      (∀ w1 : World, Below w.heap.size w w1 → Calls Try.prog 47 #[v, .int .i64 0, .int .i64 N] w1 fun e w' => ∃ r, e = .returned r ∧ FullS r N ∧ OwnOI w' w1.heap.size w'.heap.size r xs ∧ Below w1.heap.size w1 w')) := fun hat => by
    obtain ⟨hg, n, rfl, hn⟩ := at_parts hat
    obtain ⟨q1, q2, q3⟩ := good_lens hg
    have m1 := Nat.le_max_left n l.1.length
    have m3 : Nat.max n l.1.length ≤ 1024 := Nat.max_le.2 ⟨by omega, by omega⟩
    have m4 : (l.1.length ≤ n ∧ n = Nat.max n l.1.length) ∨ (n < l.1.length ∧ l.1.length = Nat.max n l.1.length) := by
      rcases Nat.lt_or_ge n l.1.length with h9 | h9
      · exact Or.inr ⟨h9, (Nat.max_eq_right (Nat.le_of_lt h9)).symm⟩
      · exact Or.inl ⟨h9, (Nat.max_eq_left h9).symm⟩
    refine ⟨n, Nat.max n l.1.length, n + 1, unrL l 0 (n + 1), unrL l n (Nat.max n l.1.length - n), unrL l (Nat.max n l.1.length) l.2.length, rfl, hn, m4, rfl, q1, q3, unrL_len _ _ _, by rw [unrL_len]; omega, by rw [unrL_len]; exact q3, rfl, fun w1 hb => cutAt_any v l hg n _ _ m1 (by omega) w1 (h.below hb), fun w1 hb => between_full v l hg 0 (n + 1) (Nat.zero_le _) (by omega) (by omega) w1 (h.below hb)⟩
  have HM : Hid (∀ (w1 : World) (x : Value), Below w.heap.size w w1 → AtLa w1 x (stutL l k.toNat) → Calls Try.prog 60 #[x] w1 fun e w' => e = .returned (.tuple #[bif goodLa (stutL l k.toNat) then x else .agg #[.slice none 0 0, .slice none 0 0], .bool (goodLa (stutL l k.toNat))]) ∧ Below w1.heap.size w1 w') := fun w1 x _ hx => ifGood_any x _ w1 hx
  obtain ⟨g_, o_, hv, h1, h2⟩ := h
  obtain ⟨ga, gc, e1⟩ := h1.shape
  obtain ⟨oa, oc, e2⟩ := h2.shape
  subst e1 e2 hv
  generalize l.1.length = gn at *
  generalize l.2.length = on at *
  have hb2 : Below w.heap.size w ((w.alloc (.cells #[.slice ga gn gc, .slice oa on oc] 26)).alloc (.cells #[.slice none 0 0, .slice none 0 0] 26)) := ((Below.refl _ _).alloc (Nat.le_refl _) _).alloc (by rw [World.size_alloc]; omega) _
  have HB0 : Hid _ := hb2
  have x0 := (box2_alloc w 26 (.slice ga gn gc) (.slice oa on oc)).alloc (.cells #[.slice none 0 0, .slice none 0 0] 26)
  have y0 := box2_alloc (w.alloc (.cells #[.slice ga gn gc, .slice oa on oc] 26)) 26 (.slice none 0 0) (.slice none 0 0)
  simp only [World.size_alloc] at y0
  have HX0 : Hid _ := x0
  have HY0 : Hid _ := y0
  have hz0 : ((w.alloc (.cells #[.slice ga gn gc, .slice oa on oc] 26)).alloc (.cells #[.slice none 0 0, .slice none 0 0] 26)).heap.size = w.heap.size + 2 := by rw [World.size_alloc, World.size_alloc]
  obtain ⟨a0, a1⟩ := x0.cells
  have ah := x0.heap
  have al := x0.lt
  have g := HG.out _ HB0.out
  rw [hR, hB]
  clear h1 h2 HG hb2 x0 y0 hR hB
  generalize stutL l k.toNat = LR at *
  generalize atB l k = AB at *
  cases AB with
  | false =>
    rw [Bool.false_and]
    show Calls _ _ _ _ (fun e w' => ∃ r, e = .returned (.tuple #[r, .bool false]) ∧ OwnLa w' w.heap.size w'.heap.size r ([], []) ∧ Below w.heap.size w w')
    clear HLT HM
    go_enter Try.func25, Try.ntmps25
    go_wp2_with fail
    refine g.mono ?_
    clear a0 a1 ah al
    generalize (w.alloc (.cells #[.slice ga gn gc, .slice oa on oc] 26)).alloc (.cells #[.slice none 0 0, .slice none 0 0] 26) = w0 at *
    rintro e w1 ⟨rfl, hs⟩
    have HB1 : Hid (Below w.heap.size w w1) := HB0.out.trans (hs.mono (by omega))
    have y1 := HY0.out.below hs (by omega)
    have x1 := HX0.out.below hs (by omega)
    have hs1 := hs.size
    clear g hs
    clear x1
    have HZO : Hid (OwnLa ((w1.setCell ⟨w.heap.size + 1, 0, none⟩ (.slice none 0 0)).setCell ⟨w.heap.size + 1, 1, none⟩ (.slice none 0 0)) w.heap.size ((w1.setCell ⟨w.heap.size + 1, 0, none⟩ (.slice none 0 0)).setCell ⟨w.heap.size + 1, 1, none⟩ (.slice none 0 0)).heap.size (.agg #[.slice none 0 0, .slice none 0 0]) ([], [])) := ownLa_nil _ _
    obtain ⟨k0, k1⟩ := y1.cells
    have kh := y1.heap
    have kl := y1.lt
    have kf0 := y1.frozen 0
    have kf1 := y1.frozen 1
    have y9 := (y1.set0 (.slice none 0 0)).set1 (.slice none 0 0)
    have hyh := y9.heap
    have HBE : Hid (Below w.heap.size w ((w1.setCell ⟨w.heap.size + 1, 0, none⟩ (.slice none 0 0)).setCell ⟨w.heap.size + 1, 1, none⟩ (.slice none 0 0))) := (HB1.out.setCell (by show w.heap.size ≤ w.heap.size + 1; omega) _).setCell (by show w.heap.size ≤ w.heap.size + 1; omega) _
    clear HX0 HY0 y9 y1
    go_wp2_with fail
    refine bodyPost_ret (results_la rfl _ _ (w.heap.size + 1) 26 _ (0, 0) _ rfl hyh Try.underlying26 rfl (by kernel_rfl)) rfl ?_
    exact ⟨_, rfl, HZO.out, HBE.out⟩
  | true =>
    rw [Bool.true_and]
    obtain ⟨n, M, N, xs, ys, zs, rfl, hn, hm3, hN, hgn, hon, hxn, hyn, hzn, hLR, hgc, hgb⟩ := HLT.out rfl
    subst hLR
    have GC : Hid _ := hgc
    have GBF : Hid _ := hgb
    have HXN : Hid (xs.length = N) := hxn
    have HYB : Hid (ys.length ≤ 24) := hyn
    have HZB : Hid (zs.length ≤ 24) := hzn
    have HN1 : Hid (1 ≤ N) := by show 1 ≤ N; omega
    have hNi : (n : Int) + 1 = (N : Int) := by omega
    have hNw : IntKind.i64.wrap ((n : Int) + 1) = (N : Int) := by rw [hNi]; exact IntWalk.i64_in _ ⟨by omega, by omega⟩
    have hNw2 : IntKind.i64.wrap (N : Int) = (N : Int) := IntWalk.i64_in _ ⟨by omega, by omega⟩
    have hNb : N ≤ 1001 := by omega
    have HLOK : Hid (LaOk (xs ++ ys, zs)) := ⟨by show (xs ++ ys).length ≤ 1048576; rw [List.length_append]; omega, by show zs.length ≤ 1048576; omega⟩
    clear HLT hgc hgb hN hxn hyn hzn
    generalize hCB : goodLa (xs ++ ys, zs) = CB at *
    clear hCB
    rcases hm3 with ⟨hm4, rfl⟩ | ⟨hm4, rfl⟩
    · go_enter Try.func25, Try.ntmps25
      go_wp2_with fail
      refine g.mono ?_
      clear a0 a1 ah al
      generalize (w.alloc (.cells #[.slice ga gn gc, .slice oa on oc] 26)).alloc (.cells #[.slice none 0 0, .slice none 0 0] 26) = w0 at *
      rintro e w1 ⟨rfl, hs⟩
      have HB1 : Hid (Below w.heap.size w w1) := HB0.out.trans (hs.mono (by omega))
      have y1 := HY0.out.below hs (by omega)
      have x1 := HX0.out.below hs (by omega)
      have hs1 := hs.size
      clear g hs
      obtain ⟨a0, a1⟩ := x1.cells
      have ah := x1.heap
      have al := x1.lt
      have HX1 : Hid _ := x1
      have HY1 : Hid _ := y1
      clear x1 y1 HX0 HY0
      have g2 := GC.out _ HB1.out
      go_wp2_with fail
      refine g2.mono ?_
      rintro e w2 ⟨u, rfl, ho, hs⟩
      have HB2 : Hid (Below w.heap.size w w2) := HB1.out.trans (hs.mono (by omega))
      have HX2 : Hid _ := HX1.out.below hs (by omega)
      have HY2 : Hid _ := HY1.out.below hs (by omega)
      have hs2 := hs.size
      obtain ⟨pa, pb, hpe, hO1, hO2, hAP⟩ := ho
      obtain ⟨aa, an, ac, rfl⟩ := hO1.shape
      obtain ⟨ba, bn, bc, rfl⟩ := hO2.shape
      subst hpe
      have hyl : ys.length = an := by
        obtain ⟨a9, c9, e9⟩ := OffIn.shape hO1
        rw [cellsI_len] at e9
        injection e9 with _ e9 _
        exact e9.symm
      have HYN : Hid (ys.length = an) := hyl
      have HO1 : Hid (OwnOI w2 w1.heap.size w2.heap.size (.slice aa an ac) ys) := hO1
      have HO2 : Hid (OwnOI w2 w1.heap.size w2.heap.size (.slice ba bn bc) zs) := hO2
      have HSR2 : Hid (SrcO w2 (.slice aa an ac) an (cellsI ys)) := by
        have k9 : OwnOI w2 w1.heap.size w2.heap.size (.slice aa an ac) ys := hO1
        have h9 := srcO_ints (k9.reads (by have := HYB.out; omega)) k9.sol
        rw [hyl] at h9
        exact h9
      have hanb : an ≤ 24 := by rw [← hyl]; exact HYB.out
      have hbT : Below w2.heap.size w2 (w2.alloc (.cells #[.slice aa an ac, .slice ba bn bc] 26)) := (Below.refl _ _).alloc (Nat.le_refl _) _
      have hzT : (w2.alloc (.cells #[.slice aa an ac, .slice ba bn bc] 26)).heap.size = w2.heap.size + 1 := World.size_alloc _ _
      have tT := box2_alloc w2 26 (.slice aa an ac) (.slice ba bn bc)
      have HT3 : Hid _ := tT
      have HBT : Hid _ := hbT
      clear g2 hs a0 a1 ah al hO1 hO2 hAP hyl tT hbT
      have x2 := HX2.out.below HBT.out HX2.out.lt
      obtain ⟨a0, a1⟩ := x2.cells
      have ah := x2.heap
      have al := x2.lt
      clear x2
      go_wp2_with fail
      generalize w2.alloc (.cells #[.slice aa an ac, .slice ba bn bc] 26) = wt at *
      have HXP : Hid (∀ w3, Below wt.drew.heap.size wt.drew w3 → Box2 w3 w.heap.size 26 (.slice ga gn gc) (.slice oa on oc)) := fun w3 hb3 => (HX2.out.below (HBT.out.drew.trans (hb3.mono (by show w2.heap.size ≤ wt.heap.size; omega))) HX2.out.lt)
      have HYP : Hid (∀ w3, Below wt.drew.heap.size wt.drew w3 → Box2 w3 (w.heap.size + 1) 26 (.slice none 0 0) (.slice none 0 0)) := fun w3 hb3 => (HY2.out.below (HBT.out.drew.trans (hb3.mono (by show w2.heap.size ≤ wt.heap.size; omega))) HY2.out.lt)
      have HTP : Hid (∀ w3, Below wt.drew.heap.size wt.drew w3 → Box2 w3 w2.heap.size 26 (.slice aa an ac) (.slice ba bn bc)) := fun w3 hb3 => Box2.below (w := wt.drew) ⟨HT3.out.heap⟩ hb3 (by show _ < wt.heap.size; omega)
      have HQ2 : Hid (∀ w3, Below wt.drew.heap.size wt.drew w3 → Below w2.heap.size w2 w3) := fun w3 hb3 => HBT.out.drew.trans (hb3.mono (by show w2.heap.size ≤ wt.heap.size; omega))
      have HBW : Hid (∀ w3, Below wt.drew.heap.size wt.drew w3 → Below w.heap.size w w3) := fun w3 hb3 => HB2.out.trans ((HQ2.out w3 hb3).mono HB2.out.size)
      have HSRC : Hid (∀ w3, Below wt.drew.heap.size wt.drew w3 → SrcO w3 (.slice aa an ac) an (cellsI ys)) := fun w3 hb3 => HSR2.out.below (by rw [cellsI_len]; exact HYN.out) (HQ2.out w3 hb3)
      clear a0 a1 ah al
      refine wp_region_any (by kernel_rfl) ?_
      change wpAny _ _ _ _ _ _ _ (World.drew _)
      refine wpAny_invN (fun lb9 ac9 w' => ∃ (l0 l1 l2 l3 l4 l5 l6 l7 l8 : Bool) (s0 s1 s2 s3 s4 s5 s6 s7 : Value), lb9 = #[l0, l1, l2, l3, l4, l5, l6, l7, l8] ∧ ac9 = { tmps := ((.agg #[.slice ga gn gc, .slice oa on oc]) :: (.int .i64 n) :: (.pointer (some ⟨w.heap.size, 0, none⟩)) :: (undef) :: (.pointer (some ⟨w.heap.size + 1, 0, none⟩)) :: (.bool false) :: (.int .i64 n) :: (.pointer (some ⟨w2.heap.size, 0, none⟩)) :: (.agg #[.slice ga gn gc, .slice oa on oc]) :: (.int .i64 n) :: (.bool true) :: (.bool false) :: (undef) :: (.int .i64 n) :: (.pointer (some ⟨w.heap.size, 0, none⟩)) :: (.slice ga gn gc) :: (.int .i64 gn) :: (.int .i64 n) :: (.agg #[.slice ga gn gc, .slice oa on oc]) :: (.int .i64 n) :: (.int .i64 n) :: (.pointer (some ⟨w.heap.size, 1, none⟩)) :: (.slice oa on oc) :: (.int .i64 on) :: (.agg #[.slice aa an ac, .slice ba bn bc]) :: (s0) :: (s1) :: (s2) :: (s3) :: (s4) :: (s5) :: (s6) :: (s7) :: (undef) :: (undef) :: (undef) :: (undef) :: []).toArray, defers := [] } ∧ RegStut wt.drew w' wt.drew.heap.size w2.heap.size ga gn gc oa on oc aa an ac n N xs ys l0 l1 l2 l3 l4 l5 l6 l7 l8 s0 s1 s2 s3 s4 s5 s6 s7) ?done ?step 9 _ _ _ ⟨false, false, false, false, false, false, false, false, false, _, _, _, _, _, _, _, _, rfl, rfl, ?init⟩ (by decide)
      case init => exact { bel := fun _ => Below.refl _ _, all := fun e => (by cases e), fin := fun e => (by cases e), d0 := fun e => (by cases e), d1 := fun e => (by cases e), d2 := fun e => (by cases e), d3 := fun e => (by cases e), d4 := fun e => (by cases e), d5 := fun e => (by cases e), d6 := fun e => (by cases e), d7 := fun e => (by cases e) }
      case step =>
        rintro lb9 ac9 w3 ⟨l0, l1, l2, l3, l4, l5, l6, l7, l8, s0, s1, s2, s3, s4, s5, s6, s7, rfl, rfl, h⟩
        intro q9 hq
        have hlt9 := ready_ltN hq
        match q9, hq, hlt9 with
        | 0, hq, _ =>
          have hr := ready_depN hq rfl
          have hme : l0 = false := hr.1
          have hT : l8 = false := by
            cases hc9 : l8 with
            | false => rfl
            | true => exact absurd (h.all hc9).1 (by rw [hme]; decide)
          have hbel := h.bel hT
          have x3 := HXP.out w3 hbel
          obtain ⟨c0, c1⟩ := x3.cells
          have ch := x3.heap
          have cl := x3.lt
          clear hr hq
          refine wpOp_runN rfl rfl (fun K hK => ?_)
          go_simp
          refine hK _ _ ⟨true, l1, l2, l3, l4, l5, l6, l7, l8, _, _, _, _, _, _, _, _, rfl, rfl, ?_⟩
          exact { bel := h.bel, all := fun e => (by rw [hT] at e; cases e), fin := fun e => (by rw [hT] at e; cases e), d0 := fun _ => ⟨rfl, trivial⟩, d1 := h.d1, d2 := h.d2, d3 := fun e => absurd (h.d3 e).2.1 (by rw [hme]; decide), d4 := h.d4, d5 := h.d5, d6 := h.d6, d7 := fun e => absurd (h.d7 e).2.1 (by rw [hme]; decide) }
        | 1, hq, _ =>
          have hr := ready_depN hq rfl
          have hme : l1 = false := hr.1
          have hT : l8 = false := by
            cases hc9 : l8 with
            | false => rfl
            | true => exact absurd (h.all hc9).2.1 (by rw [hme]; decide)
          have hbel := h.bel hT
          clear hr hq
          refine wpOp_runN rfl rfl (fun K hK => ?_)
          go_simp
          refine hK _ _ ⟨l0, true, l2, l3, l4, l5, l6, l7, l8, _, _, _, _, _, _, _, _, rfl, rfl, ?_⟩
          exact { bel := h.bel, all := fun e => (by rw [hT] at e; cases e), fin := fun e => (by rw [hT] at e; cases e), d0 := h.d0, d1 := fun _ => ⟨rfl, trivial⟩, d2 := fun e => absurd (h.d2 e).2 (by rw [hme]; decide), d3 := h.d3, d4 := h.d4, d5 := h.d5, d6 := h.d6, d7 := fun e => absurd (h.d7 e).2.2.1 (by rw [hme]; decide) }
        | 2, hq, _ =>
          have hr := ready_depN hq rfl
          have hme : l2 = false := hr.1
          have e1 : l1 = true := hr.2 ⟨1, .data⟩ (by simp) (by kernel_rfl)
          have hT : l8 = false := by
            cases hc9 : l8 with
            | false => rfl
            | true => exact absurd (h.all hc9).2.2.1 (by rw [hme]; decide)
          have hbel := h.bel hT
          obtain rfl := (h.d1 e1).1
          clear hr hq
          refine wpOp_runN rfl rfl (fun K hK => ?_)
          go_simp
          refine hK _ _ ⟨l0, l1, true, l3, l4, l5, l6, l7, l8, _, _, _, _, _, _, _, _, rfl, rfl, ?_⟩
          exact { bel := h.bel, all := fun e => (by rw [hT] at e; cases e), fin := fun e => (by rw [hT] at e; cases e), d0 := h.d0, d1 := h.d1, d2 := fun _ => ⟨rfl, e1⟩, d3 := fun e => absurd (h.d3 e).2.2 (by rw [hme]; decide), d4 := h.d4, d5 := h.d5, d6 := h.d6, d7 := fun e => absurd (h.d7 e).2.2.2.1 (by rw [hme]; decide) }
        | 3, hq, _ =>
          have hr := ready_depN hq rfl
          have hme : l3 = false := hr.1
          have e0 : l0 = true := hr.2 ⟨0, .data⟩ (by simp) (by kernel_rfl)
          have e2 : l2 = true := hr.2 ⟨2, .data⟩ (by simp) (by kernel_rfl)
          have hT : l8 = false := by
            cases hc9 : l8 with
            | false => rfl
            | true => exact absurd (h.all hc9).2.2.2.1 (by rw [hme]; decide)
          have hbel := h.bel hT
          obtain rfl := (h.d0 e0).1
          obtain rfl := (h.d2 e2).1
          clear hr hq
          refine wpOp_runN rfl rfl (fun K hK => ?_)
          go_simp
          go_at_call 47
          refine Calls.mono (GBF.out w3 (HBW.out w3 hbel)) ?_
          rintro e w4 ⟨r, rfl, hfu, ho, hs4⟩
          have hbel4 := hbel.trans (hs4.mono hbel.size)
          have hnew := (show RwF _ w4 r N _ from ⟨_, _, hbel.size, hfu, ho⟩)
          refine hK _ _ ⟨l0, l1, l2, true, l4, l5, l6, l7, l8, _, _, _, _, _, _, _, _, rfl, rfl, ?_⟩
          exact { bel := fun _ => hbel4, all := fun e => (by rw [hT] at e; cases e), fin := fun e => (by rw [hT] at e; cases e), d0 := h.d0, d1 := h.d1, d2 := h.d2, d3 := fun _ => ⟨fun _ => hnew, e0, e2⟩, d4 := h.d4, d5 := h.d5, d6 := fun e => absurd (h.d6 e).2.1 (by rw [hme]; decide), d7 := fun e => absurd (h.d7 e).2.2.2.2.1 (by rw [hme]; decide) }
        | 4, hq, _ =>
          have hr := ready_depN hq rfl
          have hme : l4 = false := hr.1
          have hT : l8 = false := by
            cases hc9 : l8 with
            | false => rfl
            | true => exact absurd (h.all hc9).2.2.2.2.1 (by rw [hme]; decide)
          have hbel := h.bel hT
          clear hr hq
          refine wpOp_runN rfl rfl (fun K hK => ?_)
          go_simp
          refine hK _ _ ⟨l0, l1, l2, l3, true, l5, l6, l7, l8, _, _, _, _, _, _, _, _, rfl, rfl, ?_⟩
          exact { bel := h.bel, all := fun e => (by rw [hT] at e; cases e), fin := fun e => (by rw [hT] at e; cases e), d0 := h.d0, d1 := h.d1, d2 := h.d2, d3 := h.d3, d4 := fun _ => ⟨rfl, trivial⟩, d5 := fun e => absurd (h.d5 e).2 (by rw [hme]; decide), d6 := h.d6, d7 := fun e => absurd (h.d7 e).2.2.2.2.2.1 (by rw [hme]; decide) }
        | 5, hq, _ =>
          have hr := ready_depN hq rfl
          have hme : l5 = false := hr.1
          have e4 : l4 = true := hr.2 ⟨4, .data⟩ (by simp) (by kernel_rfl)
          have hT : l8 = false := by
            cases hc9 : l8 with
            | false => rfl
            | true => exact absurd (h.all hc9).2.2.2.2.2.1 (by rw [hme]; decide)
          have hbel := h.bel hT
          obtain rfl := (h.d4 e4).1
          have t3 := HTP.out w3 hbel
          obtain ⟨d0, d1⟩ := t3.cells
          have dh := t3.heap
          have dl := t3.lt
          clear hr hq
          refine wpOp_runN rfl rfl (fun K hK => ?_)
          go_simp
          refine hK _ _ ⟨l0, l1, l2, l3, l4, true, l6, l7, l8, _, _, _, _, _, _, _, _, rfl, rfl, ?_⟩
          exact { bel := h.bel, all := fun e => (by rw [hT] at e; cases e), fin := fun e => (by rw [hT] at e; cases e), d0 := h.d0, d1 := h.d1, d2 := h.d2, d3 := h.d3, d4 := h.d4, d5 := fun _ => ⟨rfl, e4⟩, d6 := fun e => absurd (h.d6 e).2.2 (by rw [hme]; decide), d7 := fun e => absurd (h.d7 e).2.2.2.2.2.2.1 (by rw [hme]; decide) }
        | 6, hq, _ =>
          have hr := ready_depN hq rfl
          have hme : l6 = false := hr.1
          have e3 : l3 = true := hr.2 ⟨3, .data⟩ (by simp) (by kernel_rfl)
          have e5 : l5 = true := hr.2 ⟨5, .data⟩ (by simp) (by kernel_rfl)
          have hT : l8 = false := by
            cases hc9 : l8 with
            | false => rfl
            | true => exact absurd (h.all hc9).2.2.2.2.2.2.1 (by rw [hme]; decide)
          have hbel := h.bel hT
          obtain rfl := (h.d5 e5).1
          clear hr hq
          refine wpOp_runN rfl rfl (fun K hK => ?_)
          have hF3 := (h.d3 e3).1 hT
          obtain ⟨lo3, hi3, hlo3, hfu3, hO3⟩ := hF3
          refine wp_append_off _ _ rfl wt.drew.heap.size lo3 hi3 N an _ _ xs ys rfl hfu3 hO3 HXN.out HN1.out hlo3 hbel.size rfl (HSRC.out w3 hbel) HYN.out (by omega) ?_
          intro v4 w4 hs4 hrw
          have hbel4 := hbel.trans (hs4.mono hbel.size)
          have hnew := hrw
          refine hK _ _ ⟨l0, l1, l2, l3, l4, l5, true, l7, l8, _, _, _, _, _, _, _, _, rfl, rfl, ?_⟩
          exact { bel := fun _ => hbel4, all := fun e => (by rw [hT] at e; cases e), fin := fun e => (by rw [hT] at e; cases e), d0 := h.d0, d1 := h.d1, d2 := h.d2, d3 := fun e => ⟨fun hx => ((h.d3 e).1 hx).below hs4, (h.d3 e).2⟩, d4 := h.d4, d5 := h.d5, d6 := fun _ => ⟨fun _ => hnew, e3, e5⟩, d7 := fun e => absurd (h.d7 e).2.2.2.2.2.2.2 (by rw [hme]; decide) }
        | 7, hq, _ =>
          have hr := ready_depN hq rfl
          have hme : l7 = false := hr.1
          have e0 : l0 = true := hr.2 ⟨0, .phase⟩ (by simp) (by kernel_rfl)
          have e1 : l1 = true := hr.2 ⟨1, .phase⟩ (by simp) (by kernel_rfl)
          have e2 : l2 = true := hr.2 ⟨2, .phase⟩ (by simp) (by kernel_rfl)
          have e3 : l3 = true := hr.2 ⟨3, .phase⟩ (by simp) (by kernel_rfl)
          have e4 : l4 = true := hr.2 ⟨4, .phase⟩ (by simp) (by kernel_rfl)
          have e5 : l5 = true := hr.2 ⟨5, .phase⟩ (by simp) (by kernel_rfl)
          have e6 : l6 = true := hr.2 ⟨6, .phase⟩ (by simp) (by kernel_rfl)
          have hT : l8 = false := by
            cases hc9 : l8 with
            | false => rfl
            | true => exact absurd (h.all hc9).2.2.2.2.2.2.2 (by rw [hme]; decide)
          have hbel := h.bel hT
          obtain rfl := (h.d0 e0).1
          obtain rfl := (h.d1 e1).1
          obtain rfl := (h.d2 e2).1
          obtain rfl := (h.d4 e4).1
          obtain rfl := (h.d5 e5).1
          clear hr hq
          refine wpOp_runN rfl rfl (fun K hK => ?_)
          go_simp
          refine hK _ _ ⟨l0, l1, l2, l3, l4, l5, l6, true, l8, _, _, _, _, _, _, _, _, rfl, rfl, ?_⟩
          exact { bel := h.bel, all := fun e => (by rw [hT] at e; cases e), fin := fun e => (by rw [hT] at e; cases e), d0 := h.d0, d1 := h.d1, d2 := h.d2, d3 := h.d3, d4 := h.d4, d5 := h.d5, d6 := h.d6, d7 := fun _ => ⟨rfl, e0, e1, e2, e3, e4, e5, e6⟩ }
        | 8, hq, _ =>
          have hr := ready_depN hq rfl
          have hme : l8 = false := hr.1
          have e0 : l0 = true := hr.2 ⟨0, .phase⟩ (by simp) (by kernel_rfl)
          have e1 : l1 = true := hr.2 ⟨1, .phase⟩ (by simp) (by kernel_rfl)
          have e2 : l2 = true := hr.2 ⟨2, .phase⟩ (by simp) (by kernel_rfl)
          have e3 : l3 = true := hr.2 ⟨3, .phase⟩ (by simp) (by kernel_rfl)
          have e4 : l4 = true := hr.2 ⟨4, .phase⟩ (by simp) (by kernel_rfl)
          have e5 : l5 = true := hr.2 ⟨5, .phase⟩ (by simp) (by kernel_rfl)
          have e6 : l6 = true := hr.2 ⟨6, .data⟩ (by simp) (by kernel_rfl)
          have e7 : l7 = true := hr.2 ⟨7, .data⟩ (by simp) (by kernel_rfl)
          have hbel := h.bel hme
          obtain rfl := (h.d0 e0).1
          obtain rfl := (h.d1 e1).1
          obtain rfl := (h.d2 e2).1
          obtain rfl := (h.d4 e4).1
          obtain rfl := (h.d5 e5).1
          obtain rfl := (h.d7 e7).1
          have t3 := HTP.out w3 hbel
          obtain ⟨d0, d1⟩ := t3.cells
          have dh := t3.heap
          have dl := t3.lt
          have df0 := t3.frozen 0
          have df1 := t3.frozen 1
          clear hr hq
          have hF3 := (h.d3 e3).1 hme
          have hF6 := (h.d6 e6).1 hme
          refine wpOp_runN rfl rfl (fun K hK => ?_)
          obtain ⟨u3a, u3n, u3c, rfl⟩ := hF6.shape
          go_simp
          refine hK _ _ ⟨l0, l1, l2, l3, l4, l5, l6, l7, true, _, _, _, _, _, _, _, _, rfl, rfl, ?_⟩
          exact { bel := fun e => (by cases e), all := fun _ => ⟨e0, e1, e2, e3, e4, e5, e6, e7⟩, fin := fun _ => ⟨w3, hbel, rfl, hF3, hF6⟩, d0 := h.d0, d1 := h.d1, d2 := h.d2, d3 := fun e => ⟨fun e9 => (by cases e9), (h.d3 e).2⟩, d4 := h.d4, d5 := h.d5, d6 := fun e => ⟨fun e9 => (by cases e9), (h.d6 e).2⟩, d7 := h.d7 }
        | k + 9, hq, h18 => exact (Nat.not_lt_of_le (Nat.le_add_left 9 k) h18).elim
      case done =>
        rintro lb9 ac9 w3 ⟨l0, l1, l2, l3, l4, l5, l6, l7, l8, s0, s1, s2, s3, s4, s5, s6, s7, rfl, rfl, h⟩ hr
        cases l0
        · exact (ready_none2N hr 0 rfl rfl rfl).elim
        cases l1
        · exact (ready_none2N hr 1 rfl rfl rfl).elim
        cases l2
        · exact (ready_none2N hr 2 rfl rfl rfl).elim
        cases l3
        · exact (ready_none2N hr 3 rfl rfl rfl).elim
        cases l4
        · exact (ready_none2N hr 4 rfl rfl rfl).elim
        cases l5
        · exact (ready_none2N hr 5 rfl rfl rfl).elim
        cases l6
        · exact (ready_none2N hr 6 rfl rfl rfl).elim
        cases l7
        · exact (ready_none2N hr 7 rfl rfl rfl).elim
        cases l8
        · exact (ready_none2N hr 8 rfl rfl rfl).elim
        obtain rfl := (h.d0 rfl).1
        obtain rfl := (h.d1 rfl).1
        obtain rfl := (h.d2 rfl).1
        obtain rfl := (h.d4 rfl).1
        obtain rfl := (h.d5 rfl).1
        obtain rfl := (h.d7 rfl).1
        obtain ⟨w4, hbel, rfl, hF3, hF6⟩ := h.fin rfl
        clear h hr
        obtain ⟨u3a, u3n, u3c, rfl⟩ := hF6.shape
        have hsz4 := hbel.size
        change wt.heap.size ≤ w4.heap.size at hsz4
        obtain ⟨lo6, hi6, hlo6, hO6⟩ := hF6
        change wt.heap.size ≤ lo6 at hlo6
        have hb24 := HQ2.out w4 hbel
        have hA5 : OwnOI (w4.setCell ⟨w2.heap.size, 0, none⟩ (.slice u3a u3n u3c)) lo6 hi6 (.slice u3a u3n u3c) (xs ++ ys) := OffIn.set hO6 (Or.inl (by omega))
        have hZ4 : OwnOI w4 w1.heap.size w2.heap.size (.slice ba bn bc) zs := OffIn.belowR HO2.out hb24 (Nat.le_refl _)
        have hZ5 : OwnOI (w4.setCell ⟨w2.heap.size, 0, none⟩ (.slice u3a u3n u3c)) w1.heap.size w2.heap.size (.slice ba bn bc) zs := OffIn.set hZ4 (Or.inr (Nat.le_refl _))
        have HO5 : Hid (OwnLa (w4.setCell ⟨w2.heap.size, 0, none⟩ (.slice u3a u3n u3c)) w1.heap.size (w4.setCell ⟨w2.heap.size, 0, none⟩ (.slice u3a u3n u3c)).heap.size (.agg #[.slice u3a u3n u3c, .slice ba bn bc]) (xs ++ ys, zs)) := ⟨_, _, rfl, OffIn.weak hA5 (by omega) hA5.1 (Nat.le_refl _), OffIn.weak hZ5 (Nat.le_refl _) hZ5.1 (Nat.le_refl _), ap3_symm (ap3_of hZ5 hA5 (Or.inl (by omega)))⟩
        have HT5 : Hid (Box2 (w4.setCell ⟨w2.heap.size, 0, none⟩ (.slice u3a u3n u3c)) w2.heap.size 26 (.slice u3a u3n u3c) (.slice ba bn bc)) := (HTP.out w4 hbel).set0 _
        have HY5 : Hid (Box2 (w4.setCell ⟨w2.heap.size, 0, none⟩ (.slice u3a u3n u3c)) (w.heap.size + 1) 26 (.slice none 0 0) (.slice none 0 0)) := (HYP.out w4 hbel).other (by omega) _
        have HB5 : Hid (Below w.heap.size w (w4.setCell ⟨w2.heap.size, 0, none⟩ (.slice u3a u3n u3c))) := (HBW.out w4 hbel).setCell (by show w.heap.size ≤ w2.heap.size; omega) _
        have hz5 : (w4.setCell ⟨w2.heap.size, 0, none⟩ (.slice u3a u3n u3c)).heap.size = w4.heap.size := size_set _ _ _ _
        have g3 := HM.out _ (.agg #[.slice u3a u3n u3c, .slice ba bn bc]) HB5.out (HO5.out.reads HLOK.out)
        clear hO6 hA5 hZ4 hZ5 hF3 hbel hb24
        generalize w4.setCell ⟨w2.heap.size, 0, none⟩ (.slice u3a u3n u3c) = w5 at *
        have HT5' := HT5.out
        obtain ⟨d0, d1⟩ := HT5'.cells
        have dh := HT5'.heap
        have dl := HT5'.lt
        clear HT5'
        go_wp2_with fail
        refine g3.mono ?_
        rintro e w6 ⟨rfl, hs⟩
        have HB6 : Hid (Below w.heap.size w w6) := HB5.out.trans (hs.mono (by omega))
        have y6 := HY5.out.below hs (by omega)
        have HO6 : Hid (OwnLa w6 w1.heap.size w6.heap.size (.agg #[.slice u3a u3n u3c, .slice ba bn bc]) (xs ++ ys, zs)) := (HO5.out.same hs.size (fun i _ h9 => hs.block i h9)).weak (Nat.le_refl _) hs.size (Nat.le_refl _)
        clear g3 hs d0 d1 dh dl HT5 HY5 HO5
        cases CB with
        | false =>
          have HZO : Hid (OwnLa ((w6.setCell ⟨w.heap.size + 1, 0, none⟩ (.slice none 0 0)).setCell ⟨w.heap.size + 1, 1, none⟩ (.slice none 0 0)) w.heap.size ((w6.setCell ⟨w.heap.size + 1, 0, none⟩ (.slice none 0 0)).setCell ⟨w.heap.size + 1, 1, none⟩ (.slice none 0 0)).heap.size (.agg #[.slice none 0 0, .slice none 0 0]) ([], [])) := ownLa_nil _ _
          obtain ⟨k0, k1⟩ := y6.cells
          have kh := y6.heap
          have kl := y6.lt
          have kf0 := y6.frozen 0
          have kf1 := y6.frozen 1
          have y9 := (y6.set0 (.slice none 0 0)).set1 (.slice none 0 0)
          have hyh := y9.heap
          have HBE : Hid (Below w.heap.size w ((w6.setCell ⟨w.heap.size + 1, 0, none⟩ (.slice none 0 0)).setCell ⟨w.heap.size + 1, 1, none⟩ (.slice none 0 0))) := (HB6.out.setCell (by show w.heap.size ≤ w.heap.size + 1; omega) _).setCell (by show w.heap.size ≤ w.heap.size + 1; omega) _
          clear y9 y6
          go_wp2_with fail
          refine bodyPost_ret (results_la rfl _ _ (w.heap.size + 1) 26 _ (0, 0) _ rfl hyh Try.underlying26 rfl (by kernel_rfl)) rfl ?_
          exact ⟨_, rfl, HZO.out, HBE.out⟩
        | true =>
          obtain ⟨k0, k1⟩ := y6.cells
          have kh := y6.heap
          have kl := y6.lt
          have kf0 := y6.frozen 0
          have kf1 := y6.frozen 1
          have y9 := (y6.set0 (.slice u3a u3n u3c)).set1 (.slice ba bn bc)
          have hyh := y9.heap
          have HOL : Hid (OwnLa ((w6.setCell ⟨w.heap.size + 1, 0, none⟩ (.slice u3a u3n u3c)).setCell ⟨w.heap.size + 1, 1, none⟩ (.slice ba bn bc)) w.heap.size ((w6.setCell ⟨w.heap.size + 1, 0, none⟩ (.slice u3a u3n u3c)).setCell ⟨w.heap.size + 1, 1, none⟩ (.slice ba bn bc)).heap.size (.agg #[.slice u3a u3n u3c, .slice ba bn bc]) (xs ++ ys, zs)) := ((HO6.out.setO (b := w.heap.size + 1) (o := 0) (x := .slice u3a u3n u3c) (Or.inl (by omega))).setO (b := w.heap.size + 1) (o := 1) (x := .slice ba bn bc) (Or.inl (by omega))).weak (by omega) (by rw [size_set, size_set]; exact Nat.le_refl _) (Nat.le_refl _)
          have HBE : Hid (Below w.heap.size w ((w6.setCell ⟨w.heap.size + 1, 0, none⟩ (.slice u3a u3n u3c)).setCell ⟨w.heap.size + 1, 1, none⟩ (.slice ba bn bc))) := (HB6.out.setCell (by show w.heap.size ≤ w.heap.size + 1; omega) _).setCell (by show w.heap.size ≤ w.heap.size + 1; omega) _
          clear y9 y6
          go_wp2_with fail
          refine bodyPost_ret (results_la rfl _ _ (w.heap.size + 1) 26 _ (0, 0) _ rfl hyh Try.underlying26 rfl (by kernel_rfl)) rfl ?_
          exact ⟨_, rfl, HOL.out, HBE.out⟩
    · go_enter Try.func25, Try.ntmps25
      go_wp2_with fail
      refine g.mono ?_
      clear a0 a1 ah al
      generalize (w.alloc (.cells #[.slice ga gn gc, .slice oa on oc] 26)).alloc (.cells #[.slice none 0 0, .slice none 0 0] 26) = w0 at *
      rintro e w1 ⟨rfl, hs⟩
      have HB1 : Hid (Below w.heap.size w w1) := HB0.out.trans (hs.mono (by omega))
      have y1 := HY0.out.below hs (by omega)
      have x1 := HX0.out.below hs (by omega)
      have hs1 := hs.size
      clear g hs
      obtain ⟨a0, a1⟩ := x1.cells
      have ah := x1.heap
      have al := x1.lt
      have HX1 : Hid _ := x1
      have HY1 : Hid _ := y1
      clear x1 y1 HX0 HY0
      have g2 := GC.out _ HB1.out
      go_wp2_with fail
      refine g2.mono ?_
      rintro e w2 ⟨u, rfl, ho, hs⟩
      have HB2 : Hid (Below w.heap.size w w2) := HB1.out.trans (hs.mono (by omega))
      have HX2 : Hid _ := HX1.out.below hs (by omega)
      have HY2 : Hid _ := HY1.out.below hs (by omega)
      have hs2 := hs.size
      obtain ⟨pa, pb, hpe, hO1, hO2, hAP⟩ := ho
      obtain ⟨aa, an, ac, rfl⟩ := hO1.shape
      obtain ⟨ba, bn, bc, rfl⟩ := hO2.shape
      subst hpe
      have hyl : ys.length = an := by
        obtain ⟨a9, c9, e9⟩ := OffIn.shape hO1
        rw [cellsI_len] at e9
        injection e9 with _ e9 _
        exact e9.symm
      have HYN : Hid (ys.length = an) := hyl
      have HO1 : Hid (OwnOI w2 w1.heap.size w2.heap.size (.slice aa an ac) ys) := hO1
      have HO2 : Hid (OwnOI w2 w1.heap.size w2.heap.size (.slice ba bn bc) zs) := hO2
      have HSR2 : Hid (SrcO w2 (.slice aa an ac) an (cellsI ys)) := by
        have k9 : OwnOI w2 w1.heap.size w2.heap.size (.slice aa an ac) ys := hO1
        have h9 := srcO_ints (k9.reads (by have := HYB.out; omega)) k9.sol
        rw [hyl] at h9
        exact h9
      have hanb : an ≤ 24 := by rw [← hyl]; exact HYB.out
      have hbT : Below w2.heap.size w2 (w2.alloc (.cells #[.slice aa an ac, .slice ba bn bc] 26)) := (Below.refl _ _).alloc (Nat.le_refl _) _
      have hzT : (w2.alloc (.cells #[.slice aa an ac, .slice ba bn bc] 26)).heap.size = w2.heap.size + 1 := World.size_alloc _ _
      have tT := box2_alloc w2 26 (.slice aa an ac) (.slice ba bn bc)
      have HT3 : Hid _ := tT
      have HBT : Hid _ := hbT
      clear g2 hs a0 a1 ah al hO1 hO2 hAP hyl tT hbT
      have x2 := HX2.out.below HBT.out HX2.out.lt
      obtain ⟨a0, a1⟩ := x2.cells
      have ah := x2.heap
      have al := x2.lt
      clear x2
      go_wp2_with fail
      generalize w2.alloc (.cells #[.slice aa an ac, .slice ba bn bc] 26) = wt at *
      have HXP : Hid (∀ w3, Below wt.drew.heap.size wt.drew w3 → Box2 w3 w.heap.size 26 (.slice ga gn gc) (.slice oa on oc)) := fun w3 hb3 => (HX2.out.below (HBT.out.drew.trans (hb3.mono (by show w2.heap.size ≤ wt.heap.size; omega))) HX2.out.lt)
      have HYP : Hid (∀ w3, Below wt.drew.heap.size wt.drew w3 → Box2 w3 (w.heap.size + 1) 26 (.slice none 0 0) (.slice none 0 0)) := fun w3 hb3 => (HY2.out.below (HBT.out.drew.trans (hb3.mono (by show w2.heap.size ≤ wt.heap.size; omega))) HY2.out.lt)
      have HTP : Hid (∀ w3, Below wt.drew.heap.size wt.drew w3 → Box2 w3 w2.heap.size 26 (.slice aa an ac) (.slice ba bn bc)) := fun w3 hb3 => Box2.below (w := wt.drew) ⟨HT3.out.heap⟩ hb3 (by show _ < wt.heap.size; omega)
      have HQ2 : Hid (∀ w3, Below wt.drew.heap.size wt.drew w3 → Below w2.heap.size w2 w3) := fun w3 hb3 => HBT.out.drew.trans (hb3.mono (by show w2.heap.size ≤ wt.heap.size; omega))
      have HBW : Hid (∀ w3, Below wt.drew.heap.size wt.drew w3 → Below w.heap.size w w3) := fun w3 hb3 => HB2.out.trans ((HQ2.out w3 hb3).mono HB2.out.size)
      have HSRC : Hid (∀ w3, Below wt.drew.heap.size wt.drew w3 → SrcO w3 (.slice aa an ac) an (cellsI ys)) := fun w3 hb3 => HSR2.out.below (by rw [cellsI_len]; exact HYN.out) (HQ2.out w3 hb3)
      clear a0 a1 ah al
      refine wp_region_any (by kernel_rfl) ?_
      change wpAny _ _ _ _ _ _ _ (World.drew _)
      refine wpAny_invN (fun lb9 ac9 w' => ∃ (l0 l1 l2 l3 l4 l5 l6 l7 l8 : Bool) (s0 s1 s2 s3 s4 s5 s6 s7 : Value), lb9 = #[l0, l1, l2, l3, l4, l5, l6, l7, l8] ∧ ac9 = { tmps := ((.agg #[.slice ga gn gc, .slice oa on oc]) :: (.int .i64 n) :: (.pointer (some ⟨w.heap.size, 0, none⟩)) :: (undef) :: (.pointer (some ⟨w.heap.size + 1, 0, none⟩)) :: (.bool false) :: (.int .i64 gn) :: (.pointer (some ⟨w2.heap.size, 0, none⟩)) :: (.agg #[.slice ga gn gc, .slice oa on oc]) :: (.int .i64 n) :: (.bool true) :: (.bool false) :: (undef) :: (.int .i64 n) :: (.pointer (some ⟨w.heap.size, 0, none⟩)) :: (.slice ga gn gc) :: (.int .i64 gn) :: (.int .i64 gn) :: (.agg #[.slice ga gn gc, .slice oa on oc]) :: (.int .i64 n) :: (.int .i64 gn) :: (.pointer (some ⟨w.heap.size, 1, none⟩)) :: (.slice oa on oc) :: (.int .i64 on) :: (.agg #[.slice aa an ac, .slice ba bn bc]) :: (s0) :: (s1) :: (s2) :: (s3) :: (s4) :: (s5) :: (s6) :: (s7) :: (undef) :: (undef) :: (undef) :: (undef) :: []).toArray, defers := [] } ∧ RegStut wt.drew w' wt.drew.heap.size w2.heap.size ga gn gc oa on oc aa an ac n N xs ys l0 l1 l2 l3 l4 l5 l6 l7 l8 s0 s1 s2 s3 s4 s5 s6 s7) ?done ?step 9 _ _ _ ⟨false, false, false, false, false, false, false, false, false, _, _, _, _, _, _, _, _, rfl, rfl, ?init⟩ (by decide)
      case init => exact { bel := fun _ => Below.refl _ _, all := fun e => (by cases e), fin := fun e => (by cases e), d0 := fun e => (by cases e), d1 := fun e => (by cases e), d2 := fun e => (by cases e), d3 := fun e => (by cases e), d4 := fun e => (by cases e), d5 := fun e => (by cases e), d6 := fun e => (by cases e), d7 := fun e => (by cases e) }
      case step =>
        rintro lb9 ac9 w3 ⟨l0, l1, l2, l3, l4, l5, l6, l7, l8, s0, s1, s2, s3, s4, s5, s6, s7, rfl, rfl, h⟩
        intro q9 hq
        have hlt9 := ready_ltN hq
        match q9, hq, hlt9 with
        | 0, hq, _ =>
          have hr := ready_depN hq rfl
          have hme : l0 = false := hr.1
          have hT : l8 = false := by
            cases hc9 : l8 with
            | false => rfl
            | true => exact absurd (h.all hc9).1 (by rw [hme]; decide)
          have hbel := h.bel hT
          have x3 := HXP.out w3 hbel
          obtain ⟨c0, c1⟩ := x3.cells
          have ch := x3.heap
          have cl := x3.lt
          clear hr hq
          refine wpOp_runN rfl rfl (fun K hK => ?_)
          go_simp
          refine hK _ _ ⟨true, l1, l2, l3, l4, l5, l6, l7, l8, _, _, _, _, _, _, _, _, rfl, rfl, ?_⟩
          exact { bel := h.bel, all := fun e => (by rw [hT] at e; cases e), fin := fun e => (by rw [hT] at e; cases e), d0 := fun _ => ⟨rfl, trivial⟩, d1 := h.d1, d2 := h.d2, d3 := fun e => absurd (h.d3 e).2.1 (by rw [hme]; decide), d4 := h.d4, d5 := h.d5, d6 := h.d6, d7 := fun e => absurd (h.d7 e).2.1 (by rw [hme]; decide) }
        | 1, hq, _ =>
          have hr := ready_depN hq rfl
          have hme : l1 = false := hr.1
          have hT : l8 = false := by
            cases hc9 : l8 with
            | false => rfl
            | true => exact absurd (h.all hc9).2.1 (by rw [hme]; decide)
          have hbel := h.bel hT
          clear hr hq
          refine wpOp_runN rfl rfl (fun K hK => ?_)
          go_simp
          refine hK _ _ ⟨l0, true, l2, l3, l4, l5, l6, l7, l8, _, _, _, _, _, _, _, _, rfl, rfl, ?_⟩
          exact { bel := h.bel, all := fun e => (by rw [hT] at e; cases e), fin := fun e => (by rw [hT] at e; cases e), d0 := h.d0, d1 := fun _ => ⟨rfl, trivial⟩, d2 := fun e => absurd (h.d2 e).2 (by rw [hme]; decide), d3 := h.d3, d4 := h.d4, d5 := h.d5, d6 := h.d6, d7 := fun e => absurd (h.d7 e).2.2.1 (by rw [hme]; decide) }
        | 2, hq, _ =>
          have hr := ready_depN hq rfl
          have hme : l2 = false := hr.1
          have e1 : l1 = true := hr.2 ⟨1, .data⟩ (by simp) (by kernel_rfl)
          have hT : l8 = false := by
            cases hc9 : l8 with
            | false => rfl
            | true => exact absurd (h.all hc9).2.2.1 (by rw [hme]; decide)
          have hbel := h.bel hT
          obtain rfl := (h.d1 e1).1
          clear hr hq
          refine wpOp_runN rfl rfl (fun K hK => ?_)
          go_simp
          refine hK _ _ ⟨l0, l1, true, l3, l4, l5, l6, l7, l8, _, _, _, _, _, _, _, _, rfl, rfl, ?_⟩
          exact { bel := h.bel, all := fun e => (by rw [hT] at e; cases e), fin := fun e => (by rw [hT] at e; cases e), d0 := h.d0, d1 := h.d1, d2 := fun _ => ⟨rfl, e1⟩, d3 := fun e => absurd (h.d3 e).2.2 (by rw [hme]; decide), d4 := h.d4, d5 := h.d5, d6 := h.d6, d7 := fun e => absurd (h.d7 e).2.2.2.1 (by rw [hme]; decide) }
        | 3, hq, _ =>
          have hr := ready_depN hq rfl
          have hme : l3 = false := hr.1
          have e0 : l0 = true := hr.2 ⟨0, .data⟩ (by simp) (by kernel_rfl)
          have e2 : l2 = true := hr.2 ⟨2, .data⟩ (by simp) (by kernel_rfl)
          have hT : l8 = false := by
            cases hc9 : l8 with
            | false => rfl
            | true => exact absurd (h.all hc9).2.2.2.1 (by rw [hme]; decide)
          have hbel := h.bel hT
          obtain rfl := (h.d0 e0).1
          obtain rfl := (h.d2 e2).1
          clear hr hq
          refine wpOp_runN rfl rfl (fun K hK => ?_)
          go_simp
          go_at_call 47
          refine Calls.mono (GBF.out w3 (HBW.out w3 hbel)) ?_
          rintro e w4 ⟨r, rfl, hfu, ho, hs4⟩
          have hbel4 := hbel.trans (hs4.mono hbel.size)
          have hnew := (show RwF _ w4 r N _ from ⟨_, _, hbel.size, hfu, ho⟩)
          refine hK _ _ ⟨l0, l1, l2, true, l4, l5, l6, l7, l8, _, _, _, _, _, _, _, _, rfl, rfl, ?_⟩
          exact { bel := fun _ => hbel4, all := fun e => (by rw [hT] at e; cases e), fin := fun e => (by rw [hT] at e; cases e), d0 := h.d0, d1 := h.d1, d2 := h.d2, d3 := fun _ => ⟨fun _ => hnew, e0, e2⟩, d4 := h.d4, d5 := h.d5, d6 := fun e => absurd (h.d6 e).2.1 (by rw [hme]; decide), d7 := fun e => absurd (h.d7 e).2.2.2.2.1 (by rw [hme]; decide) }
        | 4, hq, _ =>
          have hr := ready_depN hq rfl
          have hme : l4 = false := hr.1
          have hT : l8 = false := by
            cases hc9 : l8 with
            | false => rfl
            | true => exact absurd (h.all hc9).2.2.2.2.1 (by rw [hme]; decide)
          have hbel := h.bel hT
          clear hr hq
          refine wpOp_runN rfl rfl (fun K hK => ?_)
          go_simp
          refine hK _ _ ⟨l0, l1, l2, l3, true, l5, l6, l7, l8, _, _, _, _, _, _, _, _, rfl, rfl, ?_⟩
          exact { bel := h.bel, all := fun e => (by rw [hT] at e; cases e), fin := fun e => (by rw [hT] at e; cases e), d0 := h.d0, d1 := h.d1, d2 := h.d2, d3 := h.d3, d4 := fun _ => ⟨rfl, trivial⟩, d5 := fun e => absurd (h.d5 e).2 (by rw [hme]; decide), d6 := h.d6, d7 := fun e => absurd (h.d7 e).2.2.2.2.2.1 (by rw [hme]; decide) }
        | 5, hq, _ =>
          have hr := ready_depN hq rfl
          have hme : l5 = false := hr.1
          have e4 : l4 = true := hr.2 ⟨4, .data⟩ (by simp) (by kernel_rfl)
          have hT : l8 = false := by
            cases hc9 : l8 with
            | false => rfl
            | true => exact absurd (h.all hc9).2.2.2.2.2.1 (by rw [hme]; decide)
          have hbel := h.bel hT
          obtain rfl := (h.d4 e4).1
          have t3 := HTP.out w3 hbel
          obtain ⟨d0, d1⟩ := t3.cells
          have dh := t3.heap
          have dl := t3.lt
          clear hr hq
          refine wpOp_runN rfl rfl (fun K hK => ?_)
          go_simp
          refine hK _ _ ⟨l0, l1, l2, l3, l4, true, l6, l7, l8, _, _, _, _, _, _, _, _, rfl, rfl, ?_⟩
          exact { bel := h.bel, all := fun e => (by rw [hT] at e; cases e), fin := fun e => (by rw [hT] at e; cases e), d0 := h.d0, d1 := h.d1, d2 := h.d2, d3 := h.d3, d4 := h.d4, d5 := fun _ => ⟨rfl, e4⟩, d6 := fun e => absurd (h.d6 e).2.2 (by rw [hme]; decide), d7 := fun e => absurd (h.d7 e).2.2.2.2.2.2.1 (by rw [hme]; decide) }
        | 6, hq, _ =>
          have hr := ready_depN hq rfl
          have hme : l6 = false := hr.1
          have e3 : l3 = true := hr.2 ⟨3, .data⟩ (by simp) (by kernel_rfl)
          have e5 : l5 = true := hr.2 ⟨5, .data⟩ (by simp) (by kernel_rfl)
          have hT : l8 = false := by
            cases hc9 : l8 with
            | false => rfl
            | true => exact absurd (h.all hc9).2.2.2.2.2.2.1 (by rw [hme]; decide)
          have hbel := h.bel hT
          obtain rfl := (h.d5 e5).1
          clear hr hq
          refine wpOp_runN rfl rfl (fun K hK => ?_)
          have hF3 := (h.d3 e3).1 hT
          obtain ⟨lo3, hi3, hlo3, hfu3, hO3⟩ := hF3
          refine wp_append_off _ _ rfl wt.drew.heap.size lo3 hi3 N an _ _ xs ys rfl hfu3 hO3 HXN.out HN1.out hlo3 hbel.size rfl (HSRC.out w3 hbel) HYN.out (by omega) ?_
          intro v4 w4 hs4 hrw
          have hbel4 := hbel.trans (hs4.mono hbel.size)
          have hnew := hrw
          refine hK _ _ ⟨l0, l1, l2, l3, l4, l5, true, l7, l8, _, _, _, _, _, _, _, _, rfl, rfl, ?_⟩
          exact { bel := fun _ => hbel4, all := fun e => (by rw [hT] at e; cases e), fin := fun e => (by rw [hT] at e; cases e), d0 := h.d0, d1 := h.d1, d2 := h.d2, d3 := fun e => ⟨fun hx => ((h.d3 e).1 hx).below hs4, (h.d3 e).2⟩, d4 := h.d4, d5 := h.d5, d6 := fun _ => ⟨fun _ => hnew, e3, e5⟩, d7 := fun e => absurd (h.d7 e).2.2.2.2.2.2.2 (by rw [hme]; decide) }
        | 7, hq, _ =>
          have hr := ready_depN hq rfl
          have hme : l7 = false := hr.1
          have e0 : l0 = true := hr.2 ⟨0, .phase⟩ (by simp) (by kernel_rfl)
          have e1 : l1 = true := hr.2 ⟨1, .phase⟩ (by simp) (by kernel_rfl)
          have e2 : l2 = true := hr.2 ⟨2, .phase⟩ (by simp) (by kernel_rfl)
          have e3 : l3 = true := hr.2 ⟨3, .phase⟩ (by simp) (by kernel_rfl)
          have e4 : l4 = true := hr.2 ⟨4, .phase⟩ (by simp) (by kernel_rfl)
          have e5 : l5 = true := hr.2 ⟨5, .phase⟩ (by simp) (by kernel_rfl)
          have e6 : l6 = true := hr.2 ⟨6, .phase⟩ (by simp) (by kernel_rfl)
          have hT : l8 = false := by
            cases hc9 : l8 with
            | false => rfl
            | true => exact absurd (h.all hc9).2.2.2.2.2.2.2 (by rw [hme]; decide)
          have hbel := h.bel hT
          obtain rfl := (h.d0 e0).1
          obtain rfl := (h.d1 e1).1
          obtain rfl := (h.d2 e2).1
          obtain rfl := (h.d4 e4).1
          obtain rfl := (h.d5 e5).1
          clear hr hq
          refine wpOp_runN rfl rfl (fun K hK => ?_)
          go_simp
          refine hK _ _ ⟨l0, l1, l2, l3, l4, l5, l6, true, l8, _, _, _, _, _, _, _, _, rfl, rfl, ?_⟩
          exact { bel := h.bel, all := fun e => (by rw [hT] at e; cases e), fin := fun e => (by rw [hT] at e; cases e), d0 := h.d0, d1 := h.d1, d2 := h.d2, d3 := h.d3, d4 := h.d4, d5 := h.d5, d6 := h.d6, d7 := fun _ => ⟨rfl, e0, e1, e2, e3, e4, e5, e6⟩ }
        | 8, hq, _ =>
          have hr := ready_depN hq rfl
          have hme : l8 = false := hr.1
          have e0 : l0 = true := hr.2 ⟨0, .phase⟩ (by simp) (by kernel_rfl)
          have e1 : l1 = true := hr.2 ⟨1, .phase⟩ (by simp) (by kernel_rfl)
          have e2 : l2 = true := hr.2 ⟨2, .phase⟩ (by simp) (by kernel_rfl)
          have e3 : l3 = true := hr.2 ⟨3, .phase⟩ (by simp) (by kernel_rfl)
          have e4 : l4 = true := hr.2 ⟨4, .phase⟩ (by simp) (by kernel_rfl)
          have e5 : l5 = true := hr.2 ⟨5, .phase⟩ (by simp) (by kernel_rfl)
          have e6 : l6 = true := hr.2 ⟨6, .data⟩ (by simp) (by kernel_rfl)
          have e7 : l7 = true := hr.2 ⟨7, .data⟩ (by simp) (by kernel_rfl)
          have hbel := h.bel hme
          obtain rfl := (h.d0 e0).1
          obtain rfl := (h.d1 e1).1
          obtain rfl := (h.d2 e2).1
          obtain rfl := (h.d4 e4).1
          obtain rfl := (h.d5 e5).1
          obtain rfl := (h.d7 e7).1
          have t3 := HTP.out w3 hbel
          obtain ⟨d0, d1⟩ := t3.cells
          have dh := t3.heap
          have dl := t3.lt
          have df0 := t3.frozen 0
          have df1 := t3.frozen 1
          clear hr hq
          have hF3 := (h.d3 e3).1 hme
          have hF6 := (h.d6 e6).1 hme
          refine wpOp_runN rfl rfl (fun K hK => ?_)
          obtain ⟨u3a, u3n, u3c, rfl⟩ := hF6.shape
          go_simp
          refine hK _ _ ⟨l0, l1, l2, l3, l4, l5, l6, l7, true, _, _, _, _, _, _, _, _, rfl, rfl, ?_⟩
          exact { bel := fun e => (by cases e), all := fun _ => ⟨e0, e1, e2, e3, e4, e5, e6, e7⟩, fin := fun _ => ⟨w3, hbel, rfl, hF3, hF6⟩, d0 := h.d0, d1 := h.d1, d2 := h.d2, d3 := fun e => ⟨fun e9 => (by cases e9), (h.d3 e).2⟩, d4 := h.d4, d5 := h.d5, d6 := fun e => ⟨fun e9 => (by cases e9), (h.d6 e).2⟩, d7 := h.d7 }
        | k + 9, hq, h18 => exact (Nat.not_lt_of_le (Nat.le_add_left 9 k) h18).elim
      case done =>
        rintro lb9 ac9 w3 ⟨l0, l1, l2, l3, l4, l5, l6, l7, l8, s0, s1, s2, s3, s4, s5, s6, s7, rfl, rfl, h⟩ hr
        cases l0
        · exact (ready_none2N hr 0 rfl rfl rfl).elim
        cases l1
        · exact (ready_none2N hr 1 rfl rfl rfl).elim
        cases l2
        · exact (ready_none2N hr 2 rfl rfl rfl).elim
        cases l3
        · exact (ready_none2N hr 3 rfl rfl rfl).elim
        cases l4
        · exact (ready_none2N hr 4 rfl rfl rfl).elim
        cases l5
        · exact (ready_none2N hr 5 rfl rfl rfl).elim
        cases l6
        · exact (ready_none2N hr 6 rfl rfl rfl).elim
        cases l7
        · exact (ready_none2N hr 7 rfl rfl rfl).elim
        cases l8
        · exact (ready_none2N hr 8 rfl rfl rfl).elim
        obtain rfl := (h.d0 rfl).1
        obtain rfl := (h.d1 rfl).1
        obtain rfl := (h.d2 rfl).1
        obtain rfl := (h.d4 rfl).1
        obtain rfl := (h.d5 rfl).1
        obtain rfl := (h.d7 rfl).1
        obtain ⟨w4, hbel, rfl, hF3, hF6⟩ := h.fin rfl
        clear h hr
        obtain ⟨u3a, u3n, u3c, rfl⟩ := hF6.shape
        have hsz4 := hbel.size
        change wt.heap.size ≤ w4.heap.size at hsz4
        obtain ⟨lo6, hi6, hlo6, hO6⟩ := hF6
        change wt.heap.size ≤ lo6 at hlo6
        have hb24 := HQ2.out w4 hbel
        have hA5 : OwnOI (w4.setCell ⟨w2.heap.size, 0, none⟩ (.slice u3a u3n u3c)) lo6 hi6 (.slice u3a u3n u3c) (xs ++ ys) := OffIn.set hO6 (Or.inl (by omega))
        have hZ4 : OwnOI w4 w1.heap.size w2.heap.size (.slice ba bn bc) zs := OffIn.belowR HO2.out hb24 (Nat.le_refl _)
        have hZ5 : OwnOI (w4.setCell ⟨w2.heap.size, 0, none⟩ (.slice u3a u3n u3c)) w1.heap.size w2.heap.size (.slice ba bn bc) zs := OffIn.set hZ4 (Or.inr (Nat.le_refl _))
        have HO5 : Hid (OwnLa (w4.setCell ⟨w2.heap.size, 0, none⟩ (.slice u3a u3n u3c)) w1.heap.size (w4.setCell ⟨w2.heap.size, 0, none⟩ (.slice u3a u3n u3c)).heap.size (.agg #[.slice u3a u3n u3c, .slice ba bn bc]) (xs ++ ys, zs)) := ⟨_, _, rfl, OffIn.weak hA5 (by omega) hA5.1 (Nat.le_refl _), OffIn.weak hZ5 (Nat.le_refl _) hZ5.1 (Nat.le_refl _), ap3_symm (ap3_of hZ5 hA5 (Or.inl (by omega)))⟩
        have HT5 : Hid (Box2 (w4.setCell ⟨w2.heap.size, 0, none⟩ (.slice u3a u3n u3c)) w2.heap.size 26 (.slice u3a u3n u3c) (.slice ba bn bc)) := (HTP.out w4 hbel).set0 _
        have HY5 : Hid (Box2 (w4.setCell ⟨w2.heap.size, 0, none⟩ (.slice u3a u3n u3c)) (w.heap.size + 1) 26 (.slice none 0 0) (.slice none 0 0)) := (HYP.out w4 hbel).other (by omega) _
        have HB5 : Hid (Below w.heap.size w (w4.setCell ⟨w2.heap.size, 0, none⟩ (.slice u3a u3n u3c))) := (HBW.out w4 hbel).setCell (by show w.heap.size ≤ w2.heap.size; omega) _
        have hz5 : (w4.setCell ⟨w2.heap.size, 0, none⟩ (.slice u3a u3n u3c)).heap.size = w4.heap.size := size_set _ _ _ _
        have g3 := HM.out _ (.agg #[.slice u3a u3n u3c, .slice ba bn bc]) HB5.out (HO5.out.reads HLOK.out)
        clear hO6 hA5 hZ4 hZ5 hF3 hbel hb24
        generalize w4.setCell ⟨w2.heap.size, 0, none⟩ (.slice u3a u3n u3c) = w5 at *
        have HT5' := HT5.out
        obtain ⟨d0, d1⟩ := HT5'.cells
        have dh := HT5'.heap
        have dl := HT5'.lt
        clear HT5'
        go_wp2_with fail
        refine g3.mono ?_
        rintro e w6 ⟨rfl, hs⟩
        have HB6 : Hid (Below w.heap.size w w6) := HB5.out.trans (hs.mono (by omega))
        have y6 := HY5.out.below hs (by omega)
        have HO6 : Hid (OwnLa w6 w1.heap.size w6.heap.size (.agg #[.slice u3a u3n u3c, .slice ba bn bc]) (xs ++ ys, zs)) := (HO5.out.same hs.size (fun i _ h9 => hs.block i h9)).weak (Nat.le_refl _) hs.size (Nat.le_refl _)
        clear g3 hs d0 d1 dh dl HT5 HY5 HO5
        cases CB with
        | false =>
          have HZO : Hid (OwnLa ((w6.setCell ⟨w.heap.size + 1, 0, none⟩ (.slice none 0 0)).setCell ⟨w.heap.size + 1, 1, none⟩ (.slice none 0 0)) w.heap.size ((w6.setCell ⟨w.heap.size + 1, 0, none⟩ (.slice none 0 0)).setCell ⟨w.heap.size + 1, 1, none⟩ (.slice none 0 0)).heap.size (.agg #[.slice none 0 0, .slice none 0 0]) ([], [])) := ownLa_nil _ _
          obtain ⟨k0, k1⟩ := y6.cells
          have kh := y6.heap
          have kl := y6.lt
          have kf0 := y6.frozen 0
          have kf1 := y6.frozen 1
          have y9 := (y6.set0 (.slice none 0 0)).set1 (.slice none 0 0)
          have hyh := y9.heap
          have HBE : Hid (Below w.heap.size w ((w6.setCell ⟨w.heap.size + 1, 0, none⟩ (.slice none 0 0)).setCell ⟨w.heap.size + 1, 1, none⟩ (.slice none 0 0))) := (HB6.out.setCell (by show w.heap.size ≤ w.heap.size + 1; omega) _).setCell (by show w.heap.size ≤ w.heap.size + 1; omega) _
          clear y9 y6
          go_wp2_with fail
          refine bodyPost_ret (results_la rfl _ _ (w.heap.size + 1) 26 _ (0, 0) _ rfl hyh Try.underlying26 rfl (by kernel_rfl)) rfl ?_
          exact ⟨_, rfl, HZO.out, HBE.out⟩
        | true =>
          obtain ⟨k0, k1⟩ := y6.cells
          have kh := y6.heap
          have kl := y6.lt
          have kf0 := y6.frozen 0
          have kf1 := y6.frozen 1
          have y9 := (y6.set0 (.slice u3a u3n u3c)).set1 (.slice ba bn bc)
          have hyh := y9.heap
          have HOL : Hid (OwnLa ((w6.setCell ⟨w.heap.size + 1, 0, none⟩ (.slice u3a u3n u3c)).setCell ⟨w.heap.size + 1, 1, none⟩ (.slice ba bn bc)) w.heap.size ((w6.setCell ⟨w.heap.size + 1, 0, none⟩ (.slice u3a u3n u3c)).setCell ⟨w.heap.size + 1, 1, none⟩ (.slice ba bn bc)).heap.size (.agg #[.slice u3a u3n u3c, .slice ba bn bc]) (xs ++ ys, zs)) := ((HO6.out.setO (b := w.heap.size + 1) (o := 0) (x := .slice u3a u3n u3c) (Or.inl (by omega))).setO (b := w.heap.size + 1) (o := 1) (x := .slice ba bn bc) (Or.inl (by omega))).weak (by omega) (by rw [size_set, size_set]; exact Nat.le_refl _) (Nat.le_refl _)
          have HBE : Hid (Below w.heap.size w ((w6.setCell ⟨w.heap.size + 1, 0, none⟩ (.slice u3a u3n u3c)).setCell ⟨w.heap.size + 1, 1, none⟩ (.slice ba bn bc))) := (HB6.out.setCell (by show w.heap.size ≤ w.heap.size + 1; omega) _).setCell (by show w.heap.size ≤ w.heap.size + 1; omega) _
          clear y9 y6
          go_wp2_with fail
          refine bodyPost_ret (results_la rfl _ _ (w.heap.size + 1) 26 _ (0, 0) _ rfl hyh Try.underlying26 rfl (by kernel_rfl)) rfl ?_
          exact ⟨_, rfl, HOL.out, HBE.out⟩
end Go.Proofs.Ythamdefkcjfjpaa

namespace Go.Proofs.Ythamdefkcjfjpaa
open Go Go.RowKit
open M
set_option linter.unusedVariables false

set_option maxRecDepth 100000 in
set_option maxHeartbeats 2000000 in
theorem equalI_any (u v : Value) (a b : List Int) (w : World) (h : IntsAt w u a) (h' : IntsAt w v b) :
    Calls Try.prog 46 #[u, v] w fun e w' => e = .returned (.bool (decide (a = b))) ∧ Below w.heap.size w w' := by
  have hla := h.1
  have hlb := h'.1
  obtain ⟨ua, uc, rfl, hu⟩ := h.opened
  obtain ⟨va, vc, rfl, hv⟩ := h'.opened
  clear h h'
  by_cases hl : a.length = b.length
  case neg =>
    have hne : decide (a = b) = false := decide_eq_false (fun e => hl (by rw [e]))
    rw [hne]
    clear hne hu hv
    generalize a.length = n at *
    generalize b.length = m at *
    go_enter Try.func46, Try.ntmps46
    go_wp2_with fail
    go_ret
    exact ⟨rfl, Below.refl _ _⟩
  rw [← hl] at hlb ⊢
  have HL : Hid (a.length = b.length) := hl
  clear hl
  have HB0 : Hid (Below w.heap.size w w) := Below.refl _ _
  go_enter Try.func46, Try.ntmps46
  go_wp2_with fail
  go_loopw [13] (fun i wr => ∃ j : Nat, j ≤ a.length ∧ i = .int .i64 j ∧ Hid (∀ i, i < j → a[i]? = b[i]?) ∧ Hid (Below w.heap.size w wr)) (fun i _ => a.length - (intOf i).toNat)
  case atStart => exact ⟨0, by omega, rfl, fun i hi => by omega, HB0⟩
  case round =>
    obtain ⟨j, hj, rfl, HN, HB⟩ := hrel
    clear HB0
    by_cases hlt : j < a.length
    · obtain ⟨x, hx⟩ : ∃ x, a[j]? = some x := ⟨_, List.getElem?_eq_getElem hlt⟩
      obtain ⟨y, hy⟩ : ∃ y, b[j]? = some y := ⟨_, List.getElem?_eq_getElem (by have := HL.out; omega)⟩
      obtain ⟨p, off, rfl, hp, c0⟩ := hu j x hx
      obtain ⟨q, of2, rfl, hq, d0⟩ := hv j y hy
      rw [← HB.out.cell (p := ⟨p, off + j, none⟩) hp] at c0
      rw [← HB.out.cell (p := ⟨q, of2 + j, none⟩) hq] at d0
      have HX : Hid (a[j]? = some x) := hx
      have HY : Hid (b[j]? = some y) := hy
      have HBD : Hid (∀ n, Below w.heap.size w (wr.drewN n)) := fun n => below_drewN HB.out n
      clear hu hv hx hy hp hq
      by_cases hxy : x = y
      · subst hxy
        have HN2 : Hid (∀ i, i < j + 1 → a[i]? = b[i]?) := fun i hi => by
          by_cases e : i = j
          · rw [e, HX.out, HY.out]
          · exact HN.out i (by omega)
        clear HN HX HY
        go_wp2_with fail
        go_quiet (fail)
        go_wp2_with fail
        go_roundw
        case rel => exact ⟨j + 1, by omega, by go_num, HN2, HBD.out _⟩
        case measure => simp [intOf]; omega
      · have HNE : Hid (decide (a = b) = false) := decide_eq_false (fun e => by
          have h1 := HX.out
          rw [e, HY.out] at h1
          exact hxy (Option.some.inj h1).symm)
        have hb1 : decide (x = y) = false := decide_eq_false hxy
        clear HN HX HY
        go_wp2_with fail
        go_quiet (fail)
        go_wp2_with fail
        go_ret
        exact ⟨ret_bool HNE.out.symm, HBD.out _⟩
    · obtain rfl : j = a.length := by omega
      have HEQ : Hid (decide (a = b) = true) := decide_eq_true (ext_at HL.out HN.out)
      clear HN hu hv
      go_wp2_with fail
      go_ret
      exact ⟨ret_bool HEQ.out.symm, HB.out⟩
set_option maxRecDepth 100000 in
set_option maxHeartbeats 2000000 in
theorem l1SameI_any (u v : Value) (a b : List Int) (w : World) (h : IntsAt w u a) (h' : IntsAt w v b) :
    Calls Try.prog 70 #[u, v] w fun e w' => e = .returned (.bool (decide (a = b))) ∧ Below w.heap.size w w' := by
  have hla := h.1
  have hlb := h'.1
  obtain ⟨ua, uc, rfl, hu⟩ := h.opened
  obtain ⟨va, vc, rfl, hv⟩ := h'.opened
  clear h h'
  by_cases hl : a.length = b.length
  case neg =>
    have hne : decide (a = b) = false := decide_eq_false (fun e => hl (by rw [e]))
    rw [hne]
    clear hne hu hv
    generalize a.length = n at *
    generalize b.length = m at *
    go_enter Try.func70, Try.ntmps70
    go_wp2_with fail
    go_ret
    exact ⟨rfl, Below.refl _ _⟩
  rw [← hl] at hlb ⊢
  have HL : Hid (a.length = b.length) := hl
  clear hl
  have HB0 : Hid (Below w.heap.size w w) := Below.refl _ _
  go_enter Try.func70, Try.ntmps70
  go_wp2_with fail
  go_loopw [13] (fun i wr => ∃ j : Nat, j ≤ a.length ∧ i = .int .i64 j ∧ Hid (∀ i, i < j → a[i]? = b[i]?) ∧ Hid (Below w.heap.size w wr)) (fun i _ => a.length - (intOf i).toNat)
  case atStart => exact ⟨0, by omega, rfl, fun i hi => by omega, HB0⟩
  case round =>
    obtain ⟨j, hj, rfl, HN, HB⟩ := hrel
    clear HB0
    by_cases hlt : j < a.length
    · obtain ⟨x, hx⟩ : ∃ x, a[j]? = some x := ⟨_, List.getElem?_eq_getElem hlt⟩
      obtain ⟨y, hy⟩ : ∃ y, b[j]? = some y := ⟨_, List.getElem?_eq_getElem (by have := HL.out; omega)⟩
      obtain ⟨p, off, rfl, hp, c0⟩ := hu j x hx
      obtain ⟨q, of2, rfl, hq, d0⟩ := hv j y hy
      rw [← HB.out.cell (p := ⟨p, off + j, none⟩) hp] at c0
      rw [← HB.out.cell (p := ⟨q, of2 + j, none⟩) hq] at d0
      have HX : Hid (a[j]? = some x) := hx
      have HY : Hid (b[j]? = some y) := hy
      have HBD : Hid (∀ n, Below w.heap.size w (wr.drewN n)) := fun n => below_drewN HB.out n
      clear hu hv hx hy hp hq
      by_cases hxy : x = y
      · subst hxy
        have HN2 : Hid (∀ i, i < j + 1 → a[i]? = b[i]?) := fun i hi => by
          by_cases e : i = j
          · rw [e, HX.out, HY.out]
          · exact HN.out i (by omega)
        clear HN HX HY
        go_wp2_with fail
        go_quiet (fail)
        go_wp2_with fail
        go_roundw
        case rel => exact ⟨j + 1, by omega, by go_num, HN2, HBD.out _⟩
        case measure => simp [intOf]; omega
      · have HNE : Hid (decide (a = b) = false) := decide_eq_false (fun e => by
          have h1 := HX.out
          rw [e, HY.out] at h1
          exact hxy (Option.some.inj h1).symm)
        have hb1 : decide (x = y) = false := decide_eq_false hxy
        clear HN HX HY
        go_wp2_with fail
        go_quiet (fail)
        go_wp2_with fail
        go_ret
        exact ⟨ret_bool HNE.out.symm, HBD.out _⟩
    · obtain rfl : j = a.length := by omega
      have HEQ : Hid (decide (a = b) = true) := decide_eq_true (ext_at HL.out HN.out)
      clear HN hu hv
      go_wp2_with fail
      go_ret
      exact ⟨ret_bool HEQ.out.symm, HB.out⟩
end Go.Proofs.Ythamdefkcjfjpaa

namespace Go.Proofs.Ythamdefkcjfjpaa
open Go Go.RowKit
open Go.Sort
open M
set_option linter.unusedVariables false
set_option linter.unusedSimpArgs false

/-- the slice of a list from a place on, and up to a place -/
theorem ints_cutfrom {w : World} {b off cap r : Nat} {t : List Int} (hr : r ≤ t.length) (h : IntsAt w (.slice (some ⟨b, off, none⟩) t.length cap) t) :
    IntsAt w (.slice (if cap = r then some (⟨b, off, none⟩ : Addr) else some ⟨b, off + r, none⟩) (t.length - r) (cap - r)) (t.drop r) ∨ cap = r ∧ r < t.length := by
  by_cases e : cap = r
  · by_cases e2 : r = t.length
    · refine Or.inl ⟨by rw [List.length_drop]; have := h.1; omega, Or.inl ⟨List.length_eq_zero_iff.1 (by rw [List.length_drop]; omega), _, _, by rw [e2, Nat.sub_self]⟩⟩
    · exact Or.inr ⟨e, by omega⟩
  · rw [if_neg e]
    refine Or.inl ⟨by rw [List.length_drop]; have := h.1; omega, ?_⟩
    rcases h.2 with ⟨h1, _⟩ | ⟨b', off', cap', hv, hlt, hc'⟩
    · exact Or.inl ⟨by rw [h1]; simp, _, _, by rw [show t.length - r = 0 from by rw [h1]; simp]⟩
    · injection hv with e1
      injection e1 with e1
      injection e1 with e1 e2
      subst e1 e2
      refine Or.inr ⟨b, off + r, cap - r, by rw [List.length_drop], hlt, fun i x hx => ?_⟩
      rw [List.getElem?_drop] at hx
      rw [Nat.add_assoc]
      exact hc' _ x hx
theorem ints_cutupto {w : World} {b off cap k : Nat} {t : List Int} (hk : k ≤ t.length) (h : IntsAt w (.slice (some ⟨b, off, none⟩) t.length cap) t) : IntsAt w (.slice (some ⟨b, off, none⟩) k cap) (t.take k) := by
  have hl : (t.take k).length = k := List.length_take_of_le hk
  refine ⟨by rw [hl]; have := h.1; omega, ?_⟩
  rcases h.2 with ⟨h1, _⟩ | ⟨b', off', cap', hv, hlt, hc'⟩
  · subst h1
    have : k = 0 := by simpa using hk
    subst this
    exact Or.inl ⟨rfl, _, _, rfl⟩
  · injection hv with e1
    injection e1 with e1
    injection e1 with e1 e2
    subst e1 e2
    refine Or.inr ⟨b, off, cap, by rw [hl], hlt, fun i x hx => ?_⟩
    have hi : i < k := by
      have := (List.getElem?_eq_some_iff.1 hx).1
      omega
    rw [List.getElem?_take_of_lt hi] at hx
    exact hc' i x hx
theorem isRound_def (l : La) (r : Nat) : isRound l r = (decide (l.2.length % r = 0) && decide (l.2.drop r = l.2.take (l.2.length - r))) := rfl
set_option maxRecDepth 100000 in
set_option maxHeartbeats 800000 in
theorem leastRound_any (v : Value) (l : La) (hg : goodLa l = true) (w : World) (h : AtLS w v l) :
    Calls Try.prog 49 #[v] w fun e w' => e = .returned (.int .i64 (roundL l)) ∧ Below w.heap.size w w' := by
  obtain ⟨q1, q2, q3⟩ := good_lens hg
  obtain ⟨g, o, rfl, h1, h2, _, h4⟩ := h
  obtain ⟨ga, gc, rfl⟩ := h1.shape
  obtain ⟨a', n', oc, e, _, _, hcap⟩ := h4
  rcases h2.2 with ⟨hz, _⟩ | ⟨b, off, oc', e', hlt, hcell⟩
  · rw [hz] at q2
    simp at q2
  rw [e'] at e
  injection e with e3 e4 e5
  subst e3 e4 e5 e'
  have HSUB : Hid (∀ r K : Nat, r ≤ l.2.length → l.2.length - r = K → ∀ w1 : World, Below w.heap.size w w1 → Calls Try.prog 46 #[.slice (if oc' = r then some (⟨b, off, none⟩ : Addr) else some ⟨b, off + r, none⟩) K (oc' - r), .slice (some ⟨b, off, none⟩) K oc'] w1 fun e w' => e = .returned (.bool (decide (l.2.drop r = l.2.take K))) ∧ Below w1.heap.size w1 w') := fun r K hr hK w1 hb => by
    subst hK
    have k1 : IntsAt w1 (.slice (if oc' = r then some (⟨b, off, none⟩ : Addr) else some ⟨b, off + r, none⟩) (l.2.length - r) (oc' - r)) (l.2.drop r) := by
      rcases ints_cutfrom hr (h2.below hb) with h9 | ⟨h9, h10⟩
      · exact h9
      · omega
    exact equalI_any _ _ _ _ w1 k1 (ints_cutupto (by omega) (h2.below hb))
  have HIS : Hid (∀ q : Nat, isRound l q = (decide (l.2.length % q = 0) && decide (l.2.drop q = l.2.take (l.2.length - q)))) := fun q => rfl
  have HEND : Hid (∀ r : Nat, 1 ≤ r → r ≤ l.2.length → isRound l r = true → (∀ q, 1 ≤ q → q < r → isRound l q = false) → roundL l = r) := fun r h1 h2 h3 h4 => findN_is (isRound l) (l.2.length - 1) 1 r h1 (by omega) h3 h4
  have HLAST : Hid (isRound l l.2.length = true) := isRound_len q2
  have HB0 : Hid (Below w.heap.size w (w.alloc (.cells #[.slice ga l.1.length gc, .slice (some ⟨b, off, none⟩) l.2.length oc'] 26))) := (Below.refl _ _).alloc (Nat.le_refl _) _
  have x0 := box2_alloc w 26 (.slice ga l.1.length gc) (.slice (some ⟨b, off, none⟩) l.2.length oc')
  have hw0z : (w.alloc (.cells #[.slice ga l.1.length gc, .slice (some ⟨b, off, none⟩) l.2.length oc'] 26)).heap.size = w.heap.size + 1 := World.size_alloc _ _
  have HXP : Hid (∀ w3, Below (w.heap.size + 1) (w.alloc (.cells #[.slice ga l.1.length gc, .slice (some ⟨b, off, none⟩) l.2.length oc'] 26)) w3 → Box2 w3 w.heap.size 26 (.slice ga l.1.length gc) (.slice (some ⟨b, off, none⟩) l.2.length oc')) := fun w3 hb3 => x0.below hb3 (by omega)
  have HBX0 : Hid (Below (w.heap.size + 1) (w.alloc (.cells #[.slice ga l.1.length gc, .slice (some ⟨b, off, none⟩) l.2.length oc'] 26)) (w.alloc (.cells #[.slice ga l.1.length gc, .slice (some ⟨b, off, none⟩) l.2.length oc'] 26))) := Below.refl _ _
  have HX0 : Hid _ := x0
  obtain ⟨a0, a1⟩ := x0.cells
  have ah := x0.heap
  have al := x0.lt
  generalize roundL l = RL at *
  generalize isRound l = IR at *
  generalize l.2.drop = DR at *
  generalize l.2.take = TK at *
  generalize l.1.length = gn at *
  generalize l.2.length = on at *
  clear h1 h2 hg x0 hcell
  go_enter Try.func49, Try.ntmps49
  go_wp2_with fail
  clear a0 a1 ah al
  generalize w.alloc (.cells #[.slice ga gn gc, .slice (some ⟨b, off, none⟩) on oc'] 26) = w0 at *
  go_loopw [4] (fun i wr => ∃ r : Nat, 1 ≤ r ∧ r ≤ on ∧ i = .int .i64 r ∧ Hid (∀ q, 1 ≤ q → q < r → IR q = false) ∧ Hid (Below w.heap.size w wr) ∧ Hid (Below (w.heap.size + 1) w0 wr)) (fun i _ => on - (intOf i).toNat)
  case atStart => exact ⟨1, Nat.le_refl _, q2, rfl, fun q h1 h2 => by omega, HB0, HBX0⟩
  case round =>
    obtain ⟨r, hr1, hr2, rfl, HN, HB, HBX⟩ := hrel
    clear HB0 HBX0 HX0
    have x1 := HXP.out _ HBX.out
    obtain ⟨c0, c1⟩ := x1.cells
    have k0 := cell_regrown c0
    have k1 := cell_regrown c1
    have hh : ∀ d os', (Sort.grow (redrawn wr d) os').heap[w.heap.size]? = some (.cells #[.slice ga gn gc, .slice (some ⟨b, off, none⟩) on oc'] 26 (0, 0)) := fun d os' => (x1.below (below_regrown wr d os') x1.lt).heap
    have HSZ : Hid (w.heap.size + 1 ≤ wr.heap.size) := by
      show _ ≤ _
      have := HBX.out.size
      omega
    have hmod : (on : Int).tmod (r : Int) = ((on % r : Nat) : Int) := rfl
    have hmlt := Nat.mod_lt on (show 0 < r by omega)
    have hIS := HIS.out r
    have HIR := HLAST.out
    generalize hRR : on % r = R at *
    have HRR : Hid _ := hRR
    clear hRR x1
    by_cases hR0 : R = 0
    · subst hR0
      rw [decide_eq_true rfl, Bool.true_and] at hIS
      obtain ⟨K, hK⟩ : ∃ K, on - r = K := ⟨_, rfl⟩
      have hKi : (on : Int) - (r : Int) = (K : Int) := by omega
      have hKw : IntKind.i64.wrap ((on : Int) - (r : Int)) = (K : Int) := by rw [hKi]; exact IntWalk.i64_in _ ⟨by omega, by omega⟩
      have hKw2 : IntKind.i64.wrap (K : Int) = (K : Int) := IntWalk.i64_in _ ⟨by omega, by omega⟩
      have hKon : K ≤ on := by omega
      have hKoc : K ≤ oc' := by omega
      have hroc : r ≤ oc' := by omega
      obtain ⟨asl, hasl⟩ : ∃ asl, (if oc' = r then some (⟨b, off, none⟩ : Addr) else some ⟨b, off + r, none⟩) = asl := ⟨_, rfl⟩
      have cC := HSUB.out r K hr2 hK
      rw [hasl] at cC
      rw [hK] at hIS
      rw [← hIS] at cC
      have cC2 : ∀ d os', Calls Try.prog 46 #[.slice asl K (oc' - r), .slice (some ⟨b, off, none⟩) K oc'] (Sort.grow (redrawn wr d) os') fun e w'' => e = .returned (.bool (IR r)) ∧ ∃ p : Regrown, w'' = Sort.grow (redrawn wr p.d) p.os := fun d os' => Calls.regrown_of (cC _ (HB.out.trans ((below_regrown wr d os').mono HB.out.size)))
      have HIR2 : Hid _ := hIS
      clear cC hIS HSUB HIS hmlt
      rcases Bool.eq_false_or_eq_true (IR r) with hir | hir
      · rw [hir] at cC2
        have HE : Hid (RL = r) := HEND.out r hr1 hr2 hir HN.out
        clear hir HEND HLAST HIR HN
        go_wp2_with fail
        refine wp_region_quiet_below (by kernel_rfl) (by kernel_rfl) ?_
        repeat (go_big_quiet_step (exact cC2 _ _))
        refine wpQuiet_nil ?_
        intro _ hw'
        obtain ⟨⟨dq, osq⟩, hw''⟩ := hw'
        subst hw''
        have HBQ : Hid (Below w.heap.size w (Sort.grow (redrawn wr dq) osq)) := HB.out.trans ((below_regrown wr dq osq).mono HB.out.size)
        clear HB
        go_wp2_with fail
        go_ret
        exact ⟨ret_int (by rw [HE.out]), HBQ.out⟩
      · rw [hir] at cC2
        have HN2 : Hid (∀ q, 1 ≤ q → q < r + 1 → IR q = false) := fun q h1 h2 => by
          by_cases e : q = r
          · rw [e]; exact hir
          · exact HN.out q h1 (by omega)
        have HNE : Hid (r ≠ on) := fun e => by rw [e] at hir; rw [hir] at HIR; cases HIR
        clear hir HEND HLAST HIR HN
        go_wp2_with fail
        refine wp_region_quiet_below (by kernel_rfl) (by kernel_rfl) ?_
        repeat (go_big_quiet_step (exact cC2 _ _))
        refine wpQuiet_nil ?_
        intro _ hw'
        obtain ⟨⟨dq, osq⟩, hw''⟩ := hw'
        subst hw''
        have HBQ : Hid (Below w.heap.size w (Sort.grow (redrawn wr dq) osq)) := HB.out.trans ((below_regrown wr dq osq).mono HB.out.size)
        have HBXQ : Hid (Below (w.heap.size + 1) w0 (Sort.grow (redrawn wr dq) osq)) := HBX.out.trans ((below_regrown wr dq osq).mono HSZ.out)
        clear HB HBX k0 k1 hh c0 c1
        go_wp2_with fail
        go_roundw
        case rel => exact ⟨r + 1, by omega, by have := HNE.out; omega, by go_num, HN2, HBQ, HBXQ⟩
        case measure => have := HNE.out; simp [intOf]; omega
    · have hir : IR r = false := by rw [hIS, decide_eq_false hR0, Bool.false_and]
      have HN2 : Hid (∀ q, 1 ≤ q → q < r + 1 → IR q = false) := fun q h1 h2 => by
        by_cases e : q = r
        · rw [e]; exact hir
        · exact HN.out q h1 (by omega)
      have HNE : Hid (r ≠ on) := fun e => by rw [e] at hir; rw [hir] at HIR; cases HIR
      have hR1 : ¬ ((R : Int) = 0) := by omega
      have hRd : decide ((R : Int) = 0) = false := decide_eq_false hR1
      have hRb : ((R : Int) == 0) = false := beq_eq_false_iff_ne.2 hR1
      have hRn : ((R : Int) != 0) = true := bne_iff_ne.2 hR1
      clear hir HEND HLAST HIR HN hIS HSUB HIS
      go_wp2_with fail
      refine wp_region_quiet_below (by kernel_rfl) (by kernel_rfl) ?_
      repeat (go_big_quiet_step (fail))
      refine wpQuiet_nil ?_
      intro _ hw'
      obtain ⟨⟨dq, osq⟩, hw''⟩ := hw'
      subst hw''
      have HBQ : Hid (Below w.heap.size w (Sort.grow (redrawn wr dq) osq)) := HB.out.trans ((below_regrown wr dq osq).mono HB.out.size)
      have HBXQ : Hid (Below (w.heap.size + 1) w0 (Sort.grow (redrawn wr dq) osq)) := HBX.out.trans ((below_regrown wr dq osq).mono HSZ.out)
      clear HB HBX k0 k1 hh c0 c1
      go_wp2_with fail
      go_roundw
      case rel => exact ⟨r + 1, by omega, by have := HNE.out; omega, by go_num, HN2, HBQ, HBXQ⟩
      case measure => have := HNE.out; simp [intOf]; omega
end Go.Proofs.Ythamdefkcjfjpaa
