/-
  The program's letter and between: letters of a word, and letters cut out of it.
-/
import Derived.Test.YthamdefkcjfjpaaSLasso
import Derived.Laws.CopyOwn
import Derived.Deep.RegionLaw
namespace Go.Proofs.Ythamdefkcjfjpaa
open Go Go.RowKit
open M
set_option linter.unusedVariables false
set_option linter.unusedSimpArgs false

set_option maxRecDepth 100000 in
set_option maxHeartbeats 2000000 in
theorem letter_any (v : Value) (l : La) (hg : goodLa l = true) (k : Nat) (hk : k ≤ 2000) (w : World) (h : AtLa w v l) :
    Calls Try.prog 63 #[v, .int .i64 k] w fun e w' => e = .returned (.int .i64 (letL l k)) ∧ Below w.heap.size w w' := by
  obtain ⟨g, o, rfl, h1, h2⟩ := h
  obtain ⟨q1, q2, q3⟩ := good_lens hg
  obtain ⟨ga, gc, rfl, hc1⟩ := h1.opened
  obtain ⟨oa, oc, rfl, hc2⟩ := h2.opened
  have HB0 : Hid (Below w.heap.size w (w.alloc (.cells #[.slice ga l.1.length gc, .slice oa l.2.length oc] 26))) := (Below.refl _ _).alloc (Nat.le_refl _) _
  have x0 := box2_alloc w 26 (.slice ga l.1.length gc) (.slice oa l.2.length oc)
  by_cases hlt : k < l.1.length
  · obtain ⟨b, off, rfl, hb, cc⟩ := hc1 k _ (let_stem_at hlt)
    have cc1 := cc
    rw [← HB0.out.cell (p := ⟨b, off + k, none⟩) hb] at cc1
    generalize letL l k = X at *
    generalize l.1.length = n1 at *
    generalize l.2.length = n2 at *
    obtain ⟨a0, a1⟩ := x0.cells
    have ah := x0.heap
    have al := x0.lt
    clear hc1 hc2 h1 h2 hg cc x0
    go_enter Try.func63, Try.ntmps63
    go_wp2_with fail
    go_ret
    exact ⟨rfl, HB0.out⟩
  · obtain ⟨b, off, rfl, hb, cc⟩ := hc2 _ _ (let_loop_at q2 (by omega : l.1.length ≤ k))
    have cc1 := cc
    rw [← HB0.out.cell (p := ⟨b, off + (k - l.1.length) % l.2.length, none⟩) hb] at cc1
    have hmod := int_mod k l.1.length l.2.length (by omega)
    have hml := Nat.mod_lt (k - l.1.length) (show 0 < l.2.length by omega)
    generalize letL l k = X at *
    generalize l.1.length = n1 at *
    generalize l.2.length = n2 at *
    generalize (k - n1) % n2 = R at *
    obtain ⟨a0, a1⟩ := x0.cells
    have ah := x0.heap
    have al := x0.lt
    clear hc1 hc2 h1 h2 hg cc x0
    go_enter Try.func63, Try.ntmps63
    go_wp2_with fail
    go_quiet (fail)
    go_wp2_with fail
    go_ret
    exact ⟨rfl, below_drewN HB0.out _⟩
/-- the word so far, and behind it noughts -/
def part9 (l : La) (S j : Nat) : List Value := cellsI (unrL l 0 j) ++ List.replicate (S - j) (.int .i64 0)
theorem part9_len (l : La) (S j : Nat) (h : j ≤ S) : (part9 l S j).length = S := by
  unfold part9
  rw [List.length_append, cellsI_len, unrL_len, List.length_replicate]
  omega
theorem part9_copy (l : La) (S j : Nat) (xs : List Int) (hx : unrL l j xs.length = xs) (h : j + xs.length ≤ S) : splice (part9 l S j) j (cellsI xs) = part9 l S (j + xs.length) := by
  have hl : (cellsI (unrL l 0 j)).length = j := by rw [cellsI_len, unrL_len]
  unfold splice part9
  rw [List.take_append_of_le_length (by omega), List.take_of_length_le (by omega), unrL_append, Nat.zero_add, hx]
  rw [cellsI_len, List.drop_append, hl, List.drop_of_length_le (by omega), List.nil_append, List.drop_replicate]
  unfold cellsI
  rw [List.map_append, List.append_assoc]
  congr 2
  congr 1
  omega
theorem loop_at (l : La) (r : Nat) : unrL l (l.1.length + r * l.2.length) l.2.length = l.2 := by
  refine ext_at (unrL_len _ _ _) fun i hi => ?_
  rw [unrL_len] at hi
  have h1 := unrL_loop l
  have h2 := congrArg (fun x : List Int => x[i]?) h1
  simp only [unrL_at _ _ _ _ hi] at h2
  rw [unrL_at _ _ _ _ hi, ← h2]
  congr 1
  rw [show l.1.length + r * l.2.length + i = (l.1.length + i) + r * l.2.length from by omega]
  exact (per_loop l).times r _ (by omega)
theorem src_pos {w w1 : World} {a : Option Addr} {t : List Int} (hc : ∀ (i : Nat) (x : Int), t[i]? = some x → ∃ b off : Nat, a = some ⟨b, off, none⟩ ∧ b < w.heap.size ∧ w.cell? ⟨b, off + i, none⟩ = some (.int .i64 x)) (hb : Below w.heap.size w w1) :
    0 < (cellsI t).length → ∃ ad, a = some ad ∧ ∀ (j : Nat) (v : Value), (cellsI t)[j]? = some v → w1.cell? (ad.add j) = some v := by
  intro h0
  rw [cellsI_len] at h0
  obtain ⟨b, off, rfl, hlt, _⟩ := hc 0 _ (List.getElem?_eq_getElem h0)
  refine ⟨_, rfl, fun j v hv => ?_⟩
  unfold cellsI at hv
  rw [List.getElem?_map, Option.map_eq_some_iff] at hv
  obtain ⟨x, hx, rfl⟩ := hv
  obtain ⟨b', off', e, hlt', hc'⟩ := hc j x hx
  injection e with e
  injection e with e1 e2
  subst e1 e2
  have ea : (⟨b, off, none⟩ : Addr).add j = ⟨b, off + j, none⟩ := by
    unfold Addr.add
    by_cases h9 : j = 0
    · subst h9
      simp
    · simp [h9]
  rw [ea, hb.cell (p := ⟨b, off + j, none⟩) hlt]
  exact hc'
theorem own_heap {w : World} {B g n : Nat} {e : TypeId} {xs : List Value} (h : w.ownsRow B e 1 (.slice (some ⟨g, 0, none⟩) n n) n xs) : w.heap[g]? = some (.cells xs.toArray e (0, 0)) := by
  rcases h.2 with ⟨h1, _⟩ | ⟨g', cap, cur, h1, _, h3, _, _, h6, h7⟩
  · cases h1
  · injection h1 with e1 _ e3
    injection e1 with e1
    injection e1 with e1
    subst e1 e3
    rw [h3]
    congr 2
    rw [← h7, List.take_of_length_le (by rw [Array.length_toList]; omega)]
set_option maxRecDepth 100000 in
set_option maxHeartbeats 4000000 in
theorem between_any (v : Value) (l : La) (hg : goodLa l = true) (a b : Nat) (hab : a ≤ b) (hb : b ≤ 1100) (w : World) (h : AtLa w v l) :
    Calls Try.prog 47 #[v, .int .i64 a, .int .i64 b] w fun e w' => ∃ r, e = .returned r ∧ OwnOI w' w.heap.size w'.heap.size r (unrL l a (b - a)) ∧ Below w.heap.size w w' := by
  obtain ⟨q1, q2, q3⟩ := good_lens hg
  obtain ⟨g, o, rfl, h1, h2⟩ := h
  obtain ⟨i0, hi, hz0, hz1, hz2⟩ := info_parts infoInt
  obtain ⟨ga, gc, rfl, hc1⟩ := h1.opened
  obtain ⟨oa, oc, rfl, hc2⟩ := h2.opened
  -- how far the word is laid
  obtain ⟨Q, hQ⟩ : ∃ Q : Nat, b / l.2.length = Q := ⟨_, rfl⟩
  have hdm := Nat.div_add_mod b l.2.length
  have hml := Nat.mod_lt b (show 0 < l.2.length by omega)
  have hquo : (b : Int).tdiv (l.2.length : Int) = (Q : Int) := by rw [← hQ]; rfl
  obtain ⟨T, hT⟩ : ∃ T : Nat, (Q + 1) * l.2.length = T := ⟨_, rfl⟩
  have hTi : ((Q : Int) + 1) * (l.2.length : Int) = (T : Int) := by rw [← hT]; simp
  have hbT : b ≤ T := by rw [← hT, Nat.add_mul, Nat.mul_comm Q, ← hQ]; omega
  have hTb : T ≤ b + 24 := by
    have e : l.2.length * (b / l.2.length) ≤ b := by omega
    rw [← hT, Nat.add_mul, Nat.mul_comm Q, ← hQ]
    omega
  have hQ1 : Q ≤ 1100 := by rw [← hQ]; exact Nat.le_trans (Nat.div_le_self _ _) hb
  obtain ⟨S, hS⟩ : ∃ S : Nat, l.1.length + T = S := ⟨_, rfl⟩
  have HP1 : Hid (∀ w1 : World, Below w.heap.size w w1 → 0 < (cellsI l.1).length → ∃ ad, ga = some ad ∧ ∀ (j : Nat) (v : Value), (cellsI l.1)[j]? = some v → w1.cell? (ad.add j) = some v) := fun w1 hb => src_pos hc1 hb
  have HP2 : Hid (∀ w1 : World, Below w.heap.size w w1 → 0 < (cellsI l.2).length → ∃ ad, oa = some ad ∧ ∀ (j : Nat) (v : Value), (cellsI l.2)[j]? = some v → w1.cell? (ad.add j) = some v) := fun w1 hb => src_pos hc2 hb
  have hn1 : (cellsI l.1).length = l.1.length := cellsI_len _
  have hn2 : (cellsI l.2).length = l.2.length := cellsI_len _
  have HC1 : Hid (splice (part9 l S 0) 0 (cellsI l.1) = part9 l S l.1.length) := by
    show splice _ _ _ = _
    rw [part9_copy l S 0 l.1 (unrL_stem l) (by omega), Nat.zero_add]
  have HC2 : Hid (∀ r : Nat, l.1.length + r * l.2.length + l.2.length ≤ S → splice (part9 l S (l.1.length + r * l.2.length)) (l.1.length + r * l.2.length) (cellsI l.2) = part9 l S (l.1.length + r * l.2.length + l.2.length)) := fun r hr => part9_copy l S _ l.2 (loop_at l r) hr
  have HPL : Hid (∀ j, j ≤ S → (part9 l S j).length = S) := fun j hj => part9_len l S j hj
  have HEND : Hid (∀ (i : Nat) (x : Value), (cellsI (unrL l a (b - a)))[i]? = some x → (part9 l S S)[a + i]? = some x) := fun i x hx => by
    have hi := (List.getElem?_eq_some_iff.1 hx).1
    rw [cellsI_len, unrL_len] at hi
    unfold part9
    rw [Nat.sub_self, List.replicate_zero, List.append_nil]
    unfold cellsI at hx ⊢
    rw [List.getElem?_map, unrL_at _ _ _ _ (by omega)] at hx ⊢
    rw [Nat.zero_add]
    exact hx
  have hlE : (cellsI (unrL l a (b - a))).length = b - a := by rw [cellsI_len, unrL_len]
  have HO1 : Hid (∀ c ∈ cellsI l.1, c.oneCell' = true) := ints_one l.1
  have HO2 : Hid (∀ c ∈ cellsI l.2, c.oneCell' = true) := ints_one l.2
  have HRQ : Hid (∀ r : Nat, l.1.length + r * l.2.length < S → r ≤ Q ∧ l.1.length + r * l.2.length + l.2.length ≤ S) := fun r hr => by
    have e1 : r * l.2.length < T := by omega
    have e2 : r < Q + 1 := by
      rw [← hT] at e1
      exact Nat.lt_of_mul_lt_mul_right e1
    refine ⟨by omega, ?_⟩
    have e3 : (r + 1) * l.2.length ≤ T := by
      rw [← hT]
      exact Nat.mul_le_mul_right _ (by omega)
    rw [Nat.add_mul, Nat.one_mul] at e3
    omega
  have HSQ : Hid (S = l.1.length + (Q + 1) * l.2.length) := by
    show S = _
    rw [hT, hS]
  have hSi : (l.1.length : Int) + (T : Int) = (S : Int) := by omega
  have hSb : S ≤ 1148 := by omega
  have hbS : b ≤ S := by omega
  have HB0 : Hid (Below w.heap.size w (w.alloc (.cells #[.slice ga l.1.length gc, .slice oa l.2.length oc] 26))) := (Below.refl _ _).alloc (Nat.le_refl _) _
  have x0 := box2_alloc w 26 (.slice ga l.1.length gc) (.slice oa l.2.length oc)
  have hw0z : (w.alloc (.cells #[.slice ga l.1.length gc, .slice oa l.2.length oc] 26)).heap.size = w.heap.size + 1 := World.size_alloc _ _
  have HE0 : Hid (part9 l S 0 = List.replicate S (.int .i64 0)) := by
    show part9 l S 0 = _
    unfold part9
    rw [unrL_zero]
    simp [cellsI]
  generalize hEE : cellsI (unrL l a (b - a)) = EE at *
  have HEE : Hid _ := hEE
  clear hEE
  generalize part9 l S = PP at *
  generalize cellsI l.1 = C1 at *
  generalize cellsI l.2 = C2 at *
  generalize l.1.length = n1 at *
  generalize l.2.length = n2 at *
  have HX : Hid (Box2 (w.alloc (.cells #[.slice ga n1 gc, .slice oa n2 oc] 26)) w.heap.size 26 (.slice ga n1 gc) (.slice oa n2 oc)) := x0
  obtain ⟨a0, a1⟩ := x0.cells
  have ah := x0.heap
  have al := x0.lt
  clear hc1 hc2 h1 h2 hg hQ hT hS hdm hml x0
  go_enter Try.func47, Try.ntmps47
  go_wp2_with (at_make; refine wpList_make_full _ rfl _ _ 24 rfl (w.heap.size + 1) 3 i0 (.int .i64 0) 1 Try.underlying24 hi hz0 hz1 .i64 .i64 _ _ S rfl rfl (by omega) (by omega) (by rw [hz2]; omega) (by unfold maxLen; omega) (by rw [hw0z]; exact Nat.le_refl _) ?_)
  intro w1 own1 grow1
  have hg1 := own_heap own1
  rw [toList_madeCells_one, ← HE0.out] at hg1
  have HB1 : Hid (Below w.heap.size w w1) := HB0.out.grown grow1 HB0.out.size (fun k hk => by cases hk)
  have HX1 : Hid (Box2 w1 w.heap.size 26 (.slice ga n1 gc) (.slice oa n2 oc)) := HX.out.grown grow1 (fun e => by cases e)
  have hz1s : w.heap.size + 1 < w1.heap.size := (Array.getElem?_eq_some_iff.1 hg1).1
  have hint : (Try.prog.info? 3).map (·.size) = some 1 := by rw [hi]; simp [hz1]
  have hp1 : 0 < C1.length → (some ⟨w.heap.size + 1, 0, none⟩ : Option Addr) = some ⟨w.heap.size + 1, 0, none⟩ ∧ ∃ ad, ga = some ad ∧ ∀ (j : Nat) (v : Value), C1[j]? = some v → w1.cell? (ad.add j) = some v := fun h0 => ⟨rfl, HP1.out w1 HB1.out h0⟩
  have hf1 : 0 + C1.length ≤ (PP 0).length := by rw [HPL.out 0 (by omega)]; omega
  have hm1 : C1.length = Nat.min n1 S := by rw [hn1]; exact (Nat.min_eq_left (by omega)).symm
  obtain ⟨b0, b1⟩ := HX1.out.cells
  have bh := HX1.out.heap
  have bl := HX1.out.lt
  clear own1 grow1 a0 a1 ah al
  go_wp2_with (refine wpList_copy_splice rfl _ _ _ _ rfl 3 Try.underlying24 hint _ _ _ _ _ _ rfl rfl (w.heap.size + 1) 0 (PP 0) 3 hg1 C1 hm1 hp1 hf1 HO1.out (w.heap.size + 1) _ (Below.refl _ _) (Nat.le_refl _) ?_)
  intro w2 HG2 hb2
  have HB2 : Hid (Below w.heap.size w w2) := HB1.out.trans (hb2.mono (by omega))
  have HX2 : Hid (Box2 w2 w.heap.size 26 (.slice ga n1 gc) (.slice oa n2 oc)) := HX1.out.below hb2 (by omega)
  have HG3 : Hid (w2.heap[w.heap.size + 1]? = some (.cells (PP (n1 + 0 * n2)).toArray 3 (0, 0))) := by
    have h9 := HG2.out
    rw [HC1.out] at h9
    show w2.heap[w.heap.size + 1]? = _
    rw [Nat.zero_mul, Nat.add_zero]
    exact h9
  clear HG2 hb2 b0 b1 bh bl hg1 hp1 hf1
  go_wp2_with fail
  go_loopw [9] (fun i wr => ∃ r j : Nat, j = n1 + r * n2 ∧ j ≤ S ∧ i = .int .i64 j ∧ Hid (wr.heap[w.heap.size + 1]? = some (.cells (PP j).toArray 3 (0, 0))) ∧ Hid (Below w.heap.size w wr) ∧ Hid (Box2 wr w.heap.size 26 (.slice ga n1 gc) (.slice oa n2 oc))) (fun i _ => S - (intOf i).toNat)
  case atStart => exact ⟨0, n1, by simp, by omega, rfl, by have h9 := HG3.out; rw [Nat.zero_mul, Nat.add_zero] at h9; exact h9, HB2, HX2⟩
  case round =>
    obtain ⟨r, j, hjr, hj, rfl, HG, HB, HX3⟩ := hrel
    clear HB2 HX2 HG3 HB1 HX1 HB0 HX
    obtain ⟨b0, b1⟩ := HX3.out.cells
    have bh := HX3.out.heap
    have bl := HX3.out.lt
    have hgl := HG.out
    have hsz := HB.out.size
    by_cases hlt : j < S
    · obtain ⟨hrQ, hfit⟩ := HRQ.out r (by rw [← hjr]; exact hlt)
      rw [← hjr] at hfit
      have hne : ¬ S = j := by omega
      have HP3 : Hid (0 < C2.length → ∃ ad, oa = some ad ∧ ∀ (j : Nat) (v : Value), C2[j]? = some v → wr.drew.cell? (ad.add j) = some v) := fun h0 => HP2.out wr.drew HB.out.drew h0
      have hf2 : j + C2.length ≤ (PP j).length := by rw [HPL.out j hj, hn2]; omega
      have hm2 : C2.length = Nat.min n2 (S - j) := by rw [hn2]; exact (Nat.min_eq_left (by omega)).symm
      have HSP : Hid (splice (PP j) j C2 = PP (j + n2)) := by
        have h9 := HC2.out r (by rw [← hjr]; exact hfit)
        rw [← hjr] at h9
        exact h9
      have HJ : Hid (j + n2 = n1 + (r + 1) * n2) := by
        show j + n2 = _
        rw [Nat.add_mul, Nat.one_mul]
        omega
      have hwr : IntKind.i64.wrap ((j : Int) + (n2 : Int)) = (j : Int) + (n2 : Int) := IntWalk.i64_in _ ⟨by omega, by omega⟩
      clear hjr
      go_wp2_with fail
      go_region_law (refine step_copy_splice rfl _ _ _ _ rfl 3 Try.underlying24 hint (some ⟨w.heap.size + 1, j, none⟩) oa (S - j) (S - j) n2 oc (by simp [Act.eval, Act.put]) (by simp [Act.eval, Act.put]) (w.heap.size + 1) j (PP j) 3 hgl C2 hm2 (fun h0 => ⟨rfl, HP3.out h0⟩) hf2 HO2.out (w.heap.size + 1) _ (Below.refl _ _) (Nat.le_refl _) ?_; intro w4 HG4 hb4)
      all_goals
        have HG5 : Hid (w4.heap[w.heap.size + 1]? = some (.cells (PP (j + n2)).toArray 3 (0, 0))) := by
          have h9 := HG4.out
          rw [HSP.out] at h9
          exact h9
        have HB4 : Hid (Below w.heap.size w w4) := HB.out.drew.trans (hb4.mono (Nat.le_succ _))
        have HX4 : Hid (Box2 w4 w.heap.size 26 (.slice ga n1 gc) (.slice oa n2 oc)) := Box2.below (w := wr.drew) ⟨HX3.out.heap⟩ hb4 (by omega)
        clear HG4 hb4 b0 b1 bh bl hgl HG HB HX3
        go_wp2_with fail
        refine ⟨?_, ?measure⟩
        (repeat apply Exists.intro)
        refine ⟨?rel, rfl⟩
        case rel => exact ⟨r + 1, j + n2, HJ.out, hfit, by simp, HG5, HB4, HX4⟩
        case measure =>
          show S - ((j : Int) + (n2 : Int)).toNat < S - ((j : Int)).toNat
          omega
    · obtain rfl : j = S := by omega
      have hgs := (Array.getElem?_eq_some_iff.1 hgl).1
      by_cases hba : b = a
      · subst hba
        have hsub : b - b = 0 := Nat.sub_self b
        have HU : Hid (unrL l b (b - b) = unrL l b 0) := by show unrL l b (b - b) = _; rw [hsub]
        have HR : Hid (∀ (g off cap : Nat), OwnOI wr w.heap.size wr.heap.size (.slice (some ⟨g, off, none⟩) 0 cap) (unrL l b 0)) := fun g off cap => ⟨Nat.le_refl _, Or.inl ⟨rfl, _, cap, rfl, (fun e => by cases e), fun ad e => by cases e; rfl⟩⟩
        clear hgl b0 b1 bh bl HEND hjr
        go_wp2_with fail
        go_ret
        exact ⟨_, rfl, by rw [HU.out]; exact HR.out (w.heap.size + 1) 0 0, HB.out⟩
      have HR : Hid (OwnOI wr w.heap.size wr.heap.size (.slice (some ⟨w.heap.size + 1, a, none⟩) (b - a) (b - a)) (unrL l a (b - a))) := by
        refine ⟨Nat.le_refl _, Or.inr ⟨w.heap.size + 1, a, b - a, by rw [cellsI_len, unrL_len], Nat.le_succ _, hgs, fun i x hx => ?_, (fun i => by simp [World.frozen?, hgl]), by rw [cellsI_len, unrL_len]; exact Nat.le_refl _⟩⟩
        have h9 := HEND.out i x (by rw [← HEE.out]; exact hx)
        simp [World.cell?, hgl, h9]
      have hba2 : ¬ a = b := fun e => hba e.symm
      clear hgl b0 b1 bh bl HEND hjr
      go_wp2_with fail
      go_ret
      exact ⟨_, rfl, HR.out, HB.out⟩
end Go.Proofs.Ythamdefkcjfjpaa
