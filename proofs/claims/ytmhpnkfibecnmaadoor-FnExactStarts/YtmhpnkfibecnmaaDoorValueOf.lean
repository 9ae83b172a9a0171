/-
  The value of a term in a state: the model's l2Value whole, l2Words, ValueOf.
-/
import Derived.Test.YtmhpnkfibecnmaaDoorValue3
namespace Go.Proofs.YtmhpnkfibecnmaaDoor
open Go Go.RowKit
open M
set_option linter.unusedVariables false
section
variable {k : Nat} {vars : Int} {st : List Int} {t : List Nd} {b off cap : Nat} {sv : Value}
theorem l2Value_any (hk1 : 1 ≤ k) (hk : k ≤ 64) (hok : ∀ x ∈ t, 0 ≤ x.2) (hst : ∀ s ∈ st, 0 ≤ s ∧ s < pw k) (hl : t.length ≤ 1048576) (hsl : st.length ≤ 1048576) :
    ∀ (m j : Nat), j ≤ m → ∀ (e0 : Ent Int), TreeAt k vars (val0 st) (val1 k) (val2 k) t j e0 → (∀ (i : Nat) (n : Int), e0.at0 ≤ i → i ≤ j → t[i]? = some (2, n) → n.toNat < st.length) →
    ∀ (w : World), b < w.heap.size → Cells w b off t → StAt w sv st →
    Calls Tryd.prog 109 #[.int .i64 k, .slice (some ⟨b, off, none⟩) t.length cap, .int .i64 j, sv] w fun e w' => e = .returned (.int .u64 e0.val) ∧ Below w.heap.size w w'
  | m, j, hjm, e0, ht, hv, w, hlt, hc, hs => by
    have hval := tree_ok hk1 hk hok hst j j (Nat.le_refl _) e0 ht hv
    obtain ⟨⟨op, n⟩, hx, n1, n2, hcase⟩ := tree_cases ht
    have hj : j < t.length := (List.getElem?_eq_some_iff.1 hx).1
    have hn0 := hok (op, n) (List.mem_of_getElem? hx)
    obtain ⟨c0, c1⟩ := hc j (op, n) hx
    simp only at hcase n1 n2 c0 c1 hn0
    rcases hcase with ⟨m0, rfl⟩ | ⟨m1, hj1, d, hd, hdk, hdj, rfl⟩ | ⟨m2, hj1, d, c, hd, hdk, hd1, hdj, hcc, hck, hcd, rfl⟩
    · have hop : op = 1 ∨ op = 2 ∨ op = 20 := by
        unfold manyOf at m0
        unfold ownOf at n1
        split at m0
        · omega
        · split at m0
          · omega
          · split at n1
            · omega
            · split at n1 <;> omega
      rcases hop with rfl | rfl | rfl
      · exact l2Value_leaf j 1 n hj hl (Or.inl rfl) w c0 c1
      · have hlt2 := hv j n (Nat.le_refl _) (Nat.le_refl _) hx
        obtain ⟨i, rfl⟩ := Int.eq_ofNat_of_zero_le hn0
        have hi : st[i]? = some (val0 st (2, (i : Int))) := by
          show st[i]? = some (st.getD ((i : Int).toNat) 0)
          rw [Int.toNat_natCast] at hlt2 ⊢
          rw [List.getD_eq_getElem?_getD, List.getElem?_eq_getElem hlt2]
          rfl
        exact l2Value_var j i _ hj hl hsl w hs hi c0 c1
      · exact l2Value_leaf j 20 n hj hl (Or.inr rfl) w c0 c1
    · match m, hjm with
      | 0, hjm => omega
      | m' + 1, hjm =>
        have hvd : ∀ (i : Nat) (q : Int), d.at0 ≤ i → i ≤ j - 1 → t[i]? = some (2, q) → q.toNat < st.length := fun i q h0 h1 h2 => hv i q h0 (by omega) h2
        have hvald := tree_ok hk1 hk hok hst (j - 1) (j - 1) (Nat.le_refl _) d hd hvd
        have ih : ∀ (i : Int) (w1 : World), i.toNat = j - 1 → 0 ≤ i → Below w.heap.size w w1 → Calls Tryd.prog 109 #[.int .i64 k, .slice (some ⟨b, off, none⟩) t.length cap, .int .i64 i, sv] w1 fun e w' => e = .returned (.int .u64 d.val) ∧ Below w1.heap.size w1 w' := by
          intro i w1 hi h0 hb
          have g := l2Value_any hk1 hk hok hst hl hsl m' (j - 1) (by omega) d hd hvd w1 (Nat.lt_of_lt_of_le hlt hb.size) (hc.below hlt hb) (hs.below hb)
          rw [show ((j - 1 : Nat) : Int) = i from by omega] at g
          exact g
        have hop : op = 13 ∨ op = 19 := by
          unfold manyOf at m1
          split at m1
          · assumption
          · split at m1 <;> omega
        rcases hop with rfl | rfl
        · rcases hvald with ⟨_, h0, h1⟩ | ⟨hk2, _⟩
          · exact l2Value_flip j n d.val hj hj1 hl hk h0 h1 w c0 c1 ih
          · rw [hk2] at hdk
            cases hdk
        · rcases hvald with ⟨hk2, _⟩ | ⟨_, h0⟩
          · rw [hk2] at hdk
            cases hdk
          · exact l2Value_no j n d.val hj hj1 hl hk (by omega) (by omega) w c0 c1 ih
    · match m, hjm with
      | 0, hjm => omega
      | m' + 1, hjm =>
        have hvd : ∀ (i : Nat) (q : Int), d.at0 ≤ i → i ≤ j - 1 → t[i]? = some (2, q) → q.toNat < st.length := fun i q h0 h1 h2 => hv i q (by simp only; omega) (by omega) h2
        have hvc : ∀ (i : Nat) (q : Int), c.at0 ≤ i → i ≤ d.at0 - 1 → t[i]? = some (2, q) → q.toNat < st.length := fun i q h0 h1 h2 => hv i q h0 (by omega) h2
        have wd := (tree_ok hk1 hk hok hst (j - 1) (j - 1) (Nat.le_refl _) d hd hvd).word hk1
        have wc := (tree_ok hk1 hk hok hst (d.at0 - 1) (d.at0 - 1) (Nat.le_refl _) c hcc hvc).word hk1
        have ihd : ∀ (i : Int) (w1 : World), i.toNat = j - 1 → 0 ≤ i → Below w.heap.size w w1 → Calls Tryd.prog 109 #[.int .i64 k, .slice (some ⟨b, off, none⟩) t.length cap, .int .i64 i, sv] w1 fun e w' => e = .returned (.int .u64 d.val) ∧ Below w1.heap.size w1 w' := by
          intro i w1 hi h0 hb
          have g := l2Value_any hk1 hk hok hst hl hsl m' (j - 1) (by omega) d hd hvd w1 (Nat.lt_of_lt_of_le hlt hb.size) (hc.below hlt hb) (hs.below hb)
          rw [show ((j - 1 : Nat) : Int) = i from by omega] at g
          exact g
        have ihc : ∀ (i : Int) (w1 : World), i.toNat = d.at0 - 1 → 0 ≤ i → Below w.heap.size w w1 → Calls Tryd.prog 109 #[.int .i64 k, .slice (some ⟨b, off, none⟩) t.length cap, .int .i64 i, sv] w1 fun e w' => e = .returned (.int .u64 c.val) ∧ Below w1.heap.size w1 w' := by
          intro i w1 hi h0 hb
          have g := l2Value_any hk1 hk hok hst hl hsl m' (d.at0 - 1) (by omega) c hcc hvc w1 (Nat.lt_of_lt_of_le hlt hb.size) (hc.below hlt hb) (hs.below hb)
          rw [show ((d.at0 - 1 : Nat) : Int) = i from by omega] at g
          exact g
        have ihf : ∀ (i : Int) (w1 : World), i.toNat = j - 1 → 0 ≤ i → Below w.heap.size w w1 → Calls Tryd.prog 134 #[.slice (some ⟨b, off, none⟩) t.length cap, .int .i64 i] w1 fun e w' => e = .returned (.int .i64 d.at0) ∧ w' = w1 := by
          intro i w1 hi h0 hb
          have g := l2From_any b off cap t hl w1 (hc.below hlt hb) (j - 1) (j - 1) (Nat.le_refl _) d hd
          rw [show ((j - 1 : Nat) : Int) = i from by omega] at g
          exact g
        have hop : (3 ≤ op ∧ op ≤ 12) ∨ (14 ≤ op ∧ op ≤ 18) := by
          unfold manyOf at m2
          split at m2
          · cases m2
          · split at m2 <;> omega
        exact l2Value_two j d.at0 op n c.val d.val hj hj1 hd1 hdj hl hk1 hk hop wc.1 wc.2 wd.1 wd.2 w c0 c1 ihf ihc ihd
end

theorem pileE_prefix {α : Type} {wide vars : Int} {f0 : Nd → α} {f1 : Nd → α → α} {f2 : Nd → α → α → α} {t : List Nd} : ∀ (j : Nat) (p : List (Ent α)), pileE wide vars f0 f1 f2 t j = some p → ∀ i, i ≤ j → ∃ q, pileE wide vars f0 f1 f2 t i = some q
  | 0, p, h, i, hi => by
    obtain rfl : i = 0 := by omega
    exact ⟨p, h⟩
  | j + 1, p, h, i, hi => by
    by_cases e : i = j + 1
    · subst e
      exact ⟨p, h⟩
    · obtain ⟨q, x, hq, _, _⟩ := pileE_step h
      exact pileE_prefix j q hq i (by omega)
theorem node_ok {α : Type} {wide vars : Int} {f0 : Nd → α} {f1 : Nd → α → α} {f2 : Nd → α → α → α} {t : List Nd} {j : Nat} {p : List (Ent α)} (h : pileE wide vars f0 f1 f2 t j = some p) {i : Nat} (hi : i < j) {x : Nd} (hx : t[i]? = some x) : okN wide vars x.1 x.2 = true := by
  obtain ⟨q, hq⟩ := pileE_prefix j p h (i + 1) (by omega)
  obtain ⟨_, y, _, hy, hs⟩ := pileE_step hq
  rw [hx] at hy
  obtain rfl := Option.some.inj hy
  exact (stepE_inv hs).2.1
/-- the words of a state that fit -/
def StOk (st : List Int) : Prop := st.length ≤ 1048576 ∧ ∀ s ∈ st, 0 ≤ s ∧ s ≤ 18446744073709551615
/-- what a term comes to in a state, 0 where one of them is not as said -/
def saidV (wide : Int) (t : List Nd) (st : List Int) : Bool := decide (0 < kindL wide st.length t) && st.all (goodB wide)
def valueL (wide : Int) (t : List Nd) (st : List Int) : Int :=
  if saidV wide t st = true then
    match pileE wide st.length (val0 st) (val1 wide.toNat) (val2 wide.toNat) t t.length with
    | some (e :: _) => e.val
    | _ => 0
  else 0
set_option maxHeartbeats 1000000 in
theorem l2Words_in (wide : Int) (b off cap : Nat) (st : List Int) (hok : StOk st) (w : World) (hc : ∀ (i : Nat) (s : Int), st[i]? = some s → w.cell? ⟨b, off + i, none⟩ = some (.int .u64 s)) :
    Calls Tryd.prog 102 #[.int .i64 wide, .slice (some ⟨b, off, none⟩) st.length cap] w fun e w' => e = .returned (.bool (st.all (goodB wide))) ∧ w' = w := by
  have hl := hok.1
  go_enter Tryd.func102, Tryd.ntmps102
  go_wp2_with fail
  go_loop [9] (fun i => ∃ j : Nat, j ≤ st.length ∧ i = .int .i64 j ∧ Hid ((st.take j).all (goodB wide) = true)) (fun i => st.length - (intOf i).toNat)
  case atStart => exact ⟨0, by omega, rfl, rfl⟩
  case round =>
    obtain ⟨j, hj, rfl, HT⟩ := hrel
    by_cases hlt : j < st.length
    · obtain ⟨s, hs⟩ : ∃ s, st[j]? = some s := ⟨st[j], List.getElem?_eq_getElem hlt⟩
      have cs := hc j s hs
      have hsb := hok.2 s (List.mem_of_getElem? hs)
      have g := sGoodWord_any wide s hsb.1 hsb.2 w
      have HS : Hid (st[j]? = some s) := hs
      clear hs hc hok hsb
      cases hg : goodB wide s with
      | true =>
        rw [hg] at g
        have HN : Hid ((st.take (j + 1)).all (goodB wide) = true) := by
          show (st.take (j + 1)).all (goodB wide) = true
          rw [List.take_add_one, HS.out, List.all_append, HT.out]
          simp [hg]
        clear hg
        go_wp2_with fail
        refine g.mono ?_
        rintro e w2 ⟨rfl, rfl⟩
        clear g
        go_wp2_with fail
        go_round
        case rel => exact ⟨j + 1, by omega, by go_num, HN⟩
        case measure => simp [intOf]; omega
      | false =>
        rw [hg] at g
        have HN : Hid (st.all (goodB wide) = false) := by
          show st.all (goodB wide) = false
          rw [List.all_eq_false]
          exact ⟨s, List.mem_of_getElem? HS.out, by rw [hg]; decide⟩
        clear hg
        go_wp2_with fail
        refine g.mono ?_
        rintro e w2 ⟨rfl, rfl⟩
        clear g
        go_wp2_with fail
        go_ret
        exact ⟨ret_bool HN.out.symm, rfl⟩
    · obtain rfl : j = st.length := by omega
      have HN : Hid (st.all (goodB wide) = true) := by
        have h := HT.out
        rw [List.take_length] at h
        exact h
      clear hc hok
      go_wp2_with fail
      go_ret
      exact ⟨ret_bool HN.out.symm, rfl⟩
theorem l2Words_nil (wide : Int) (a : Option Addr) (cap : Nat) (w : World) :
    Calls Tryd.prog 102 #[.int .i64 wide, .slice a 0 cap] w fun e w' => e = .returned (.bool true) ∧ w' = w := by
  go_enter Tryd.func102, Tryd.ntmps102
  go_wp2_with fail
  go_loop [9] (fun i => i = .int .i64 0) (fun _ => 0)
  case atStart => rfl
  case round =>
    obtain rfl := hrel
    go_wp2_with fail
    go_ret
    exact ⟨rfl, rfl⟩
theorem l2Words_any (wide : Int) (sv : Value) (st : List Int) (hok : StOk st) (w : World) (h : StAt w sv st) :
    Calls Tryd.prog 102 #[.int .i64 wide, sv] w fun e w' => e = .returned (.bool (st.all (goodB wide))) ∧ w' = w := by
  rcases h with ⟨rfl, a, cap, rfl⟩ | ⟨b, off, cap, rfl, _, hc⟩
  · exact l2Words_nil wide a cap w
  · exact l2Words_in wide b off cap st hok w hc

theorem StAt.shape {w : World} {sv : Value} {st : List Int} (h : StAt w sv st) : ∃ (a : Option Addr) (cap : Nat), sv = .slice a st.length cap := by
  rcases h with ⟨rfl, a, cap, h⟩ | ⟨b, off, cap, h, _⟩
  · exact ⟨a, cap, h⟩
  · exact ⟨_, cap, h⟩
theorem valueL_root {wide : Int} {t : List Nd} {st : List Int} (hs : saidV wide t st = true) : ∃ k : Nat, wide = k ∧ 1 ≤ k ∧ k ≤ 64 ∧ 1 ≤ t.length ∧ t.length ≤ 48 ∧ (∀ s ∈ st, s < pw k) ∧
    ∃ e0, TreeAt k st.length (val0 st) (val1 k) (val2 k) t (t.length - 1) e0 ∧ valueL wide t st = e0.val ∧ ∀ (i : Nat) (n : Int), i ≤ t.length - 1 → t[i]? = some (2, n) → n < st.length := by
  obtain ⟨h1, h2⟩ := Bool.and_eq_true_iff.1 hs
  have h1 := of_decide_eq_true h1
  obtain ⟨g1, g2, g3, g4, g5, e0, ht, hk⟩ := tree_root (f0 := val0 st) (f1 := val1 wide.toNat) (f2 := val2 wide.toNat) h1
  obtain ⟨k, rfl, hk1, hk64⟩ := wideB_true g1
  refine ⟨k, rfl, hk1, hk64, g4, g5, ?_, e0, ?_, ?_, ?_⟩
  · intro s hsm
    have h3 := List.all_eq_true.1 h2 s hsm
    obtain ⟨k', e, _, _, h4⟩ := goodB_true h3
    obtain rfl : k = k' := by omega
    exact h4
  · simpa using ht
  · unfold valueL
    rw [if_pos hs]
    obtain ⟨r, hr⟩ := ht
    rw [show t.length - 1 + 1 = t.length from by omega] at hr
    rw [hr]
  · intro i n hi hx
    obtain ⟨r, hr⟩ := ht
    have h3 := node_ok hr (show i < t.length - 1 + 1 by omega) hx
    exact of_decide_eq_true (show decide (n < (st.length : Int)) = true from h3)
end Go.Proofs.YtmhpnkfibecnmaaDoor
