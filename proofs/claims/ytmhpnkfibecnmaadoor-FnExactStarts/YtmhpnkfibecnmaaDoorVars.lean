/-
  The variables of a term: the model's l1Put whole, l2Vars and VarsIn.
-/
import Derived.Test.YtmhpnkfibecnmaaDoorPut
import Derived.Test.YtmhpnkfibecnmaaDoorValueOf
namespace Go.Proofs.YtmhpnkfibecnmaaDoor
open Go Go.RowKit
open M
set_option linter.unusedVariables false

set_option maxRecDepth 100000 in
set_option maxHeartbeats 1000000 in
theorem l1Put_nil (n : Int) (hn0 : -9223372036854775808 ≤ n) (hn1 : n ≤ 9223372036854775807) (w : World) (base : Nat) (hbase : base ≤ w.heap.size) (hbase2 : w.heap.size ≤ base) :
    Calls Tryd.prog 72 #[.slice none 0 0, .int .i64 n] w fun e w' => ∃ v, e = .returned v ∧ OwnInts w' base v [n] ∧ Below w.heap.size w w' := by
  obtain ⟨i0, hi, hz0, hz1, hz2⟩ := info_parts infoInt
  go_enter Tryd.func72, Tryd.ntmps72
  go_wp2_with fail
  go_loop [5] (fun i => i = .int .i64 0) (fun _ => 0)
  case atStart => rfl
  case round =>
    obtain rfl := hrel
    have own0 := own_emptyI w base hbase
    have HB0 : Hid (Below w.heap.size w (w.alloc (.cells #[] 3))) := (Below.refl _ _).alloc (Nat.le_refl _) _
    have own1 := own0.alloc (.cells #[.int .i64 n] 3)
    have HB1 : Hid (Below w.heap.size w ((w.alloc (.cells #[] 3)).alloc (.cells #[.int .i64 n] 3))) := HB0.out.alloc HB0.out.size _
    have cellsN : ∀ (j : Nat) (u : Value), ([.int .i64 n] : List Value)[j]? = some u → ((w.alloc (.cells #[] 3)).alloc (.cells #[.int .i64 n] 3)).cell? ((⟨w.heap.size + 1, 0, none⟩ : Addr).add j) = some u := by
      have h := oneI_cells (w.alloc (.cells #[] 3)) n
      rw [World.size_alloc] at h
      exact h
    go_wp2_with (first | (at_builtin; refine wpList_append_own_none rfl _ _ 29 rfl base 3 i0 1 Tryd.underlying29 hi _ _ _ rfl own0 rfl ?_) | (at_builtin; refine wpList_append_own _ rfl _ _ 29 rfl base 3 i0 (.int .i64 0) 1 8 Tryd.underlying29 hi hz0 hz1 hz2 rfl (by decide) _ _ _ rfl own1 ⟨w.heap.size + 1, 0, none⟩ 1 1 [.int .i64 n] rfl rfl cellsN (ints_one [n]) (by unfold maxLen; omega) (by omega) (by have := HB1.out.size; omega) ?_))
    intro v2 w2 own2 grow2 _
    have HB2 : Hid (Below w.heap.size w w2) := below_app HB1.out HB1.out.size (by omega) own1 grow2
    go_wp2_with (at_builtin; refine wpList_append_own_none rfl _ _ 29 rfl base 3 i0 1 Tryd.underlying29 hi _ _ _ rfl own2 rfl ?_)
    have HO : Hid (OwnInts w2 base v2 [n]) := own2
    clear own0 own1 own2 grow2 HB0 HB1 cellsN
    go_wp2_with fail
    go_ret
    exact ⟨_, rfl, HO.out, HB2.out⟩

def varsL (t : List Nd) : List Int := t.foldl (fun l x => if x.1 = 2 then putL l x.2 else l) []
theorem varsL_snoc (t : List Nd) (x : Nd) : varsL (t ++ [x]) = if x.1 = 2 then putL (varsL t) x.2 else varsL t := by
  unfold varsL
  rw [List.foldl_append]
  rfl
theorem putL_len (l : List Int) (n : Int) : (putL l n).length ≤ l.length + 1 ∧ 1 ≤ (putL l n).length := by
  unfold putL
  split
  · rename_i h
    have := (List.getElem?_eq_some_iff.1 h).1
    omega
  · simp
    omega
theorem own_weaken {w : World} {B B' : Nat} {v : Value} {t : List Int} (h : OwnInts w B v t) (hB : B' ≤ B) : OwnInts w B' v t := by
  obtain ⟨h1, h2⟩ := h
  refine ⟨h1, ?_⟩
  rcases h2 with h2 | ⟨g, cap, cur, hv, hg, r⟩
  · exact Or.inl h2
  · exact Or.inr ⟨g, cap, cur, hv, Nat.le_trans hB hg, r⟩
/-- an owned list that is nil where it is empty -/
def VarsOwn (w : World) (B : Nat) (v : Value) (l : List Int) : Prop := OwnInts w B v l ∧ (l = [] → v = .slice none 0 0)
theorem l1Put_any (v : Value) (l : List Int) (n : Int) (hn0 : -9223372036854775808 ≤ n) (hn1 : n ≤ 9223372036854775807) (hl : l.length ≤ 1048576) (w : World) (B : Nat) (hB : B ≤ w.heap.size) (h : VarsOwn w B v l) :
    Calls Tryd.prog 72 #[v, .int .i64 n] w fun e w' => ∃ v', e = .returned v' ∧ VarsOwn w' B v' (putL l n) ∧ Below w.heap.size w w' := by
  obtain ⟨ho, hnil⟩ := h
  have hpl := putL_len l n
  have hne : putL l n = [] → ∀ v' : Value, v' = .slice none 0 0 := by
    intro e
    rw [e] at hpl
    simp at hpl
  by_cases h0 : l = []
  · subst h0
    obtain rfl := hnil rfl
    refine (l1Put_nil n hn0 hn1 w w.heap.size (Nat.le_refl _) (Nat.le_refl _)).mono ?_
    rintro e w' ⟨v', he, ho', hb⟩
    have e1 : putL [] n = [n] := rfl
    refine ⟨v', he, ⟨?_, fun e => hne e _⟩, hb⟩
    rw [e1]
    exact own_weaken ho' hB
  · have hlen : 1 ≤ l.length := by
      cases l with
      | nil => exact absurd rfl h0
      | cons _ _ => simp
    rcases ho.2 with ⟨hv, hz⟩ | ⟨g, cap, cur, rfl, hg, hh, hcap, hcm, _⟩
    · omega
    · have hlt : g < w.heap.size := by
        by_cases hg' : g < w.heap.size
        · exact hg'
        · rw [Array.getElem?_eq_none (by omega)] at hh
          cases hh
      unfold maxLen at hcm
      refine (l1Put_in g cap l n hn0 hn1 hl hlen hcap (by omega) w w.heap.size (Nat.le_refl _) (Nat.le_refl _) hlt (fun i x hx => ?_)).mono ?_
      · have hi : i < l.length := (List.getElem?_eq_some_iff.1 hx).1
        rw [World.ownsRow.cellAt ho i (by omega)]
        simp [hx]
      · rintro e w' ⟨v', he, hcase, hb⟩
        refine ⟨v', he, ⟨?_, fun e => hne e _⟩, hb⟩
        rcases hcase with ⟨rfl, hp⟩ | ho'
        · rw [hp]
          exact owns_below ho hb
        · exact own_weaken ho' hB
set_option maxRecDepth 100000 in
set_option maxHeartbeats 2000000 in
theorem l2Vars_in (b off cap : Nat) (t : List Nd) (hl : t.length ≤ 1048576) (hok : ∀ x ∈ t, NdOk x) (hsm : ∀ x ∈ t, x.1 = 2 → x.2 ≤ 1000000) (w : World) (hlt : b < w.heap.size)
    (hc : ∀ (i : Nat) (x : Nd), t[i]? = some x → w.cell? ⟨b, off + i * 2, none⟩ = some (.int .i64 x.1) ∧ w.cell? ⟨b, off + i * 2 + 1, none⟩ = some (.int .u64 x.2)) :
    Calls Tryd.prog 71 #[.slice (some ⟨b, off, none⟩) t.length cap] w fun e w' => ∃ v, e = .returned v ∧ VarsOwn w' w.heap.size v (varsL t) ∧ Below w.heap.size w w' := by
  go_enter Tryd.func71, Tryd.ntmps71
  go_wp2_with fail
  go_loopw [3, 8] (fun v i wr => ∃ j : Nat, j ≤ t.length ∧ i = .int .i64 j ∧ Hid (VarsOwn wr w.heap.size v (varsL (t.take j)) ∧ (varsL (t.take j)).length ≤ j) ∧ Below w.heap.size w wr) (fun _ i _ => t.length - (intOf i).toNat)
  case atStart => exact ⟨0, by omega, rfl, ⟨⟨World.ownsRow_nil _ _ _ _, fun _ => rfl⟩, by simp [varsL]⟩, Below.refl _ _⟩
  case round =>
    obtain ⟨j, hj, rfl, HV, hb⟩ := hrel
    by_cases hlt' : j < t.length
    · obtain ⟨x, hx⟩ : ∃ x, t[j]? = some x := ⟨t[j], List.getElem?_eq_getElem hlt'⟩
      obtain ⟨op, n⟩ := x
      obtain ⟨ho0, ho1, hn0, hn1⟩ := hok (op, n) (List.mem_of_getElem? hx)
      have hs := hsm (op, n) (List.mem_of_getElem? hx)
      simp only at ho0 ho1 hn0 hn1 hs
      obtain ⟨c0, c1⟩ := hc j (op, n) hx
      rw [← hb.cell (p := ⟨b, off + j * 2, none⟩) hlt] at c0
      rw [← hb.cell (p := ⟨b, off + j * 2 + 1, none⟩) hlt] at c1
      simp only at c0 c1
      have etake : t.take (j + 1) = t.take j ++ [(op, n)] := by
        rw [List.take_add_one, hx]
        rfl
      have HE : Hid (varsL (t.take (j + 1)) = if op = 2 then putL (varsL (t.take j)) n else varsL (t.take j)) := by
        show varsL (t.take (j + 1)) = _
        rw [etake, varsL_snoc]
      have HB : Hid (Below w.heap.size w (wr.alloc (.cells #[.int .i64 op, .int .u64 n] 159))) := hb.alloc hb.size _
      have hlen := HV.out.2
      have HV1 : Hid (VarsOwn (wr.alloc (.cells #[.int .i64 op, .int .u64 n] 159)) w.heap.size u3 (varsL (t.take j))) := ⟨World.ownsRow.alloc HV.out.1.1 _, HV.out.1.2⟩
      clear hx hc hok hsm hb etake
      by_cases h2 : op = 2
      · subst h2
        have g := l1Put_any u3 (varsL (t.take j)) n (by omega) (by have := hs rfl; omega) (by omega) _ w.heap.size HB.out.size HV1.out
        have hnb := hs rfl
        have HE2 : Hid (varsL (t.take (j + 1)) = putL (varsL (t.take j)) n) := by
          have h := HE.out
          rw [if_pos rfl] at h
          exact h
        clear HE
        go_wp2_with fail
        refine g.mono ?_
        rintro e w2 ⟨v2, rfl, hv2, hb2⟩
        have HV2 : Hid (VarsOwn w2 w.heap.size v2 (varsL (t.take (j + 1))) ∧ (varsL (t.take (j + 1))).length ≤ j + 1) := by
          show VarsOwn w2 w.heap.size v2 (varsL (t.take (j + 1))) ∧ (varsL (t.take (j + 1))).length ≤ j + 1
          rw [HE2.out]
          have := (putL_len (varsL (t.take j)) n).1
          exact ⟨hv2, by omega⟩
        have HB2 : Hid (Below w.heap.size w w2) := HB.out.trans (hb2.mono HB.out.size)
        clear g hv2 hb2 HV HV1 HE2 HB
        go_wp2_with fail
        go_roundw
        case rel => exact ⟨j + 1, by omega, by go_num, HV2, HB2.out⟩
        case measure => simp [intOf]; omega
      · have e2 : (op == 2) = false := beq_eq_false_iff_ne.2 h2
        have HV2 : Hid (VarsOwn (wr.alloc (.cells #[.int .i64 op, .int .u64 n] 159)) w.heap.size u3 (varsL (t.take (j + 1))) ∧ (varsL (t.take (j + 1))).length ≤ j + 1) := by
          show VarsOwn (wr.alloc (.cells #[.int .i64 op, .int .u64 n] 159)) w.heap.size u3 (varsL (t.take (j + 1))) ∧ (varsL (t.take (j + 1))).length ≤ j + 1
          rw [HE.out, if_neg h2]
          exact ⟨HV1.out, by omega⟩
        clear HV HV1 HE h2
        go_wp2_with fail
        go_roundw
        case rel => exact ⟨j + 1, by omega, by go_num, HV2, HB.out⟩
        case measure => simp [intOf]; omega
    · obtain rfl : j = t.length := by omega
      have HN : Hid (VarsOwn wr w.heap.size u3 (varsL t)) := by
        have h := HV.out.1
        rw [List.take_length] at h
        exact h
      have HB : Hid (Below w.heap.size w wr) := hb
      clear hb hc hok hsm HV
      go_wp2_with fail
      go_ret
      exact ⟨_, rfl, HN.out, HB.out⟩
def varsInL (wide vars : Int) (t : List Nd) : List Int := if 0 < kindL wide vars t then varsL t else []
theorem good_var {wide vars : Int} {t : List Nd} (h : 0 < kindL wide vars t) : vars ≤ 4 ∧ 1 ≤ t.length ∧ t.length ≤ 48 ∧ ∀ x ∈ t, x.1 = 2 → x.2 < vars := by
  obtain ⟨_, _, h3, h4, h5, e0, ⟨r, hr⟩, _⟩ := tree_root (f0 := fun _ => (0 : Int)) (f1 := fun _ _ => 0) (f2 := fun _ _ _ => 0) h
  refine ⟨h3, h4, h5, ?_⟩
  rintro ⟨op, n⟩ hx hop
  simp only at hop
  subst hop
  obtain ⟨i, hi, hxi⟩ := List.mem_iff_getElem.1 hx
  have hx' : t[i]? = some (2, n) := by rw [List.getElem?_eq_getElem hi, hxi]
  have h6 := node_ok hr (show i < t.length - 1 + 1 by omega) hx'
  exact of_decide_eq_true (show decide (n < vars) = true from h6)
end Go.Proofs.YtmhpnkfibecnmaaDoor
