/-
  The variables of a term: the model's l1Put whole, l2Vars and VarsIn.
-/
import Derived.Test.YtmjeaceabjinfaaPut
import Derived.Test.YtmjeaceabjinfaaValueOf
namespace Go.Proofs.Ytmjeaceabjinfaa
open Go Go.RowKit
open M
set_option linter.unusedVariables false

set_option maxRecDepth 100000 in
set_option maxHeartbeats 1000000 in
theorem l1Put_nil (n : Int) (hn0 : -9223372036854775808 ≤ n) (hn1 : n ≤ 9223372036854775807) (w : World) (base : Nat) (hbase : base ≤ w.heap.size) (hbase2 : w.heap.size ≤ base) :
    Calls Try.prog 147 #[.slice none 0 0, .int .i64 n] w fun e w' => ∃ v, e = .returned v ∧ OwnInts w' base v [n] ∧ Below w.heap.size w w' := by
  obtain ⟨i0, hi, hz0, hz1, hz2⟩ := info_parts infoInt
  go_enter Try.func147, Try.ntmps147
  go_wp2_with fail
  go_loop [5] (fun i => i = .int .i64 0) (fun _ => 0)
  case atStart => rfl
  case round =>
    obtain rfl := hrel
    have own0 := own_emptyI w base hbase
    have HB0 : Hid (Below w.heap.size w (w.alloc (.cells #[] 3))) := (Below.refl _ _).alloc (Nat.le_refl _) _
    have own1 := own0.alloc (.cells #[.int .i64 n] 3)
    have HB1 : Hid (Below w.heap.size w ((w.alloc (.cells #[] 3)).alloc (.cells #[.int .i64 n] 3))) := HB0.out.alloc HB0.out.size _
    have cellsN : ∀ (j : Nat) (u : Value), ([.int .i64 n] : List Value)[j]? = some u → ((w.alloc (.cells #[] 3)).alloc (.cells #[.int .i64 n] 3)).cell? ((⟨w.heap.size + 1, 0, none⟩ : Addr).add j) = some u := by
      have h := oneI_cells (w.alloc (.cells #[] 3)) n
      rw [World.size_alloc] at h
      exact h
    go_wp2_with (first | (at_builtin; refine wpList_append_own_none rfl _ _ 25 rfl base 3 i0 1 Try.underlying25 hi _ _ _ rfl own0 rfl ?_) | (at_builtin; refine wpList_append_own _ rfl _ _ 25 rfl base 3 i0 (.int .i64 0) 1 8 Try.underlying25 hi hz0 hz1 hz2 rfl (by decide) _ _ _ rfl own1 ⟨w.heap.size + 1, 0, none⟩ 1 1 [.int .i64 n] rfl rfl cellsN (ints_one [n]) (by unfold maxLen; omega) (by omega) (by have := HB1.out.size; omega) ?_))
    intro v2 w2 own2 grow2 _
    have HB2 : Hid (Below w.heap.size w w2) := below_app HB1.out HB1.out.size (by omega) own1 grow2
    go_wp2_with (at_builtin; refine wpList_append_own_none rfl _ _ 25 rfl base 3 i0 1 Try.underlying25 hi _ _ _ rfl own2 rfl ?_)
    have HO : Hid (OwnInts w2 base v2 [n]) := own2
    clear own0 own1 own2 grow2 HB0 HB1 cellsN
    go_wp2_with fail
    go_ret
    exact ⟨_, rfl, HO.out, HB2.out⟩

def varsL (t : List Nd) : List Int := t.foldl (fun l x => if x.1 = 2 then putL l x.2 else l) []
theorem varsL_snoc (t : List Nd) (x : Nd) : varsL (t ++ [x]) = if x.1 = 2 then putL (varsL t) x.2 else varsL t := by
  unfold varsL
  rw [List.foldl_append]
  rfl
theorem putL_len (l : List Int) (n : Int) : (putL l n).length ≤ l.length + 1 ∧ 1 ≤ (putL l n).length := by
  unfold putL
  split
  · rename_i h
    have := (List.getElem?_eq_some_iff.1 h).1
    omega
  · simp
    omega
theorem own_weaken {w : World} {B B' : Nat} {v : Value} {t : List Int} (h : OwnInts w B v t) (hB : B' ≤ B) : OwnInts w B' v t := by
  obtain ⟨h1, h2⟩ := h
  refine ⟨h1, ?_⟩
  rcases h2 with h2 | ⟨g, cap, cur, hv, hg, r⟩
  · exact Or.inl h2
  · exact Or.inr ⟨g, cap, cur, hv, Nat.le_trans hB hg, r⟩
/-- an owned list that is nil where it is empty -/
def VarsOwn (w : World) (B : Nat) (v : Value) (l : List Int) : Prop := OwnInts w B v l ∧ (l = [] → v = .slice none 0 0)
theorem l1Put_any (v : Value) (l : List Int) (n : Int) (hn0 : -9223372036854775808 ≤ n) (hn1 : n ≤ 9223372036854775807) (hl : l.length ≤ 1048576) (w : World) (B : Nat) (hB : B ≤ w.heap.size) (h : VarsOwn w B v l) :
    Calls Try.prog 147 #[v, .int .i64 n] w fun e w' => ∃ v', e = .returned v' ∧ VarsOwn w' B v' (putL l n) ∧ Below w.heap.size w w' := by
  obtain ⟨ho, hnil⟩ := h
  have hpl := putL_len l n
  have hne : putL l n = [] → ∀ v' : Value, v' = .slice none 0 0 := by
    intro e
    rw [e] at hpl
    simp at hpl
  by_cases h0 : l = []
  · subst h0
    obtain rfl := hnil rfl
    refine (l1Put_nil n hn0 hn1 w w.heap.size (Nat.le_refl _) (Nat.le_refl _)).mono ?_
    rintro e w' ⟨v', he, ho', hb⟩
    have e1 : putL [] n = [n] := rfl
    refine ⟨v', he, ⟨?_, fun e => hne e _⟩, hb⟩
    rw [e1]
    exact own_weaken ho' hB
  · have hlen : 1 ≤ l.length := by
      cases l with
      | nil => exact absurd rfl h0
      | cons _ _ => simp
    rcases ho.2 with ⟨hv, hz⟩ | ⟨g, cap, cur, rfl, hg, hh, hcap, hcm, _⟩
    · omega
    · have hlt : g < w.heap.size := by
        by_cases hg' : g < w.heap.size
        · exact hg'
        · rw [Array.getElem?_eq_none (by omega)] at hh
          cases hh
      unfold maxLen at hcm
      refine (l1Put_in g cap l n hn0 hn1 hl hlen hcap (by omega) w w.heap.size (Nat.le_refl _) (Nat.le_refl _) hlt (fun i x hx => ?_)).mono ?_
      · have hi : i < l.length := (List.getElem?_eq_some_iff.1 hx).1
        rw [World.ownsRow.cellAt ho i (by omega)]
        simp [hx]
      · rintro e w' ⟨v', he, hcase, hb⟩
        refine ⟨v', he, ⟨?_, fun e => hne e _⟩, hb⟩
        rcases hcase with ⟨rfl, hp⟩ | ho'
        · rw [hp]
          exact owns_below ho hb
        · exact own_weaken ho' hB
def varsInL (wide vars : Int) (t : List Nd) : List Int := if 0 < kindL wide vars t then varsL t else []
theorem good_var {wide vars : Int} {t : List Nd} (h : 0 < kindL wide vars t) : vars ≤ 4 ∧ 1 ≤ t.length ∧ t.length ≤ 48 ∧ ∀ x ∈ t, x.1 = 2 → x.2 < vars := by
  obtain ⟨_, _, h3, h4, h5, e0, ⟨r, hr⟩, _⟩ := tree_root (f0 := fun _ => (0 : Int)) (f1 := fun _ _ => 0) (f2 := fun _ _ _ => 0) h
  refine ⟨h3, h4, h5, ?_⟩
  rintro ⟨op, n⟩ hx hop
  simp only at hop
  subst hop
  obtain ⟨i, hi, hxi⟩ := List.mem_iff_getElem.1 hx
  have hx' : t[i]? = some (2, n) := by rw [List.getElem?_eq_getElem hi, hxi]
  have h6 := node_ok hr (show i < t.length - 1 + 1 by omega) hx'
  exact of_decide_eq_true (show decide (n < vars) = true from h6)
end Go.Proofs.Ytmjeaceabjinfaa
