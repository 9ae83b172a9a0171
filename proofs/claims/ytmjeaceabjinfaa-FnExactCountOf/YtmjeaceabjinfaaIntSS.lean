/-
  Lists of lists of numbers in memory: the laws' sizes, copies, comparisons and marks of them, and one that came in.
-/
import Derived.Test.YtmjeaceabjinfaaIntS
import Derived.Test.YtmjeaceabjinfaaArgC
import Derived.Test.YtmjeaceabjinfaaOwn
import Derived.Deep.RegionWith
namespace Go.Proofs.Ytmjeaceabjinfaa
open Go Go.RowKit
open M
set_option linter.unusedVariables false

/-- a slice of slices of numbers -/
def IntsSS (w : World) (v : Value) (bs : List (List Int)) : Prop :=
  bs.length ≤ 9223372036854775807 ∧ ((bs = [] ∧ ∃ (a : Option Addr) (cap : Nat), v = .slice a 0 cap) ∨
  ∃ b off cap : Nat, v = .slice (some ⟨b, off, none⟩) bs.length cap ∧ b < w.heap.size ∧ ∀ (i : Nat) (t : List Int), bs[i]? = some t → ∃ u : Value, w.cell? ⟨b, off + i, none⟩ = some u ∧ IntsAt w u t)
theorem IntsSS.below {w w' : World} {v : Value} {bs : List (List Int)} (h : IntsSS w v bs) (hb : Below w.heap.size w w') : IntsSS w' v bs := by
  obtain ⟨h1, h2⟩ := h
  refine ⟨h1, ?_⟩
  rcases h2 with h2 | ⟨b, off, cap, hv, hlt, hc⟩
  · exact Or.inl h2
  · refine Or.inr ⟨b, off, cap, hv, Nat.lt_of_lt_of_le hlt hb.size, fun i t ht => ?_⟩
    obtain ⟨u, h3, h4⟩ := hc i t ht
    refine ⟨u, ?_, h4.below hb⟩
    rw [hb.cell (p := ⟨b, off + i, none⟩) hlt]
    exact h3
theorem IntsSS.shape {w : World} {v : Value} {bs : List (List Int)} (h : IntsSS w v bs) : ∃ (a : Option Addr) (cap : Nat), v = .slice a bs.length cap := by
  rcases h.2 with ⟨rfl, a, cap, h⟩ | ⟨b, off, cap, h, _⟩
  · exact ⟨a, cap, h⟩
  · exact ⟨_, cap, h⟩
def OwnInts2 (w : World) (B : Nat) (v : Value) (t : List Int) : Prop := w.ownsRow B 3 1 v t.length (cellsI t)
theorem OwnInts2.low {w : World} {B C : Nat} {v : Value} {t : List Int} (h : OwnInts2 w B v t) (hc : C ≤ B) : OwnInts2 w C v t := by
  obtain ⟨h1, h2⟩ := h
  refine ⟨h1, ?_⟩
  rcases h2 with h2 | ⟨g, cp, cur, hv, hg, r⟩
  · exact Or.inl h2
  · exact Or.inr ⟨g, cp, cur, hv, by omega, r⟩

/-- how many nodes lie in lists -/
def sumI : List (List Int) → Nat
  | [] => 0
  | t :: r => t.length + sumI r
theorem sumI_append : ∀ a b : List (List Int), sumI (a ++ b) = sumI a + sumI b
  | [], b => by simp [sumI]
  | t :: r, b => by
    rw [List.cons_append]
    simp only [sumI]
    rw [sumI_append r b]
    omega
theorem sumI_take (bs : List (List Int)) (j : Nat) : sumI (bs.take j) ≤ sumI bs := by
  have h : sumI (bs.take j ++ bs.drop j) = sumI bs := by rw [List.take_append_drop]
  rw [sumI_append] at h
  omega
theorem sumI_snoc (bs : List (List Int)) (j : Nat) (u : List Int) (hu : bs[j]? = some u) : sumI (bs.take (j + 1)) = sumI (bs.take j) + u.length := by
  rw [List.take_add_one, hu]
  show sumI (bs.take j ++ [u]) = _
  rw [sumI_append]
  simp [sumI]
set_option maxRecDepth 100000 in
set_option maxHeartbeats 1000000 in
theorem szIntSS_in (c o cp : Nat) (bs : List (List Int)) (left : Int) (h0 : 0 ≤ left) (h1 : left ≤ 1048576) (hl : bs.length ≤ left) (w : World) (hclt : c < w.heap.size)
    (hcs : ∀ (i : Nat) (u : List Int), bs[i]? = some u → ∃ z : Value, w.cell? ⟨c, o + i, none⟩ = some z ∧ IntsAt w z u) :
    Calls Try.prog 126 #[.slice (some ⟨c, o, none⟩) bs.length cp, .int .i64 left] w fun e w' => e = .returned (.int .i64 (if left - bs.length < sumI bs then -1 else left - bs.length - sumI bs)) ∧ w' = w := by
  have HCS : Hid _ := hcs
  clear hcs
  generalize hR : (if left - bs.length < sumI bs then (-1 : Int) else left - bs.length - sumI bs) = R at *
  have HR : Hid _ := hR
  clear hR
  go_enter Try.func126, Try.ntmps126
  go_wp2_with fail
  go_loop [1, 5] (fun l i => ∃ j : Nat, j ≤ bs.length ∧ i = .int .i64 j ∧ l = .int .i64 (left - bs.length - sumI (bs.take j)) ∧ 0 ≤ left - bs.length - sumI (bs.take j)) (fun _ i => bs.length - (intOf i).toNat)
  case atStart => exact ⟨0, by omega, rfl, by simp [sumI], by simp [sumI]; omega⟩
  case round =>
    obtain ⟨j, hj, rfl, rfl, hpos⟩ := hrel
    by_cases hlt' : j < bs.length
    · obtain ⟨u, hu⟩ : ∃ u, bs[j]? = some u := ⟨bs[j], List.getElem?_eq_getElem hlt'⟩
      obtain ⟨z, cz, hz⟩ := HCS.out j u hu
      have hs1 := sumI_snoc bs j u hu
      have hs2 := sumI_take bs (j + 1)
      have hul := hz.1
      obtain ⟨za, zc, rfl⟩ := hz.shape
      have g := szIntS_any za u.length zc (left - bs.length - sumI (bs.take j)) hul hpos (by omega) w
      clear hu hz
      by_cases h : left - bs.length - sumI (bs.take j) < u.length
      · rw [if_pos h] at g
        have eR : (-1 : Int) = R := by
          have h3 := HR.out
          rw [if_pos (by omega)] at h3
          exact h3
        clear h
        go_wp2_with fail
        refine g.mono ?_
        rintro e w2 ⟨rfl, rfl⟩
        clear g
        go_wp2_with fail
        go_ret
        exact ⟨congrArg (fun x => Ending.returned (Value.int .i64 x)) eR, rfl⟩
      · rw [if_neg h] at g
        go_wp2_with fail
        refine g.mono ?_
        rintro e w2 ⟨rfl, rfl⟩
        clear g
        go_wp2_with fail
        go_round
        case rel => exact ⟨j + 1, by omega, by go_num, by go_num, by omega⟩
        case measure => simp [intOf]; omega
    · obtain rfl : j = bs.length := by omega
      have eR : left - bs.length - sumI bs = R := by
        have h3 := HR.out
        rw [List.take_length] at hpos
        rw [if_neg (by omega)] at h3
        exact h3
      go_wp2_with fail
      go_ret
      exact ⟨rfl, rfl⟩
set_option maxRecDepth 100000 in
set_option maxHeartbeats 1000000 in
theorem eqIntSS_in (c o cp d q dp : Nat) (bs ds : List (List Int)) (hl : bs.length ≤ 9223372036854775807) (hd : ds.length = bs.length) (w : World) (hclt : c < w.heap.size) (hdlt : d < w.heap.size)
    (hcs : ∀ (i : Nat) (u : List Int), bs[i]? = some u → ∃ z : Value, w.cell? ⟨c, o + i, none⟩ = some z ∧ IntsAt w z u)
    (hds : ∀ (i : Nat) (u : List Int), ds[i]? = some u → ∃ z : Value, w.cell? ⟨d, q + i, none⟩ = some z ∧ IntsAt w z u) :
    Calls Try.prog 128 #[.slice (some ⟨c, o, none⟩) bs.length cp, .slice (some ⟨d, q, none⟩) ds.length dp] w fun e w' => e = .returned (.bool (decide (bs = ds))) ∧ Below w.heap.size w w' := by
  have HCS : Hid _ := hcs
  have HDS : Hid _ := hds
  clear hcs hds
  rw [hd]
  have HD : Hid _ := hd
  clear hd
  go_enter Try.func128, Try.ntmps128
  go_wp2_with fail
  go_loopw [5] (fun i wr => ∃ j : Nat, j ≤ bs.length ∧ i = .int .i64 j ∧ Hid (bs.take j = ds.take j) ∧ Hid (Below w.heap.size w wr)) (fun i _ => bs.length - (intOf i).toNat)
  case atStart => exact ⟨0, by omega, rfl, (by simp : bs.take 0 = ds.take 0), Below.refl _ _⟩
  case round =>
    obtain ⟨j, hj, rfl, HT, HB⟩ := hrel
    by_cases hlt' : j < bs.length
    · obtain ⟨u, hu⟩ : ∃ u, bs[j]? = some u := ⟨bs[j], List.getElem?_eq_getElem hlt'⟩
      obtain ⟨y, hy⟩ : ∃ y, ds[j]? = some y := ⟨ds[j]'(by have := HD.out; omega), List.getElem?_eq_getElem (by have := HD.out; omega)⟩
      obtain ⟨z, cz, hz⟩ := HCS.out j u hu
      obtain ⟨x, cx, hx⟩ := HDS.out j y hy
      rw [← HB.out.cell (p := ⟨c, o + j, none⟩) hclt] at cz
      rw [← HB.out.cell (p := ⟨d, q + j, none⟩) hdlt] at cx
      have G : Hid (∀ w1 : World, Below w.heap.size w w1 → Calls Try.prog 64 #[z, x] w1 fun e w' => e = .returned (.bool (decide (u = y))) ∧ Below w1.heap.size w1 w') := fun w1 hb => eqIntS_any z x u y w1 (hz.below hb) (hx.below hb)
      obtain ⟨za, zc, rfl⟩ := hz.shape
      obtain ⟨xa, xc, rfl⟩ := hx.shape
      by_cases h : u = y
      · rw [decide_eq_true h] at G
        have HT2 : Hid (bs.take (j + 1) = ds.take (j + 1)) := by
          show bs.take (j + 1) = ds.take (j + 1)
          rw [List.take_add_one, List.take_add_one, hu, hy, HT.out, h]
        clear h hu hy hz hx
        go_wp2_with fail
        go_region_with (go_at_call 64; refine (G.out _ (by first | exact HB.out | exact HB.out.drew | exact HB.out.drew.drew)).mono ?_; rintro e w2 ⟨rfl, hb2⟩; have HB2 : Hid (Below w.heap.size w w2) := (by first | exact HB.out.trans (hb2.mono HB.out.size) | exact HB.out.drew.trans (hb2.mono HB.out.size) | exact HB.out.drew.drew.trans (hb2.mono HB.out.size)); clear hb2)
        all_goals
          clear G HB
          go_wp2_with fail
          go_roundw
          case rel => exact ⟨j + 1, by omega, by go_num, HT2, by assumption⟩
          case measure => simp [intOf]; omega
      · rw [decide_eq_false h] at G
        have HN : Hid (decide (bs = ds) = false) := decide_eq_false (fun e => by
          rw [e, hy] at hu
          exact h (Option.some.inj hu).symm)
        clear h hu hy hz hx
        go_wp2_with fail
        go_region_with (go_at_call 64; refine (G.out _ (by first | exact HB.out | exact HB.out.drew | exact HB.out.drew.drew)).mono ?_; rintro e w2 ⟨rfl, hb2⟩; have HB2 : Hid (Below w.heap.size w w2) := (by first | exact HB.out.trans (hb2.mono HB.out.size) | exact HB.out.drew.trans (hb2.mono HB.out.size) | exact HB.out.drew.drew.trans (hb2.mono HB.out.size)); clear hb2)
        all_goals
          clear G HB
          go_wp2_with fail
          go_ret
          exact ⟨ret_bool HN.out.symm, Hid.out (by assumption)⟩
    · obtain rfl : j = bs.length := by omega
      have HN : Hid (decide (bs = ds) = true) := decide_eq_true (by
        have h := HT.out
        rw [List.take_length, ← HD.out, List.take_length] at h
        exact h)
      go_wp2_with fail
      go_ret
      exact ⟨ret_bool HN.out.symm, HB.out⟩
theorem szIntSS_any (v : Value) (bs : List (List Int)) (left : Int) (h0 : 0 ≤ left) (h1 : left ≤ 1048576) (hl : bs.length ≤ left) (w : World) (h : IntsSS w v bs) (hne : bs ≠ []) :
    Calls Try.prog 126 #[v, .int .i64 left] w fun e w' => e = .returned (.int .i64 (if left - bs.length < sumI bs then -1 else left - bs.length - sumI bs)) ∧ w' = w := by
  rcases h.2 with ⟨h, _⟩ | ⟨c, o, cp, rfl, hclt, hcs⟩
  · exact absurd h hne
  · exact szIntSS_in c o cp bs left h0 h1 hl w hclt hcs

theorem infoInts2 : (Try.prog.info? 25).map (fun i => (i.zero, i.size, i.bytes)) = some (some (.slice none 0 0), 1, 24) := by kernel_rfl
/-- nodes are kept where a row of lists grows -/
theorem ints_apart2 {w w7 : World} {B B' n : Nat} {v u : Value} {us : List Value} {b : List Int} (hv : w.ownsRow B 25 1 v n us) (hu : OwnInts2 w B' u b) (grow : w.grownBy w7 v.ownBlock) : OwnInts2 w7 B' u b := by
  obtain ⟨h1, h2⟩ := hu
  refine ⟨h1, ?_⟩
  rcases h2 with h2 | ⟨g, cap, cur, he, hg, hh, r⟩
  · exact Or.inl h2
  · refine Or.inr ⟨g, cap, cur, he, hg, ?_, r⟩
    rw [grow.block g (Array.getElem?_eq_some_iff.1 hh).1 ?_]
    · exact hh
    · intro e
      rcases hv.2 with ⟨rfl, _⟩ | ⟨g', cap', cur', rfl, _, hh', _⟩
      · cases e
      · have e2 : g = g' := Option.some.inj e
        rw [← e2, hh] at hh'
        simp at hh'
theorem szIntSS_much (a : Option Addr) (n cp : Nat) (left : Int) (h0 : 0 ≤ left) (h1 : left ≤ 1048576) (hn : n ≤ 9223372036854775807) (hl : left < n) (w : World) :
    Calls Try.prog 126 #[.slice a n cp, .int .i64 left] w fun e w' => e = .returned (.int .i64 (-1)) ∧ w' = w := by
  go_enter Try.func126, Try.ntmps126
  go_wp2_with fail
  go_ret
  exact ⟨rfl, rfl⟩
theorem szIntSS_none (a : Option Addr) (cp : Nat) (left : Int) (h0 : 0 ≤ left) (h1 : left ≤ 1048576) (w : World) :
    Calls Try.prog 126 #[.slice a 0 cp, .int .i64 left] w fun e w' => e = .returned (.int .i64 left) ∧ w' = w := by
  go_enter Try.func126, Try.ntmps126
  go_wp2_with fail
  go_loop [1, 5] (fun l i => i = .int .i64 0 ∧ l = .int .i64 left) (fun _ _ => 0)
  case atStart => exact ⟨rfl, by simp⟩
  case round =>
    obtain ⟨rfl, rfl⟩ := hrel
    go_wp2_with fail
    go_ret
    exact ⟨rfl, rfl⟩
/-- what is left of a size behind lists of numbers, less than 0 where they are too many -/
def leftIS (left : Int) (bs : List (List Int)) : Int := if left - bs.length < sumI bs then -1 else left - bs.length - sumI bs
theorem szIntSS_all (v : Value) (bs : List (List Int)) (left : Int) (h0 : 0 ≤ left) (h1 : left ≤ 1048576) (w : World) (h : IntsSS w v bs) :
    Calls Try.prog 126 #[v, .int .i64 left] w fun e w' => e = .returned (.int .i64 (leftIS left bs)) ∧ w' = w := by
  unfold leftIS
  by_cases hl : (bs.length : Int) ≤ left
  · by_cases hne : bs = []
    · subst hne
      obtain ⟨a, cp, rfl⟩ := h.shape
      have e : (if left - (([] : List (List Int)).length : Int) < sumI [] then (-1 : Int) else left - (([] : List (List Int)).length : Int) - sumI []) = left := by
        simp [sumI]
        omega
      rw [e]
      exact szIntSS_none a cp left h0 h1 w
    · exact szIntSS_any v bs left h0 h1 (by omega) w h hne
  · obtain ⟨a, cp, rfl⟩ := h.shape
    rw [if_pos (by omega)]
    exact szIntSS_much a bs.length cp left h0 h1 h.1 (by omega) w
theorem eqIntSS_nil (a a' : Option Addr) (cap cap' : Nat) (w : World) :
    Calls Try.prog 128 #[.slice a 0 cap, .slice a' 0 cap'] w fun e w' => e = .returned (.bool true) ∧ w' = w := by
  go_enter Try.func128, Try.ntmps128
  go_wp2_with fail
  go_loop [5] (fun i => i = .int .i64 0) (fun _ => 0)
  case atStart => rfl
  case round =>
    obtain rfl := hrel
    go_wp2_with fail
    go_ret
    exact ⟨rfl, rfl⟩
theorem eqIntSS_same (u v : Value) (bs : List (List Int)) (w : World) (h1 : IntsSS w u bs) (h2 : IntsSS w v bs) :
    Calls Try.prog 128 #[u, v] w fun e w' => e = .returned (.bool true) ∧ Below w.heap.size w w' := by
  rcases h1.2 with ⟨rfl, a, cap, rfl⟩ | ⟨c, o, cp, rfl, hc, hcs⟩
  · obtain ⟨a', cap', rfl⟩ := h2.shape
    refine (eqIntSS_nil a a' cap cap' w).mono ?_
    rintro e w' ⟨he, rfl⟩
    exact ⟨he, Below.refl _ _⟩
  · rcases h2.2 with ⟨rfl, a', cap', rfl⟩ | ⟨d, q, dp, rfl, hd, hds⟩
    · refine (eqIntSS_nil _ a' cp cap' w).mono ?_
      rintro e w' ⟨he, rfl⟩
      exact ⟨he, Below.refl _ _⟩
    · have g := eqIntSS_in c o cp d q dp bs bs h1.1 rfl w hc hd hcs hds
      rw [decide_eq_true rfl] at g
      exact g
/-- some row of numbers, whatever they are -/
def AnyInts (w : World) (B : Nat) (u : Value) (n : Nat) : Prop := ∃ xs, w.ownsRow B 3 1 u n xs
/-- marks in one row leave every row a row -/
theorem anyI_kept {w w' : World} {B : Nat} {u x : Value} {n m : Nat} {ys : List Value} (h : AnyInts w B u n) (hx : AnyInts w B x m) (hx' : w'.ownsRow B 3 1 x m ys) (hg : w.grownBy w' x.ownBlock) : AnyInts w' B u n := by
  obtain ⟨xs, h1, h2⟩ := h
  rcases h2 with ⟨rfl, h0⟩ | ⟨g, cap, cur, rfl, hB, hh, hc, hm, hs, ht⟩
  · exact ⟨[], by subst h0; rfl, Or.inl ⟨rfl, h0⟩⟩
  · by_cases e : some g = x.ownBlock
    · obtain ⟨zs, _, hz⟩ := hx
      rcases hz with ⟨rfl, _⟩ | ⟨g1, cap1, cur1, rfl, _, hh1, _, _, hs1, _⟩
      · cases e
      · obtain rfl : g = g1 := Option.some.inj e
        rw [hh] at hh1
        simp at hh1
        subst hh1
        rcases hx'.2 with ⟨h9, _⟩ | ⟨g2, cap2, cur2, h9, _, hh2, _, _, hs2, _⟩
        · cases h9
        · simp at h9
          obtain ⟨rfl, rfl⟩ := h9
          refine ⟨cur2.toList.take (n * 1), ?_, Or.inr ⟨g, cap, cur2, rfl, hB, hh2, hc, hm, by omega, rfl⟩⟩
          simp
          omega
    · refine ⟨xs, h1, Or.inr ⟨g, cap, cur, rfl, hB, ?_, hc, hm, hs, ht⟩⟩
      rw [hg.block g (Array.getElem?_eq_some_iff.1 hh).1 e]
      exact hh

/-- lists of numbers in a row, all of it owned from B on, whatever they are -/
def ISO (w : World) (B : Nat) (v : Value) (us : List Value) (bs : List (List Int)) : Prop :=
  w.ownsRow B 25 1 v us.length us ∧ us.length = bs.length ∧ ∀ (i : Nat) (u : Value) (b : List Int), us[i]? = some u → bs[i]? = some b → OwnInts2 w B u b
theorem ISO.below {w w' : World} {B : Nat} {v : Value} {us : List Value} {bs : List (List Int)} (h : ISO w B v us bs) (hb : Below w.heap.size w w') : ISO w' B v us bs :=
  ⟨owns_below h.1 hb, h.2.1, fun i u x hu hx => owns_below (h.2.2 i u x hu hx) hb⟩
theorem ISO.ss {w : World} {B : Nat} {v : Value} {us : List Value} {bs : List (List Int)} (h : ISO w B v us bs) (hl : bs.length ≤ 1048576) (hok : ∀ b ∈ bs, b.length ≤ 1048576) : IntsSS w v bs := by
  refine ⟨by omega, ?_⟩
  rcases h.1.2 with ⟨rfl, h0⟩ | ⟨g, cap, cur, rfl, hg, hh, _⟩
  · exact Or.inl ⟨List.length_eq_zero_iff.1 (by rw [← h.2.1]; exact h0), none, 0, rfl⟩
  · refine Or.inr ⟨g, 0, cap, by rw [h.2.1], (Array.getElem?_eq_some_iff.1 hh).1, fun i t ht => ?_⟩
    have hi : i < us.length := by
      rw [h.2.1]
      exact (List.getElem?_eq_some_iff.1 ht).1
    obtain ⟨u, hu⟩ : ∃ u, us[i]? = some u := ⟨us[i], List.getElem?_eq_getElem hi⟩
    have p1 := h.2.2 i u t hu ht
    have p3 := hok t (List.mem_of_getElem? ht)
    refine ⟨u, ?_, ints_of_own (by omega) p1⟩
    rw [Nat.zero_add, h.1.cellAt i (by omega)]
    exact hu
/-- what lies from C on is as before -/
def HighI (C : Nat) (w w' : World) : Prop := w.heap.size ≤ w'.heap.size ∧ ∀ k, C ≤ k → k < w.heap.size → w'.heap[k]? = w.heap[k]?
theorem HighI.refl (C : Nat) (w : World) : HighI C w w := ⟨Nat.le_refl _, fun _ _ _ => rfl⟩
theorem HighI.grown {C : Nat} {w w1 w2 : World} {row : Option Nat} (h : HighI C w w1) (hg : w1.grownBy w2 row) (hr : ∀ k, row = some k → k < C) : HighI C w w2 := by
  refine ⟨Nat.le_trans h.1 hg.size, fun k hk hs => ?_⟩
  rw [hg.block k (by have := h.1; omega) (fun e => by have := hr k e.symm; omega)]
  exact h.2 k hk hs
theorem own_highI {w w' : World} {C : Nat} {e : TypeId} {s : Nat} {v : Value} {n : Nat} {xs : List Value} (h : w.ownsRow C e s v n xs) (hh : HighI C w w') : w'.ownsRow C e s v n xs := by
  obtain ⟨h1, h2⟩ := h
  refine ⟨h1, ?_⟩
  rcases h2 with h2 | ⟨g, cap, cur, hv, hB, hg, r⟩
  · exact Or.inl h2
  · refine Or.inr ⟨g, cap, cur, hv, hB, ?_, r⟩
    rw [hh.2 g hB (Array.getElem?_eq_some_iff.1 hg).1]
    exact hg
theorem ISO.other {w w' : World} {B : Nat} {v : Value} {us : List Value} {bs : List (List Int)} {row : Option Nat} (h : ISO w B v us bs) (hg : w.grownBy w' row) (hr : ∀ k, row = some k → k < B) : ISO w' B v us bs :=
  ⟨own_other h.1 hg hr, h.2.1, fun i u x hu hx => own_other (h.2.2 i u x hu hx) hg hr⟩
/-- all of it lies below the heap's end -/
theorem ISO.under {w : World} {B : Nat} {v : Value} {us : List Value} {bs : List (List Int)} (h : ISO w B v us bs) (i : Nat) (u : Value) (k : Nat) (hu : us[i]? = some u) (hk : u.ownBlock = some k) : k < w.heap.size := by
  have hi : i < bs.length := by
    rw [← h.2.1]
    exact (List.getElem?_eq_some_iff.1 hu).1
  exact (own_block (h.2.2 i u bs[i] hu (List.getElem?_eq_getElem hi)) hk).2
set_option maxRecDepth 100000 in
set_option maxHeartbeats 2000000 in
theorem markIntSS_any (v : Value) (B C : Nat) (us : List Value) (bs : List (List Int)) (k : Int) (hk0 : 0 ≤ k) (hk : k ≤ 10000000) (hl : us.length ≤ 1048576) (hs : sumI bs ≤ 1048576) (w : World) (h : ISO w B v us bs) (hC : ∀ (i : Nat) (u : Value) (k : Nat), us[i]? = some u → u.ownBlock = some k → k < C) (hBw : B ≤ w.heap.size) :
    Calls Try.prog 129 #[v, .int .i64 k] w fun e w' => ∃ r : Int, e = .returned (.int .i64 r) ∧ 0 ≤ r ∧ Below B w w' ∧ HighI C w w' := by
  obtain ⟨a, cap, rfl⟩ := own_shape h.1
  have HROW : Hid _ := h.1
  have HL : Hid (us.length = bs.length) := h.2.1
  have HEL : Hid (∀ (i : Nat) (u : Value) (b : List Int), us[i]? = some u → bs[i]? = some b → AnyInts w B u b.length) := fun i u b hu hb => ⟨_, h.2.2 i u b hu hb⟩
  have HC : Hid _ := hC
  clear h hC
  go_enter Try.func129, Try.ntmps129
  go_wp2_with fail
  go_loopw [1, 5] (fun x i wr => ∃ (j : Nat), j ≤ us.length ∧ i = .int .i64 j ∧ x = .int .i64 (k + sumI (bs.take j)) ∧ Hid (wr.ownsRow B 25 1 (.slice a us.length cap) us.length us) ∧ Hid (∀ (i : Nat) (u : Value) (b : List Int), us[i]? = some u → bs[i]? = some b → AnyInts wr B u b.length) ∧ Hid (Below B w wr) ∧ Hid (HighI C w wr)) (fun _ i _ => us.length - (intOf i).toNat)
  case atStart => exact ⟨0, by omega, rfl, by simp [sumI], HROW, HEL, Below.refl _ _, HighI.refl _ _⟩
  case round =>
    obtain ⟨j, hj, rfl, rfl, HR, HE, HB, HH⟩ := hrel
    have hsj := sumI_take bs j
    by_cases hlt' : j < us.length
    · obtain ⟨u, hu⟩ : ∃ u, us[j]? = some u := ⟨us[j], List.getElem?_eq_getElem hlt'⟩
      obtain ⟨b, hb⟩ : ∃ b, bs[j]? = some b := ⟨bs[j]'(by have := HL.out; omega), List.getElem?_eq_getElem _⟩
      obtain ⟨g, cap1, hsh⟩ : ∃ (g cap1 : Nat), (Value.slice a us.length cap) = .slice (some ⟨g, 0, none⟩) us.length cap1 := by
        rcases HR.out.2 with ⟨_, h0⟩ | ⟨g, cap1, cur, hv, _⟩
        · omega
        · exact ⟨g, cap1, hv⟩
      simp at hsh
      obtain ⟨rfl, rfl⟩ := hsh
      have c0 : wr.cell? ⟨g, j, none⟩ = some u := by
        rw [HR.out.cellAt j (by omega)]
        exact hu
      have hany := HE.out j u b hu hb
      obtain ⟨xs, hxs⟩ := hany
      have hsn := sumI_snoc bs j b hb
      have hsn2 := sumI_take bs (j + 1)
      have gM := markIntS_any u B b.length _ xs (k + sumI (bs.take j)) (by omega) (by omega) (by omega) wr hxs
      obtain ⟨ua, uc, husl⟩ := own_shape hxs
      have HAU : Hid (AnyInts wr B u b.length) := ⟨xs, hxs⟩
      have HXS : Hid _ := hxs
      have HSN : Hid (k + (sumI (bs.take j) : Int) + (b.length : Int) = k + (sumI (bs.take (j + 1)) : Int)) := (by omega : k + (sumI (bs.take j) : Int) + (b.length : Int) = k + (sumI (bs.take (j + 1)) : Int))
      rw [HSN.out] at gM
      have HUC : Hid (∀ k, u.ownBlock = some k → k < C) := fun k hk => HC.out j u k hu hk
      clear hu hb hxs hsn
      generalize hS1 : sumI (bs.take (j + 1)) = S1 at *
      generalize sumI (bs.take j) = S0 at *
      have HS1 : Hid _ := hS1
      clear hS1
      subst husl
      go_wp2_with fail
      refine gM.mono ?_
      rintro e w2 ⟨rfl, ho2, hg2⟩
      have HR2 : Hid (w2.ownsRow B 25 1 (.slice (some ⟨g, 0, none⟩) us.length cap) us.length us) := by
        refine World.ownsRow.kept HR.out hg2 (Or.inr ?_)
        intro e
        rcases HXS.out.2 with ⟨h9, _⟩ | ⟨g2, cap2, cur2, h9, _, hh2, _⟩
        · rw [h9] at e
          cases e
        · rw [h9] at e
          have e2 : g = g2 := Option.some.inj e
          rcases HR.out.2 with ⟨h8, _⟩ | ⟨g3, cap3, cur3, h8, _, hh3, _⟩
          · cases h8
          · simp at h8
            rw [← h8.1, e2, hh2] at hh3
            simp at hh3
      have HE2 : Hid (∀ (i : Nat) (u : Value) (b : List Int), us[i]? = some u → bs[i]? = some b → AnyInts w2 B u b.length) := fun i u' b' hu' hb' => anyI_kept (HE.out i u' b' hu' hb') HAU.out ho2 hg2
      have HB2 : Hid (Below B w w2) := HB.out.grown hg2 (by have := HB.out.size; omega) (fun k hk => (World.ownsRow.lt HXS.out k hk).1)
      have HH2 : Hid (HighI C w w2) := HH.out.grown hg2 HUC.out
      clear gM ho2 hg2
      go_wp2_with fail
      go_roundw
      case rel => exact ⟨j + 1, by omega, by go_num, by rw [HS1.out], HR2, HE2, HB2, HH2⟩
      case measure => simp [intOf]; omega
    · obtain rfl : j = us.length := by omega
      have HP : Hid (0 ≤ k + (sumI (bs.take us.length) : Int)) := (by omega : 0 ≤ k + (sumI (bs.take us.length) : Int))
      clear HR HE
      go_wp2_with fail
      go_ret
      exact ⟨_, rfl, HP.out, HB.out, HH.out⟩

theorem made_nilI : ∀ n : Nat, (madeCells #[Value.slice none 0 0] n).toList = List.replicate n (.slice none 0 0)
  | 0 => by simp [madeCells]
  | n + 1 => by
    have ih := made_nilI n
    unfold madeCells at *
    rw [Array.toList_map, Array.toList_range] at *
    rw [List.range_succ, List.map_append, ih, List.replicate_succ']
    simp [Nat.mod_one]
theorem set_nilI (us : List Value) (n : Nat) (x : Value) (h : us.length < n) : (us ++ List.replicate (n - us.length) (Value.slice none 0 0)).set us.length x = (us ++ [x]) ++ List.replicate (n - (us.length + 1)) (.slice none 0 0) := by
  obtain ⟨m, hm⟩ : ∃ m, n - us.length = m + 1 := ⟨n - us.length - 1, by omega⟩
  have hm' : n - (us.length + 1) = m := by omega
  rw [hm, hm', List.replicate_succ, List.append_assoc, List.set_append_right _ _ (by omega), Nat.sub_self]
  rfl
set_option maxRecDepth 100000 in
set_option maxHeartbeats 2000000 in
theorem toIntSS_in (c o cp : Nat) (bs : List (List Int)) (hl : bs.length ≤ 1048576) (w : World) (hclt : c < w.heap.size)
    (hcs : ∀ (i : Nat) (u : List Int), bs[i]? = some u → ∃ z : Value, w.cell? ⟨c, o + i, none⟩ = some z ∧ IntsAt w z u) (hok : ∀ b ∈ bs, b.length ≤ 1048576) :
    Calls Try.prog 127 #[.slice (some ⟨c, o, none⟩) bs.length cp] w fun e w' => ∃ v us, e = .returned v ∧ ISO w' w.heap.size v us bs ∧ Below w.heap.size w w' := by
  obtain ⟨i0, hi, hz0, hz1, hz2⟩ := info_parts infoInts2
  have HCS : Hid _ := hcs
  have HOK : Hid _ := hok
  have HL : Hid (∀ i : Nat, i < bs.length → ∃ b, bs[i]? = some b) := fun i hi => ⟨bs[i], List.getElem?_eq_getElem hi⟩
  clear hcs hok
  generalize hnn : bs.length = n at *
  have HNN : Hid _ := hnn
  clear hnn
  go_enter Try.func127, Try.ntmps127
  go_wp2_with (at_make; refine wpList_make_full _ rfl _ _ 49 rfl w.heap.size 25 i0 (.slice none 0 0) 1 Try.underlying49 hi hz0 hz1 .i64 .i64 _ _ n rfl rfl (by omega) (by omega) (by rw [hz2]; omega) (by unfold maxLen; omega) (Nat.le_refl _) ?_)
  intro w1 hown hgrow
  have HB1 : Hid (Below w.heap.size w w1) := (Below.refl _ _).grown hgrow (Nat.le_refl _) (fun k hk => by cases hk)
  have HO1 : Hid (w1.ownsRow w.heap.size 25 1 (.slice (some ⟨w.heap.size, 0, none⟩) n n) n (([] : List Value) ++ List.replicate (n - 0) (.slice none 0 0))) := by
    have h := hown
    rw [made_nilI] at h
    exact h
  clear hown hgrow
  go_wp2_with fail
  go_loopw [4] (fun i wr => ∃ (j : Nat) (us : List Value), j ≤ n ∧ i = .int .i64 j ∧ Hid (us.length = j) ∧ Hid (wr.ownsRow w.heap.size 25 1 (.slice (some ⟨w.heap.size, 0, none⟩) n n) n (us ++ List.replicate (n - us.length) (.slice none 0 0))) ∧ Hid (∀ (i : Nat) (u : Value) (b : List Int), us[i]? = some u → bs[i]? = some b → OwnInts2 wr w.heap.size u b) ∧ Hid (Below w.heap.size w wr)) (fun i _ => n - (intOf i).toNat)
  case atStart => exact ⟨0, [], by omega, rfl, rfl, HO1, fun i u b hu _ => by simp at hu, HB1⟩
  case round =>
    obtain ⟨j, us, hj, rfl, HU, HO, HE, HB⟩ := hrel
    by_cases hlt' : j < n
    · obtain ⟨u, hu⟩ := HL.out j hlt'
      obtain ⟨z, cz, hz⟩ := HCS.out j u hu
      have hul : u.length ≤ 1048576 := HOK.out u (List.mem_of_getElem? hu)
      rw [← HB.out.cell (p := ⟨c, o + j, none⟩) hclt] at cz
      have g := toIntS_any z u hul wr (hz.below HB.out)
      obtain ⟨za, zc, rfl⟩ := hz.shape
      have HX : Hid (bs[j]? = some u) := hu
      clear hu hz
      go_wp2_with fail
      refine g.mono ?_
      rintro e w2 ⟨x, rfl, hx, hb2⟩
      clear g
      have own2 := owns_below HO.out hb2
      have hlen : (us ++ List.replicate (n - us.length) (Value.slice none 0 0)).length = n * 1 := own2.1
      obtain ⟨u0, hu0⟩ : ∃ u0, (us ++ List.replicate (n - us.length) (Value.slice none 0 0))[j]? = some u0 := ⟨_, List.getElem?_eq_getElem (by omega)⟩
      have d0 : w2.cell? ⟨w.heap.size, j, none⟩ = some u0 := by rw [own2.cellAt j (by omega)]; exact hu0
      have f0 := own2.frozenAt j
      have hb3 : Below w.heap.size w w2 := HB.out.trans (hb2.mono HB.out.size)
      have st := own2.stored j x
      have HN : Hid ((w2.setCell ⟨w.heap.size, j, none⟩ x).ownsRow w.heap.size 25 1 (.slice (some ⟨w.heap.size, 0, none⟩) n n) n ((us ++ [x]) ++ List.replicate (n - (us ++ [x]).length) (.slice none 0 0))) := by
        have h1 := st.1
        have hU := HU.out
        subst hU
        rw [set_nilI us n x hlt'] at h1
        rw [List.length_append]
        exact h1
      have HE2 : Hid (∀ (i : Nat) (y : Value) (b : List Int), (us ++ [x])[i]? = some y → bs[i]? = some b → OwnInts2 (w2.setCell ⟨w.heap.size, j, none⟩ x) w.heap.size y b) := by
        intro i y b hy hb
        have hU := HU.out
        by_cases hi2 : i < us.length
        · rw [List.getElem?_append_left hi2] at hy
          exact ints_apart2 own2 (owns_below (HE.out i y b hy hb) hb2) st.2
        · rw [List.getElem?_append_right (by omega)] at hy
          have e0 : i - us.length = 0 := by
            have := (List.getElem?_eq_some_iff.1 hy).1
            simp at this
            omega
          rw [e0] at hy
          simp at hy
          subst hy
          obtain rfl : i = j := by omega
          have hX := HX.out
          rw [hX] at hb
          obtain rfl := Option.some.inj hb
          exact ints_apart2 own2 (OwnInts2.low hx HB.out.size) st.2
      have HB3 : Hid (Below w.heap.size w (w2.setCell ⟨w.heap.size, j, none⟩ x)) := hb3.setCell (Nat.le_refl _) _
      have HU2 : Hid ((us ++ [x]).length = j + 1) := by
        show (us ++ [x]).length = j + 1
        rw [List.length_append, HU.out]
        rfl
      obtain ⟨xa, xc, rfl⟩ := own_shape hx
      clear own2 hlen hu0 hb2 hb3 HB HO HB1 HO1 HX cz hx st HE HU
      go_wp2_with fail
      go_roundw
      case rel => exact ⟨j + 1, _, by omega, by go_num, HU2, HN, HE2, HB3⟩
      case measure => simp [intOf]; omega
    · obtain rfl : j = n := by omega
      have HN : Hid (ISO wr w.heap.size (.slice (some ⟨w.heap.size, 0, none⟩) j j) us bs) := by
        have h1 := HO.out
        have hU := HU.out
        subst hU
        rw [Nat.sub_self, List.replicate_zero, List.append_nil] at h1
        exact ⟨h1, HNN.out.symm, HE.out⟩
      clear HO HE
      go_wp2_with fail
      go_ret
      exact ⟨_, _, rfl, HN.out, HB.out⟩
set_option maxRecDepth 100000 in
theorem toIntSS_nil (a : Option Addr) (cp : Nat) (w : World) :
    Calls Try.prog 127 #[.slice a 0 cp] w fun e w' => ∃ v us, e = .returned v ∧ ISO w' w.heap.size v us [] ∧ Below w.heap.size w w' := by
  obtain ⟨i0, hi, hz0, hz1, hz2⟩ := info_parts infoInts2
  go_enter Try.func127, Try.ntmps127
  go_wp2_with (at_make; refine wpList_make_full _ rfl _ _ 49 rfl w.heap.size 25 i0 (.slice none 0 0) 1 Try.underlying49 hi hz0 hz1 .i64 .i64 _ _ 0 rfl rfl (by omega) (by omega) (by rw [hz2]; omega) (by unfold maxLen; omega) (Nat.le_refl _) ?_)
  intro w1 hown hgrow
  have HB : Hid (Below w.heap.size w w1) := (Below.refl _ _).grown hgrow (Nat.le_refl _) (fun k hk => by cases hk)
  have HO : Hid (ISO w1 w.heap.size (.slice (some ⟨w.heap.size, 0, none⟩) 0 0) [] []) := by
    have h : (madeCells #[Value.slice none 0 0] 0).toList = [] := made_nilI 0
    have h2 := hown
    rw [h] at h2
    exact ⟨h2, rfl, fun i u b hu _ => by simp at hu⟩
  clear hown hgrow
  go_wp2_with fail
  go_loopw [4] (fun i wr => i = .int .i64 0 ∧ wr = w1) (fun _ _ => 0)
  case atStart => exact ⟨rfl, rfl⟩
  case round =>
    obtain ⟨rfl, rfl⟩ := hrel
    go_wp2_with fail
    go_ret
    exact ⟨_, _, rfl, HO.out, HB.out⟩
theorem toIntSS_any (v : Value) (bs : List (List Int)) (hl : bs.length ≤ 1048576) (w : World) (h : IntsSS w v bs) (hok : ∀ b ∈ bs, b.length ≤ 1048576) :
    Calls Try.prog 127 #[v] w fun e w' => ∃ v' us, e = .returned v' ∧ ISO w' w.heap.size v' us bs ∧ Below w.heap.size w w' := by
  rcases h.2 with ⟨rfl, a, cap, rfl⟩ | ⟨c, o, cp, rfl, hc, hcs⟩
  · exact toIntSS_nil a cap w
  · exact toIntSS_in c o cp bs hl w hc hcs hok
section
open Go.ChangeShapes Go.WideShapes Go.ChangeAt

theorem cellsInts2 : Try.prog.cellsOf 25 = 1 := by kernel_rfl
theorem intsAt_cell {H : Type} {enc : TypeId × Value → H} {W : World} {u : Value} {n : Nat} {x : DataW H × List MemPlace}
    (h : DataW.trod enc Try.prog W 0 (fun _ => true) true n 25 [u] = some x) : ∃ t : List Int, IntsAt W u t := by
  rcases Deep.open_slice Try.underlying25 h with ⟨hcs, _⟩ | ⟨a, l, c, m, n', D, Pl, hcs, _⟩
  · simp at hcs
    subst hcs
    exact intsAt_arg (d := x.1) (p := x.2) ⟨n, h⟩
  · simp at hcs
    subst hcs
    exact intsAt_arg (d := x.1) (p := x.2) ⟨n, h⟩
theorem intsSS_of {H : Type} {enc : TypeId × Value → H} {W : World} {a : Option Addr} {len cap : Nat} {d : DataW H} {p : List MemPlace}
    (h : DataW.Trod enc Try.prog W 0 (fun _ => true) true 49 (.slice a len cap) d p) : ∃ bs : List (List Int), IntsSS W (.slice a len cap) bs := by
  obtain ⟨fuel, hf⟩ := h
  rcases Deep.open_slice1 Try.underlying49 cellsInts2 hf with ⟨hcs, _⟩ | ⟨x, l, c, m, n, V, D, Pl, hcs, _, hl, hm, hmm, _, hel⟩
  · simp [Value.cells] at hcs
    obtain ⟨rfl, rfl, rfl⟩ := hcs
    exact ⟨[], by simp, Or.inl ⟨rfl, none, 0, rfl⟩⟩
  · simp [Value.cells] at hcs
    obtain ⟨rfl, rfl, rfl⟩ := hcs
    have hmx := hm
    unfold maxLen at hmx
    simp only [if_true] at hmm
    subst hmm
    have each : ∀ i, i < len → ∃ t : List Int, W.cell? (x.add i) = some (V i) ∧ IntsAt W (V i) t := by
      intro i hi
      obtain ⟨k0, ht⟩ := hel i (by omega)
      obtain ⟨t, k1⟩ := intsAt_cell ht
      exact ⟨t, k0, k1⟩
    obtain ⟨f, hf⟩ := Deep.choose_lt each
    refine ⟨(List.range len).map f, by simpa using (by omega), ?_⟩
    by_cases h0 : len = 0
    · subst h0
      exact Or.inl ⟨rfl, _, _, rfl⟩
    · obtain ⟨b, off, spot⟩ := x
      have hc := (hf 0 (by omega)).1
      have hspot : spot = none := by simpa [Addr.add] using World.cell?_spot hc
      subst hspot
      refine Or.inr ⟨b, off, _, by rw [List.length_map, List.length_range], ?_, ?_⟩
      · have h1 : W.cell? ⟨b, off, none⟩ = some (V 0) := by simpa [Addr.add] using hc
        by_cases hb : b < W.heap.size
        · exact hb
        · have e : W.heap[b]? = none := Array.getElem?_eq_none (by omega)
          simp [World.cell?, e] at h1
      · intro i y hy
        have hi : i < len := by
          have := (List.getElem?_eq_some_iff.1 hy).1
          simpa using this
        have hy' : y = f i := by
          simp [hi] at hy
          exact hy.symm
        subst hy'
        obtain ⟨k0, k1⟩ := hf i hi
        refine ⟨V i, ?_, k1⟩
        by_cases hi0 : i = 0
        · subst hi0
          simpa [Addr.add] using k0
        · simpa [Addr.add, hi0] using k0
end
end Go.Proofs.Ytmjeaceabjinfaa
