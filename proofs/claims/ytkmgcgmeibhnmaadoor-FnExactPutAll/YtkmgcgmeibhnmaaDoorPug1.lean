/-
  A slice of slices of nodes that came in, as the walks take it.
  The laws' helpers over slices of slices of nodes: sizes and comparisons.
  The laws' helpers over slices of slices of nodes: sizes, copies, comparisons, marks.
  The laws' helpers over slices of slices of nodes: marks and copies.
  The laws' helpers over slices of slices of nodes: copies.
  What is put for the variables of a tree: the program's put.
  The tree of a term, all of it new: the program's rootOf, told once more with where its nodes lie.
  The program's rootOfKind and PutAll.
  The walk of the exact law of PutAll, out of what the program's own function does.
-/
import Derived.Test.YtkmgcgmeibhnmaaDoorArgNodes
import Derived.Test.YtkmgcgmeibhnmaaDoorPuts
import Derived.Test.YtkmgcgmeibhnmaaDoorPuts2
import Derived.Deep.RegionWith
import Derived.Test.YtkmgcgmeibhnmaaDoorLTurn
import Derived.Test.YtkmgcgmeibhnmaaDoorINode
import Derived.Test.YtkmgcgmeibhnmaaDoorIFold2
namespace Go.Proofs.YtkmgcgmeibhnmaaDoor
open Go Go.ChangeShapes Go.WideShapes Go.ChangeAt Go.RowKit
open M
set_option linter.unusedVariables false

theorem cellsNodes : Tryd.prog.cellsOf 59 = 1 := by kernel_rfl
theorem nodesAt_cell {H : Type} {enc : TypeId × Value → H} {W : World} {u : Value} {n : Nat} {x : DataW H × List MemPlace}
    (h : DataW.trod enc Tryd.prog W 0 (fun _ => true) true n 59 [u] = some x) : ∃ t : List Nd, NodesAt W u t := by
  rcases Deep.open_slice Tryd.underlying59 h with ⟨hcs, _⟩ | ⟨a, l, c, m, n', D, Pl, hcs, _⟩
  · simp at hcs
    subst hcs
    exact nodesAt_of (d := x.1) (p := x.2) ⟨n, h⟩
  · simp at hcs
    subst hcs
    exact nodesAt_of (d := x.1) (p := x.2) ⟨n, h⟩
theorem nodesSS_of {H : Type} {enc : TypeId × Value → H} {W : World} {a : Option Addr} {len cap : Nat} {d : DataW H} {p : List MemPlace}
    (h : DataW.Trod enc Tryd.prog W 0 (fun _ => true) true 70 (.slice a len cap) d p) : ∃ bs : List (List Nd), NodesSS W (.slice a len cap) bs := by
  obtain ⟨fuel, hf⟩ := h
  rcases Deep.open_slice1 Tryd.underlying70 cellsNodes hf with ⟨hcs, _⟩ | ⟨x, l, c, m, n, V, D, Pl, hcs, _, hl, hm, hmm, _, hel⟩
  · simp [Value.cells] at hcs
    obtain ⟨rfl, rfl, rfl⟩ := hcs
    exact ⟨[], by simp, Or.inl ⟨rfl, none, 0, rfl⟩⟩
  · simp [Value.cells] at hcs
    obtain ⟨rfl, rfl, rfl⟩ := hcs
    have hmx := hm
    unfold maxLen at hmx
    simp only [if_true] at hmm
    subst hmm
    have each : ∀ i, i < len → ∃ t : List Nd, W.cell? (x.add i) = some (V i) ∧ NodesAt W (V i) t := by
      intro i hi
      obtain ⟨k0, ht⟩ := hel i (by omega)
      obtain ⟨t, k1⟩ := nodesAt_cell ht
      exact ⟨t, k0, k1⟩
    obtain ⟨f, hf⟩ := Deep.choose_lt each
    refine ⟨(List.range len).map f, by simpa using (by omega), ?_⟩
    by_cases h0 : len = 0
    · subst h0
      exact Or.inl ⟨rfl, _, _, rfl⟩
    · obtain ⟨b, off, spot⟩ := x
      have hc := (hf 0 (by omega)).1
      have hspot : spot = none := by simpa [Addr.add] using World.cell?_spot hc
      subst hspot
      refine Or.inr ⟨b, off, _, by rw [List.length_map, List.length_range], ?_, ?_⟩
      · have h1 : W.cell? ⟨b, off, none⟩ = some (V 0) := by simpa [Addr.add] using hc
        by_cases hb : b < W.heap.size
        · exact hb
        · have e : W.heap[b]? = none := Array.getElem?_eq_none (by omega)
          simp [World.cell?, e] at h1
      · intro i y hy
        have hi : i < len := by
          have := (List.getElem?_eq_some_iff.1 hy).1
          simpa using this
        have hy' : y = f i := by
          simp [hi] at hy
          exact hy.symm
        subst hy'
        obtain ⟨k0, k1⟩ := hf i hi
        refine ⟨V i, ?_, k1⟩
        by_cases hi0 : i = 0
        · subst hi0
          simpa [Addr.add] using k0
        · simpa [Addr.add, hi0] using k0
end Go.Proofs.YtkmgcgmeibhnmaaDoor

namespace Go.Proofs.YtkmgcgmeibhnmaaDoor
open Go Go.RowKit
open M
set_option linter.unusedVariables false

/-- how many nodes lie in lists -/
def sumL : List (List Nd) → Nat
  | [] => 0
  | t :: r => t.length + sumL r
theorem sumL_append : ∀ a b : List (List Nd), sumL (a ++ b) = sumL a + sumL b
  | [], b => by simp [sumL]
  | t :: r, b => by
    rw [List.cons_append]
    simp only [sumL]
    rw [sumL_append r b]
    omega
theorem sumL_take (bs : List (List Nd)) (j : Nat) : sumL (bs.take j) ≤ sumL bs := by
  have h : sumL (bs.take j ++ bs.drop j) = sumL bs := by rw [List.take_append_drop]
  rw [sumL_append] at h
  omega
theorem sumL_snoc (bs : List (List Nd)) (j : Nat) (u : List Nd) (hu : bs[j]? = some u) : sumL (bs.take (j + 1)) = sumL (bs.take j) + u.length := by
  rw [List.take_add_one, hu]
  show sumL (bs.take j ++ [u]) = _
  rw [sumL_append]
  simp [sumL]
set_option maxRecDepth 100000 in
set_option maxHeartbeats 1000000 in
theorem szNodeSS_in (c o cp : Nat) (bs : List (List Nd)) (left : Int) (h0 : 0 ≤ left) (h1 : left ≤ 1048576) (hl : bs.length ≤ left) (w : World) (hclt : c < w.heap.size)
    (hcs : ∀ (i : Nat) (u : List Nd), bs[i]? = some u → ∃ z : Value, w.cell? ⟨c, o + i, none⟩ = some z ∧ NodesAt w z u) :
    Calls Tryd.prog 52 #[.slice (some ⟨c, o, none⟩) bs.length cp, .int .i64 left] w fun e w' => e = .returned (.int .i64 (if left - bs.length < sumL bs then -1 else left - bs.length - sumL bs)) ∧ w' = w := by
  have HCS : Hid _ := hcs
  clear hcs
  generalize hR : (if left - bs.length < sumL bs then (-1 : Int) else left - bs.length - sumL bs) = R at *
  have HR : Hid _ := hR
  clear hR
  go_enter Tryd.func52, Tryd.ntmps52
  go_wp2_with fail
  go_loop [1, 5] (fun l i => ∃ j : Nat, j ≤ bs.length ∧ i = .int .i64 j ∧ l = .int .i64 (left - bs.length - sumL (bs.take j)) ∧ 0 ≤ left - bs.length - sumL (bs.take j)) (fun _ i => bs.length - (intOf i).toNat)
  case atStart => exact ⟨0, by omega, rfl, by simp [sumL], by simp [sumL]; omega⟩
  case round =>
    obtain ⟨j, hj, rfl, rfl, hpos⟩ := hrel
    by_cases hlt' : j < bs.length
    · obtain ⟨u, hu⟩ : ∃ u, bs[j]? = some u := ⟨bs[j], List.getElem?_eq_getElem hlt'⟩
      obtain ⟨z, cz, hz⟩ := HCS.out j u hu
      have hs1 := sumL_snoc bs j u hu
      have hs2 := sumL_take bs (j + 1)
      have hul := hz.2.1
      obtain ⟨za, zc, rfl⟩ := hz.shape
      have g := szNodeS_any za u.length zc (left - bs.length - sumL (bs.take j)) hul hpos (by omega) w
      clear hu hz
      by_cases h : left - bs.length - sumL (bs.take j) < u.length
      · rw [if_pos h] at g
        have eR : (-1 : Int) = R := by
          have h3 := HR.out
          rw [if_pos (by omega)] at h3
          exact h3
        clear h
        go_wp2_with fail
        refine g.mono ?_
        rintro e w2 ⟨rfl, rfl⟩
        clear g
        go_wp2_with fail
        go_ret
        exact ⟨congrArg (fun x => Ending.returned (Value.int .i64 x)) eR, rfl⟩
      · rw [if_neg h] at g
        go_wp2_with fail
        refine g.mono ?_
        rintro e w2 ⟨rfl, rfl⟩
        clear g
        go_wp2_with fail
        go_round
        case rel => exact ⟨j + 1, by omega, by go_num, by go_num, by omega⟩
        case measure => simp [intOf]; omega
    · obtain rfl : j = bs.length := by omega
      have eR : left - bs.length - sumL bs = R := by
        have h3 := HR.out
        rw [List.take_length] at hpos
        rw [if_neg (by omega)] at h3
        exact h3
      go_wp2_with fail
      go_ret
      exact ⟨rfl, rfl⟩
set_option maxRecDepth 100000 in
set_option maxHeartbeats 1000000 in
theorem eqNodeSS_in (c o cp d q dp : Nat) (bs ds : List (List Nd)) (hl : bs.length ≤ 9223372036854775807) (hd : ds.length = bs.length) (w : World) (hclt : c < w.heap.size) (hdlt : d < w.heap.size)
    (hcs : ∀ (i : Nat) (u : List Nd), bs[i]? = some u → ∃ z : Value, w.cell? ⟨c, o + i, none⟩ = some z ∧ NodesAt w z u)
    (hds : ∀ (i : Nat) (u : List Nd), ds[i]? = some u → ∃ z : Value, w.cell? ⟨d, q + i, none⟩ = some z ∧ NodesAt w z u) :
    Calls Tryd.prog 54 #[.slice (some ⟨c, o, none⟩) bs.length cp, .slice (some ⟨d, q, none⟩) ds.length dp] w fun e w' => e = .returned (.bool (decide (bs = ds))) ∧ Below w.heap.size w w' := by
  have HCS : Hid _ := hcs
  have HDS : Hid _ := hds
  clear hcs hds
  rw [hd]
  have HD : Hid _ := hd
  clear hd
  go_enter Tryd.func54, Tryd.ntmps54
  go_wp2_with fail
  go_loopw [5] (fun i wr => ∃ j : Nat, j ≤ bs.length ∧ i = .int .i64 j ∧ Hid (bs.take j = ds.take j) ∧ Hid (Below w.heap.size w wr)) (fun i _ => bs.length - (intOf i).toNat)
  case atStart => exact ⟨0, by omega, rfl, (by simp : bs.take 0 = ds.take 0), Below.refl _ _⟩
  case round =>
    obtain ⟨j, hj, rfl, HT, HB⟩ := hrel
    by_cases hlt' : j < bs.length
    · obtain ⟨u, hu⟩ : ∃ u, bs[j]? = some u := ⟨bs[j], List.getElem?_eq_getElem hlt'⟩
      obtain ⟨y, hy⟩ : ∃ y, ds[j]? = some y := ⟨ds[j]'(by have := HD.out; omega), List.getElem?_eq_getElem (by have := HD.out; omega)⟩
      obtain ⟨z, cz, hz⟩ := HCS.out j u hu
      obtain ⟨x, cx, hx⟩ := HDS.out j y hy
      rw [← HB.out.cell (p := ⟨c, o + j, none⟩) hclt] at cz
      rw [← HB.out.cell (p := ⟨d, q + j, none⟩) hdlt] at cx
      have G : Hid (∀ w1 : World, Below w.heap.size w w1 → Calls Tryd.prog 43 #[z, x] w1 fun e w' => e = .returned (.bool (decide (u = y))) ∧ Below w1.heap.size w1 w') := fun w1 hb => eqNodeS_any z x u y w1 (hz.below hb) (hx.below hb)
      obtain ⟨za, zc, rfl⟩ := hz.shape
      obtain ⟨xa, xc, rfl⟩ := hx.shape
      by_cases h : u = y
      · rw [decide_eq_true h] at G
        have HT2 : Hid (bs.take (j + 1) = ds.take (j + 1)) := by
          show bs.take (j + 1) = ds.take (j + 1)
          rw [List.take_add_one, List.take_add_one, hu, hy, HT.out, h]
        clear h hu hy hz hx
        go_wp2_with fail
        go_region_with (go_at_call 43; refine (G.out _ (by first | exact HB.out | exact HB.out.drew | exact HB.out.drew.drew)).mono ?_; rintro e w2 ⟨rfl, hb2⟩; have HB2 : Hid (Below w.heap.size w w2) := (by first | exact HB.out.trans (hb2.mono HB.out.size) | exact HB.out.drew.trans (hb2.mono HB.out.size) | exact HB.out.drew.drew.trans (hb2.mono HB.out.size)); clear hb2)
        all_goals
          clear G HB
          go_wp2_with fail
          go_roundw
          case rel => exact ⟨j + 1, by omega, by go_num, HT2, by assumption⟩
          case measure => simp [intOf]; omega
      · rw [decide_eq_false h] at G
        have HN : Hid (decide (bs = ds) = false) := decide_eq_false (fun e => by
          rw [e, hy] at hu
          exact h (Option.some.inj hu).symm)
        clear h hu hy hz hx
        go_wp2_with fail
        go_region_with (go_at_call 43; refine (G.out _ (by first | exact HB.out | exact HB.out.drew | exact HB.out.drew.drew)).mono ?_; rintro e w2 ⟨rfl, hb2⟩; have HB2 : Hid (Below w.heap.size w w2) := (by first | exact HB.out.trans (hb2.mono HB.out.size) | exact HB.out.drew.trans (hb2.mono HB.out.size) | exact HB.out.drew.drew.trans (hb2.mono HB.out.size)); clear hb2)
        all_goals
          clear G HB
          go_wp2_with fail
          go_ret
          exact ⟨ret_bool HN.out.symm, Hid.out (by assumption)⟩
    · obtain rfl : j = bs.length := by omega
      have HN : Hid (decide (bs = ds) = true) := decide_eq_true (by
        have h := HT.out
        rw [List.take_length, ← HD.out, List.take_length] at h
        exact h)
      go_wp2_with fail
      go_ret
      exact ⟨ret_bool HN.out.symm, HB.out⟩
theorem szNodeSS_any (v : Value) (bs : List (List Nd)) (left : Int) (h0 : 0 ≤ left) (h1 : left ≤ 1048576) (hl : bs.length ≤ left) (w : World) (h : NodesSS w v bs) (hne : bs ≠ []) :
    Calls Tryd.prog 52 #[v, .int .i64 left] w fun e w' => e = .returned (.int .i64 (if left - bs.length < sumL bs then -1 else left - bs.length - sumL bs)) ∧ w' = w := by
  rcases h.2 with ⟨h, _⟩ | ⟨c, o, cp, rfl, hclt, hcs⟩
  · exact absurd h hne
  · exact szNodeSS_in c o cp bs left h0 h1 hl w hclt hcs
end Go.Proofs.YtkmgcgmeibhnmaaDoor

namespace Go.Proofs.YtkmgcgmeibhnmaaDoor
open Go Go.RowKit
open M
set_option linter.unusedVariables false

theorem infoNodes : (Tryd.prog.info? 24).map (fun i => (i.zero, i.size, i.bytes)) = some (some (.slice none 0 0), 1, 24) := by kernel_rfl
/-- nodes are kept where a row of lists grows -/
theorem nodes_apart2 {w w7 : World} {B B' n : Nat} {v u : Value} {us : List Value} {b : List Nd} (hv : w.ownsRow B 24 1 v n us) (hu : OwnNodes w B' u b) (grow : w.grownBy w7 v.ownBlock) : OwnNodes w7 B' u b := by
  obtain ⟨h1, h2⟩ := hu
  refine ⟨h1, ?_⟩
  rcases h2 with h2 | ⟨g, cap, cur, he, hg, hh, r⟩
  · exact Or.inl h2
  · refine Or.inr ⟨g, cap, cur, he, hg, ?_, r⟩
    rw [grow.block g (Array.getElem?_eq_some_iff.1 hh).1 ?_]
    · exact hh
    · intro e
      rcases hv.2 with ⟨rfl, _⟩ | ⟨g', cap', cur', rfl, _, hh', _⟩
      · cases e
      · have e2 : g = g' := Option.some.inj e
        rw [← e2, hh] at hh'
        simp at hh'
theorem szNodeSS_much (a : Option Addr) (n cp : Nat) (left : Int) (h0 : 0 ≤ left) (h1 : left ≤ 1048576) (hn : n ≤ 9223372036854775807) (hl : left < n) (w : World) :
    Calls Tryd.prog 52 #[.slice a n cp, .int .i64 left] w fun e w' => e = .returned (.int .i64 (-1)) ∧ w' = w := by
  go_enter Tryd.func52, Tryd.ntmps52
  go_wp2_with fail
  go_ret
  exact ⟨rfl, rfl⟩
theorem szNodeSS_none (a : Option Addr) (cp : Nat) (left : Int) (h0 : 0 ≤ left) (h1 : left ≤ 1048576) (w : World) :
    Calls Tryd.prog 52 #[.slice a 0 cp, .int .i64 left] w fun e w' => e = .returned (.int .i64 left) ∧ w' = w := by
  go_enter Tryd.func52, Tryd.ntmps52
  go_wp2_with fail
  go_loop [1, 5] (fun l i => i = .int .i64 0 ∧ l = .int .i64 left) (fun _ _ => 0)
  case atStart => exact ⟨rfl, by simp⟩
  case round =>
    obtain ⟨rfl, rfl⟩ := hrel
    go_wp2_with fail
    go_ret
    exact ⟨rfl, rfl⟩
/-- what is left of a size behind lists of nodes, less than 0 where they are too many -/
def leftSS (left : Int) (bs : List (List Nd)) : Int := if left - bs.length < sumL bs then -1 else left - bs.length - sumL bs
theorem szNodeSS_all (v : Value) (bs : List (List Nd)) (left : Int) (h0 : 0 ≤ left) (h1 : left ≤ 1048576) (w : World) (h : NodesSS w v bs) :
    Calls Tryd.prog 52 #[v, .int .i64 left] w fun e w' => e = .returned (.int .i64 (leftSS left bs)) ∧ w' = w := by
  unfold leftSS
  by_cases hl : (bs.length : Int) ≤ left
  · by_cases hne : bs = []
    · subst hne
      obtain ⟨a, cp, rfl⟩ := h.shape
      have e : (if left - (([] : List (List Nd)).length : Int) < sumL [] then (-1 : Int) else left - (([] : List (List Nd)).length : Int) - sumL []) = left := by
        simp [sumL]
        omega
      rw [e]
      exact szNodeSS_none a cp left h0 h1 w
    · exact szNodeSS_any v bs left h0 h1 (by omega) w h hne
  · obtain ⟨a, cp, rfl⟩ := h.shape
    rw [if_pos (by omega)]
    exact szNodeSS_much a bs.length cp left h0 h1 h.1 (by omega) w
theorem eqNodeSS_nil (a a' : Option Addr) (cap cap' : Nat) (w : World) :
    Calls Tryd.prog 54 #[.slice a 0 cap, .slice a' 0 cap'] w fun e w' => e = .returned (.bool true) ∧ w' = w := by
  go_enter Tryd.func54, Tryd.ntmps54
  go_wp2_with fail
  go_loop [5] (fun i => i = .int .i64 0) (fun _ => 0)
  case atStart => rfl
  case round =>
    obtain rfl := hrel
    go_wp2_with fail
    go_ret
    exact ⟨rfl, rfl⟩
theorem eqNodeSS_same (u v : Value) (bs : List (List Nd)) (w : World) (h1 : NodesSS w u bs) (h2 : NodesSS w v bs) :
    Calls Tryd.prog 54 #[u, v] w fun e w' => e = .returned (.bool true) ∧ Below w.heap.size w w' := by
  rcases h1.2 with ⟨rfl, a, cap, rfl⟩ | ⟨c, o, cp, rfl, hc, hcs⟩
  · obtain ⟨a', cap', rfl⟩ := h2.shape
    refine (eqNodeSS_nil a a' cap cap' w).mono ?_
    rintro e w' ⟨he, rfl⟩
    exact ⟨he, Below.refl _ _⟩
  · rcases h2.2 with ⟨rfl, a', cap', rfl⟩ | ⟨d, q, dp, rfl, hd, hds⟩
    · refine (eqNodeSS_nil _ a' cp cap' w).mono ?_
      rintro e w' ⟨he, rfl⟩
      exact ⟨he, Below.refl _ _⟩
    · have g := eqNodeSS_in c o cp d q dp bs bs h1.1 rfl w hc hd hcs hds
      rw [decide_eq_true rfl] at g
      exact g
/-- some row of nodes, whatever they are -/
def AnyOwn (w : World) (B : Nat) (u : Value) (n : Nat) : Prop := ∃ xs, w.ownsRow B 91 2 u n xs
/-- marks in one row leave every row a row -/
theorem any_kept {w w' : World} {B : Nat} {u x : Value} {n m : Nat} {ys : List Value} (h : AnyOwn w B u n) (hx : AnyOwn w B x m) (hx' : w'.ownsRow B 91 2 x m ys) (hg : w.grownBy w' x.ownBlock) : AnyOwn w' B u n := by
  obtain ⟨xs, h1, h2⟩ := h
  rcases h2 with ⟨rfl, h0⟩ | ⟨g, cap, cur, rfl, hB, hh, hc, hm, hs, ht⟩
  · exact ⟨[], by subst h0; rfl, Or.inl ⟨rfl, h0⟩⟩
  · by_cases e : some g = x.ownBlock
    · obtain ⟨zs, _, hz⟩ := hx
      rcases hz with ⟨rfl, _⟩ | ⟨g1, cap1, cur1, rfl, _, hh1, _, _, hs1, _⟩
      · cases e
      · obtain rfl : g = g1 := Option.some.inj e
        rw [hh] at hh1
        simp at hh1
        subst hh1
        rcases hx'.2 with ⟨h9, _⟩ | ⟨g2, cap2, cur2, h9, _, hh2, _, _, hs2, _⟩
        · cases h9
        · simp at h9
          obtain ⟨rfl, rfl⟩ := h9
          refine ⟨cur2.toList.take (n * 2), ?_, Or.inr ⟨g, cap, cur2, rfl, hB, hh2, hc, hm, by omega, rfl⟩⟩
          simp
          omega
    · refine ⟨xs, h1, Or.inr ⟨g, cap, cur, rfl, hB, ?_, hc, hm, hs, ht⟩⟩
      rw [hg.block g (Array.getElem?_eq_some_iff.1 hh).1 e]
      exact hh
end Go.Proofs.YtkmgcgmeibhnmaaDoor

namespace Go.Proofs.YtkmgcgmeibhnmaaDoor
open Go Go.RowKit
open M
set_option linter.unusedVariables false

/-- lists of nodes in a row, all of it owned from B on, whatever they are -/
def SSO (w : World) (B : Nat) (v : Value) (us : List Value) (bs : List (List Nd)) : Prop :=
  w.ownsRow B 24 1 v us.length us ∧ us.length = bs.length ∧ ∀ (i : Nat) (u : Value) (b : List Nd), us[i]? = some u → bs[i]? = some b → OwnNodes w B u b
theorem SSO.below {w w' : World} {B : Nat} {v : Value} {us : List Value} {bs : List (List Nd)} (h : SSO w B v us bs) (hb : Below w.heap.size w w') : SSO w' B v us bs :=
  ⟨owns_below h.1 hb, h.2.1, fun i u x hu hx => owns_below (h.2.2 i u x hu hx) hb⟩
theorem SSO.ss {w : World} {B : Nat} {v : Value} {us : List Value} {bs : List (List Nd)} (h : SSO w B v us bs) (hl : bs.length ≤ 1048576) (hok : ∀ b ∈ bs, (∀ x ∈ b, NdOk x) ∧ b.length ≤ 1048576) : NodesSS w v bs := by
  refine ⟨by omega, ?_⟩
  rcases h.1.2 with ⟨rfl, h0⟩ | ⟨g, cap, cur, rfl, hg, hh, _⟩
  · exact Or.inl ⟨List.length_eq_zero_iff.1 (by rw [← h.2.1]; exact h0), none, 0, rfl⟩
  · refine Or.inr ⟨g, 0, cap, by rw [h.2.1], (Array.getElem?_eq_some_iff.1 hh).1, fun i t ht => ?_⟩
    have hi : i < us.length := by
      rw [h.2.1]
      exact (List.getElem?_eq_some_iff.1 ht).1
    obtain ⟨u, hu⟩ : ∃ u, us[i]? = some u := ⟨us[i], List.getElem?_eq_getElem hi⟩
    have p1 := h.2.2 i u t hu ht
    obtain ⟨p2, p3⟩ := hok t (List.mem_of_getElem? ht)
    refine ⟨u, ?_, nodes_of_own p2 (by omega) p1⟩
    rw [Nat.zero_add, h.1.cellAt i (by omega)]
    exact hu
/-- what lies from C on is as before -/
def High (C : Nat) (w w' : World) : Prop := w.heap.size ≤ w'.heap.size ∧ ∀ k, C ≤ k → k < w.heap.size → w'.heap[k]? = w.heap[k]?
theorem High.refl (C : Nat) (w : World) : High C w w := ⟨Nat.le_refl _, fun _ _ _ => rfl⟩
theorem High.grown {C : Nat} {w w1 w2 : World} {row : Option Nat} (h : High C w w1) (hg : w1.grownBy w2 row) (hr : ∀ k, row = some k → k < C) : High C w w2 := by
  refine ⟨Nat.le_trans h.1 hg.size, fun k hk hs => ?_⟩
  rw [hg.block k (by have := h.1; omega) (fun e => by have := hr k e.symm; omega)]
  exact h.2 k hk hs
theorem own_high3 {w w' : World} {C : Nat} {e : TypeId} {s : Nat} {v : Value} {n : Nat} {xs : List Value} (h : w.ownsRow C e s v n xs) (hh : High C w w') : w'.ownsRow C e s v n xs := by
  obtain ⟨h1, h2⟩ := h
  refine ⟨h1, ?_⟩
  rcases h2 with h2 | ⟨g, cap, cur, hv, hB, hg, r⟩
  · exact Or.inl h2
  · refine Or.inr ⟨g, cap, cur, hv, hB, ?_, r⟩
    rw [hh.2 g hB (Array.getElem?_eq_some_iff.1 hg).1]
    exact hg
theorem SSO.other {w w' : World} {B : Nat} {v : Value} {us : List Value} {bs : List (List Nd)} {row : Option Nat} (h : SSO w B v us bs) (hg : w.grownBy w' row) (hr : ∀ k, row = some k → k < B) : SSO w' B v us bs :=
  ⟨own_other h.1 hg hr, h.2.1, fun i u x hu hx => own_other (h.2.2 i u x hu hx) hg hr⟩
/-- all of it lies below the heap's end -/
theorem SSO.under {w : World} {B : Nat} {v : Value} {us : List Value} {bs : List (List Nd)} (h : SSO w B v us bs) (i : Nat) (u : Value) (k : Nat) (hu : us[i]? = some u) (hk : u.ownBlock = some k) : k < w.heap.size := by
  have hi : i < bs.length := by
    rw [← h.2.1]
    exact (List.getElem?_eq_some_iff.1 hu).1
  exact (own_block (h.2.2 i u bs[i] hu (List.getElem?_eq_getElem hi)) hk).2
set_option maxRecDepth 100000 in
set_option maxHeartbeats 2000000 in
theorem markNodeSS_any (v : Value) (B C : Nat) (us : List Value) (bs : List (List Nd)) (k : Int) (hk0 : 0 ≤ k) (hk : k ≤ 10000000) (hl : us.length ≤ 1048576) (hs : sumL bs ≤ 1048576) (w : World) (h : SSO w B v us bs) (hC : ∀ (i : Nat) (u : Value) (k : Nat), us[i]? = some u → u.ownBlock = some k → k < C) (hBw : B ≤ w.heap.size) :
    Calls Tryd.prog 55 #[v, .int .i64 k] w fun e w' => ∃ r : Int, e = .returned (.int .i64 r) ∧ 0 ≤ r ∧ Below B w w' ∧ High C w w' := by
  obtain ⟨a, cap, rfl⟩ := own_shape h.1
  have HROW : Hid _ := h.1
  have HL : Hid (us.length = bs.length) := h.2.1
  have HEL : Hid (∀ (i : Nat) (u : Value) (b : List Nd), us[i]? = some u → bs[i]? = some b → AnyOwn w B u b.length) := fun i u b hu hb => ⟨_, h.2.2 i u b hu hb⟩
  have HC : Hid _ := hC
  clear h hC
  go_enter Tryd.func55, Tryd.ntmps55
  go_wp2_with fail
  go_loopw [1, 5] (fun x i wr => ∃ (j : Nat), j ≤ us.length ∧ i = .int .i64 j ∧ x = .int .i64 (k + 2 * sumL (bs.take j)) ∧ Hid (wr.ownsRow B 24 1 (.slice a us.length cap) us.length us) ∧ Hid (∀ (i : Nat) (u : Value) (b : List Nd), us[i]? = some u → bs[i]? = some b → AnyOwn wr B u b.length) ∧ Hid (Below B w wr) ∧ Hid (High C w wr)) (fun _ i _ => us.length - (intOf i).toNat)
  case atStart => exact ⟨0, by omega, rfl, by simp [sumL], HROW, HEL, Below.refl _ _, High.refl _ _⟩
  case round =>
    obtain ⟨j, hj, rfl, rfl, HR, HE, HB, HH⟩ := hrel
    have hsj := sumL_take bs j
    by_cases hlt' : j < us.length
    · obtain ⟨u, hu⟩ : ∃ u, us[j]? = some u := ⟨us[j], List.getElem?_eq_getElem hlt'⟩
      obtain ⟨b, hb⟩ : ∃ b, bs[j]? = some b := ⟨bs[j]'(by have := HL.out; omega), List.getElem?_eq_getElem _⟩
      obtain ⟨g, cap1, hsh⟩ : ∃ (g cap1 : Nat), (Value.slice a us.length cap) = .slice (some ⟨g, 0, none⟩) us.length cap1 := by
        rcases HR.out.2 with ⟨_, h0⟩ | ⟨g, cap1, cur, hv, _⟩
        · omega
        · exact ⟨g, cap1, hv⟩
      simp at hsh
      obtain ⟨rfl, rfl⟩ := hsh
      have c0 : wr.cell? ⟨g, j, none⟩ = some u := by
        rw [HR.out.cellAt j (by omega)]
        exact hu
      have hany := HE.out j u b hu hb
      obtain ⟨xs, hxs⟩ := hany
      have hsn := sumL_snoc bs j b hb
      have hsn2 := sumL_take bs (j + 1)
      have gM := markNodeS_any u B b.length _ xs (k + 2 * sumL (bs.take j)) (by omega) (by omega) (by omega) wr hxs
      obtain ⟨ua, uc, husl⟩ := own_shape hxs
      have HAU : Hid (AnyOwn wr B u b.length) := ⟨xs, hxs⟩
      have HXS : Hid _ := hxs
      have HSN : Hid (k + 2 * (sumL (bs.take j) : Int) + 2 * (b.length : Int) = k + 2 * (sumL (bs.take (j + 1)) : Int)) := (by omega : k + 2 * (sumL (bs.take j) : Int) + 2 * (b.length : Int) = k + 2 * (sumL (bs.take (j + 1)) : Int))
      rw [HSN.out] at gM
      have HUC : Hid (∀ k, u.ownBlock = some k → k < C) := fun k hk => HC.out j u k hu hk
      clear hu hb hxs hsn
      generalize hS1 : sumL (bs.take (j + 1)) = S1 at *
      generalize sumL (bs.take j) = S0 at *
      have HS1 : Hid _ := hS1
      clear hS1
      subst husl
      go_wp2_with fail
      refine gM.mono ?_
      rintro e w2 ⟨rfl, ho2, hg2⟩
      have HR2 : Hid (w2.ownsRow B 24 1 (.slice (some ⟨g, 0, none⟩) us.length cap) us.length us) := by
        refine World.ownsRow.kept HR.out hg2 (Or.inr ?_)
        intro e
        rcases HXS.out.2 with ⟨h9, _⟩ | ⟨g2, cap2, cur2, h9, _, hh2, _⟩
        · rw [h9] at e
          cases e
        · rw [h9] at e
          have e2 : g = g2 := Option.some.inj e
          rcases HR.out.2 with ⟨h8, _⟩ | ⟨g3, cap3, cur3, h8, _, hh3, _⟩
          · cases h8
          · simp at h8
            rw [← h8.1, e2, hh2] at hh3
            simp at hh3
      have HE2 : Hid (∀ (i : Nat) (u : Value) (b : List Nd), us[i]? = some u → bs[i]? = some b → AnyOwn w2 B u b.length) := fun i u' b' hu' hb' => any_kept (HE.out i u' b' hu' hb') HAU.out ho2 hg2
      have HB2 : Hid (Below B w w2) := HB.out.grown hg2 (by have := HB.out.size; omega) (fun k hk => (World.ownsRow.lt HXS.out k hk).1)
      have HH2 : Hid (High C w w2) := HH.out.grown hg2 HUC.out
      clear gM ho2 hg2
      go_wp2_with fail
      go_roundw
      case rel => exact ⟨j + 1, by omega, by go_num, by rw [HS1.out], HR2, HE2, HB2, HH2⟩
      case measure => simp [intOf]; omega
    · obtain rfl : j = us.length := by omega
      have HP : Hid (0 ≤ k + 2 * (sumL (bs.take us.length) : Int)) := (by omega : 0 ≤ k + 2 * (sumL (bs.take us.length) : Int))
      clear HR HE
      go_wp2_with fail
      go_ret
      exact ⟨_, rfl, HP.out, HB.out, HH.out⟩
end Go.Proofs.YtkmgcgmeibhnmaaDoor

namespace Go.Proofs.YtkmgcgmeibhnmaaDoor
open Go Go.RowKit
open M
set_option linter.unusedVariables false

theorem made_nil : ∀ n : Nat, (madeCells #[Value.slice none 0 0] n).toList = List.replicate n (.slice none 0 0)
  | 0 => by simp [madeCells]
  | n + 1 => by
    have ih := made_nil n
    unfold madeCells at *
    rw [Array.toList_map, Array.toList_range] at *
    rw [List.range_succ, List.map_append, ih, List.replicate_succ']
    simp [Nat.mod_one]
theorem set_nil (us : List Value) (n : Nat) (x : Value) (h : us.length < n) : (us ++ List.replicate (n - us.length) (Value.slice none 0 0)).set us.length x = (us ++ [x]) ++ List.replicate (n - (us.length + 1)) (.slice none 0 0) := by
  obtain ⟨m, hm⟩ : ∃ m, n - us.length = m + 1 := ⟨n - us.length - 1, by omega⟩
  have hm' : n - (us.length + 1) = m := by omega
  rw [hm, hm', List.replicate_succ, List.append_assoc, List.set_append_right _ _ (by omega), Nat.sub_self]
  rfl
set_option maxRecDepth 100000 in
set_option maxHeartbeats 2000000 in
theorem toNodeSS_in (c o cp : Nat) (bs : List (List Nd)) (hl : bs.length ≤ 1048576) (w : World) (hclt : c < w.heap.size)
    (hcs : ∀ (i : Nat) (u : List Nd), bs[i]? = some u → ∃ z : Value, w.cell? ⟨c, o + i, none⟩ = some z ∧ NodesAt w z u) (hok : ∀ b ∈ bs, b.length ≤ 1048576) :
    Calls Tryd.prog 53 #[.slice (some ⟨c, o, none⟩) bs.length cp] w fun e w' => ∃ v us, e = .returned v ∧ SSO w' w.heap.size v us bs ∧ Below w.heap.size w w' := by
  obtain ⟨i0, hi, hz0, hz1, hz2⟩ := info_parts infoNodes
  have HCS : Hid _ := hcs
  have HOK : Hid _ := hok
  have HL : Hid (∀ i : Nat, i < bs.length → ∃ b, bs[i]? = some b) := fun i hi => ⟨bs[i], List.getElem?_eq_getElem hi⟩
  clear hcs hok
  generalize hnn : bs.length = n at *
  have HNN : Hid _ := hnn
  clear hnn
  go_enter Tryd.func53, Tryd.ntmps53
  go_wp2_with (at_make; refine wpList_make_full _ rfl _ _ 25 rfl w.heap.size 24 i0 (.slice none 0 0) 1 Tryd.underlying25 hi hz0 hz1 .i64 .i64 _ _ n rfl rfl (by omega) (by omega) (by rw [hz2]; omega) (by unfold maxLen; omega) (Nat.le_refl _) ?_)
  intro w1 hown hgrow
  have HB1 : Hid (Below w.heap.size w w1) := (Below.refl _ _).grown hgrow (Nat.le_refl _) (fun k hk => by cases hk)
  have HO1 : Hid (w1.ownsRow w.heap.size 24 1 (.slice (some ⟨w.heap.size, 0, none⟩) n n) n (([] : List Value) ++ List.replicate (n - 0) (.slice none 0 0))) := by
    have h := hown
    rw [made_nil] at h
    exact h
  clear hown hgrow
  go_wp2_with fail
  go_loopw [4] (fun i wr => ∃ (j : Nat) (us : List Value), j ≤ n ∧ i = .int .i64 j ∧ Hid (us.length = j) ∧ Hid (wr.ownsRow w.heap.size 24 1 (.slice (some ⟨w.heap.size, 0, none⟩) n n) n (us ++ List.replicate (n - us.length) (.slice none 0 0))) ∧ Hid (∀ (i : Nat) (u : Value) (b : List Nd), us[i]? = some u → bs[i]? = some b → OwnNodes wr w.heap.size u b) ∧ Hid (Below w.heap.size w wr)) (fun i _ => n - (intOf i).toNat)
  case atStart => exact ⟨0, [], by omega, rfl, rfl, HO1, fun i u b hu _ => by simp at hu, HB1⟩
  case round =>
    obtain ⟨j, us, hj, rfl, HU, HO, HE, HB⟩ := hrel
    by_cases hlt' : j < n
    · obtain ⟨u, hu⟩ := HL.out j hlt'
      obtain ⟨z, cz, hz⟩ := HCS.out j u hu
      have hul : u.length ≤ 1048576 := HOK.out u (List.mem_of_getElem? hu)
      rw [← HB.out.cell (p := ⟨c, o + j, none⟩) hclt] at cz
      have g := toNodeS_any z u hul wr (hz.below HB.out)
      obtain ⟨za, zc, rfl⟩ := hz.shape
      have HX : Hid (bs[j]? = some u) := hu
      clear hu hz
      go_wp2_with fail
      refine g.mono ?_
      rintro e w2 ⟨x, rfl, hx, hb2⟩
      clear g
      have own2 := owns_below HO.out hb2
      have hlen : (us ++ List.replicate (n - us.length) (Value.slice none 0 0)).length = n * 1 := own2.1
      obtain ⟨u0, hu0⟩ : ∃ u0, (us ++ List.replicate (n - us.length) (Value.slice none 0 0))[j]? = some u0 := ⟨_, List.getElem?_eq_getElem (by omega)⟩
      have d0 : w2.cell? ⟨w.heap.size, j, none⟩ = some u0 := by rw [own2.cellAt j (by omega)]; exact hu0
      have f0 := own2.frozenAt j
      have hb3 : Below w.heap.size w w2 := HB.out.trans (hb2.mono HB.out.size)
      have st := own2.stored j x
      have HN : Hid ((w2.setCell ⟨w.heap.size, j, none⟩ x).ownsRow w.heap.size 24 1 (.slice (some ⟨w.heap.size, 0, none⟩) n n) n ((us ++ [x]) ++ List.replicate (n - (us ++ [x]).length) (.slice none 0 0))) := by
        have h1 := st.1
        have hU := HU.out
        subst hU
        rw [set_nil us n x hlt'] at h1
        rw [List.length_append]
        exact h1
      have HE2 : Hid (∀ (i : Nat) (y : Value) (b : List Nd), (us ++ [x])[i]? = some y → bs[i]? = some b → OwnNodes (w2.setCell ⟨w.heap.size, j, none⟩ x) w.heap.size y b) := by
        intro i y b hy hb
        have hU := HU.out
        by_cases hi2 : i < us.length
        · rw [List.getElem?_append_left hi2] at hy
          exact nodes_apart2 own2 (owns_below (HE.out i y b hy hb) hb2) st.2
        · rw [List.getElem?_append_right (by omega)] at hy
          have e0 : i - us.length = 0 := by
            have := (List.getElem?_eq_some_iff.1 hy).1
            simp at this
            omega
          rw [e0] at hy
          simp at hy
          subst hy
          obtain rfl : i = j := by omega
          have hX := HX.out
          rw [hX] at hb
          obtain rfl := Option.some.inj hb
          exact nodes_apart2 own2 (OwnNodes.low hx HB.out.size) st.2
      have HB3 : Hid (Below w.heap.size w (w2.setCell ⟨w.heap.size, j, none⟩ x)) := hb3.setCell (Nat.le_refl _) _
      have HU2 : Hid ((us ++ [x]).length = j + 1) := by
        show (us ++ [x]).length = j + 1
        rw [List.length_append, HU.out]
        rfl
      obtain ⟨xa, xc, rfl⟩ := own_shape hx
      clear own2 hlen hu0 hb2 hb3 HB HO HB1 HO1 HX cz hx st HE HU
      go_wp2_with fail
      go_roundw
      case rel => exact ⟨j + 1, _, by omega, by go_num, HU2, HN, HE2, HB3⟩
      case measure => simp [intOf]; omega
    · obtain rfl : j = n := by omega
      have HN : Hid (SSO wr w.heap.size (.slice (some ⟨w.heap.size, 0, none⟩) j j) us bs) := by
        have h1 := HO.out
        have hU := HU.out
        subst hU
        rw [Nat.sub_self, List.replicate_zero, List.append_nil] at h1
        exact ⟨h1, HNN.out.symm, HE.out⟩
      clear HO HE
      go_wp2_with fail
      go_ret
      exact ⟨_, _, rfl, HN.out, HB.out⟩
set_option maxRecDepth 100000 in
theorem toNodeSS_nil (a : Option Addr) (cp : Nat) (w : World) :
    Calls Tryd.prog 53 #[.slice a 0 cp] w fun e w' => ∃ v us, e = .returned v ∧ SSO w' w.heap.size v us [] ∧ Below w.heap.size w w' := by
  obtain ⟨i0, hi, hz0, hz1, hz2⟩ := info_parts infoNodes
  go_enter Tryd.func53, Tryd.ntmps53
  go_wp2_with (at_make; refine wpList_make_full _ rfl _ _ 25 rfl w.heap.size 24 i0 (.slice none 0 0) 1 Tryd.underlying25 hi hz0 hz1 .i64 .i64 _ _ 0 rfl rfl (by omega) (by omega) (by rw [hz2]; omega) (by unfold maxLen; omega) (Nat.le_refl _) ?_)
  intro w1 hown hgrow
  have HB : Hid (Below w.heap.size w w1) := (Below.refl _ _).grown hgrow (Nat.le_refl _) (fun k hk => by cases hk)
  have HO : Hid (SSO w1 w.heap.size (.slice (some ⟨w.heap.size, 0, none⟩) 0 0) [] []) := by
    have h : (madeCells #[Value.slice none 0 0] 0).toList = [] := made_nil 0
    have h2 := hown
    rw [h] at h2
    exact ⟨h2, rfl, fun i u b hu _ => by simp at hu⟩
  clear hown hgrow
  go_wp2_with fail
  go_loopw [4] (fun i wr => i = .int .i64 0 ∧ wr = w1) (fun _ _ => 0)
  case atStart => exact ⟨rfl, rfl⟩
  case round =>
    obtain ⟨rfl, rfl⟩ := hrel
    go_wp2_with fail
    go_ret
    exact ⟨_, _, rfl, HO.out, HB.out⟩
theorem toNodeSS_any (v : Value) (bs : List (List Nd)) (hl : bs.length ≤ 1048576) (w : World) (h : NodesSS w v bs) (hok : ∀ b ∈ bs, b.length ≤ 1048576) :
    Calls Tryd.prog 53 #[v] w fun e w' => ∃ v' us, e = .returned v' ∧ SSO w' w.heap.size v' us bs ∧ Below w.heap.size w w' := by
  rcases h.2 with ⟨rfl, a, cap, rfl⟩ | ⟨c, o, cp, rfl, hc, hcs⟩
  · exact toNodeSS_nil a cap w
  · exact toNodeSS_in c o cp bs hl w hc hcs hok
end Go.Proofs.YtkmgcgmeibhnmaaDoor

namespace Go.Proofs.YtkmgcgmeibhnmaaDoor
open Go Go.RowKit
open M
set_option linter.unusedVariables false

theorem trPut_over (bys : List Tr) (r : Tr) (h : ¬ r.nd.1 = 2) : trPut bys r = Tr.over r.nd (r.parts.map (trPut bys)) := by
  cases r with
  | leaf x => simp only [trPut, if_neg (show ¬ x.1 = 2 from h), Tr.parts, List.map_nil, Tr.over, Tr.nd]
  | one x a => rfl
  | two x a b => rfl
theorem trPut_size (bys : List Tr) (hb : ∀ q ∈ bys, q.size ≤ 48) : ∀ r : Tr, (trPut bys r).size ≤ 48 * r.size
  | .leaf x => by
    simp only [trPut]
    split
    · rw [List.getD_eq_getElem?_getD]
      cases hg : bys[x.2.toNat]? with
      | none => simp [Tr.size]
      | some q =>
        have := hb q (List.mem_of_getElem? hg)
        simp [Tr.size]
        omega
    · simp [Tr.size]
  | .one x a => by
    have ha := trPut_size bys hb a
    simp only [trPut, Tr.size]
    omega
  | .two x a b => by
    have ha := trPut_size bys hb a
    have hb' := trPut_size bys hb b
    simp only [trPut, Tr.size]
    omega
/-- what put does with a tree -/
def PutP (wide vars : Int) (bys : List Tr) (r : Tr) : Prop := ∀ (S : Nat → Prop) (b : Nat) (pbs : List Nat) (byv : Value) (w : World), (∀ k, S k → k < w.heap.size) → TrAt w (Old w) r b → PtrsAt w (Old w) byv pbs → TrsAt w S bys pbs → r.Ok wide vars → Pos r → VarsBelow r bys.length → r.size ≤ 1000 →
  Calls Tryd.prog 63 #[ptr b, byv] w fun e w' => ∃ b', e = .returned (ptr b') ∧ TrAt w' (New S w w') (trPut bys r) b' ∧ Below w.heap.size w w'
set_option maxRecDepth 100000 in
set_option maxHeartbeats 1000000 in
theorem put_var (bys : List Tr) (n : Nat) (S : Nat → Prop) (b : Nat) (pbs : List Nat) (byv : Value) (w : World) (htr : TrAt w (Old w) (.leaf (2, (n : Int))) b) (hpv : PtrsAt w (Old w) byv pbs) (hts : TrsAt w S bys pbs) (hn : n < bys.length) (hl : pbs.length ≤ 1000) :
    Calls Tryd.prog 63 #[ptr b, byv] w fun e w' => ∃ b', e = .returned (ptr b') ∧ TrAt w' (New S w w') (trPut bys (.leaf (2, (n : Int)))) b' ∧ Below w.heap.size w w' := by
  obtain ⟨_, n0, n1, _⟩ := htr
  obtain ⟨q, hq⟩ : ∃ q, bys[n]? = some q := ⟨bys[n], List.getElem?_eq_getElem hn⟩
  have hnp : n < pbs.length := by have := hts.1; omega
  obtain ⟨p, hp⟩ : ∃ p, pbs[n]? = some p := ⟨pbs[n], List.getElem?_eq_getElem hnp⟩
  have e1 : trPut bys (.leaf (2, (n : Int))) = q := by
    simp only [trPut, if_true]
    rw [List.getD_eq_getElem?_getD, show ((n : Int)).toNat = n from by omega, hq]
    rfl
  rw [e1]
  have HT : Hid (TrAt w (New S w w) q p) := TrAt.frame (fun k hk => Or.inl hk) (fun _ _ => rfl) (hts.2 n q p hq hp)
  obtain ⟨pa, pc, hsh⟩ := hpv.shape
  subst hsh
  obtain ⟨g, off, rfl, hg, c0⟩ := PtrsAt.at hpv hp
  simp only at n0 n1
  clear hpv hts hq hp e1
  go_enter Tryd.func63, Tryd.ntmps63
  go_wp2_with fail
  first
    | (go_ret; exact ⟨_, rfl, HT.out, Below.refl _ _⟩)
    | (go_region
       all_goals
         go_wp2_with fail
         go_ret
         exact ⟨_, rfl, HT.out, (Below.refl _ _).drew⟩)
set_option maxRecDepth 100000 in
set_option maxHeartbeats 4000000 in
theorem put_step (wide vars : Int) (bys : List Tr) (hb1 : ∀ q ∈ bys, q.kind = 1) (hbs : ∀ q ∈ bys, q.size ≤ 48) (hbl : bys.length ≤ 1000) (r : Tr) (ih : ∀ q ∈ r.parts, PutP wide vars bys q) : PutP wide vars bys r := by
  intro S b pbs byv w hSW htr hby hbt hok hp hvb hsz
  by_cases h2 : r.nd.1 = 2
  · have hm := (Tr.ok_nd hok).2.2
    rw [h2] at hm
    cases r with
    | leaf x =>
      obtain ⟨op, n⟩ := x
      obtain rfl : op = 2 := h2
      have h4 := hp (2, n) (by simp [Tr.flat])
      have h5 := hvb (2, n) (by simp [Tr.flat]) rfl
      simp only at h4 h5
      obtain ⟨i, rfl⟩ := Int.eq_ofNat_of_zero_le h4
      exact put_var bys i S b pbs byv w htr hby hbt (by omega) (by have := hbt.1; omega)
    | one x a => exact absurd (show (0 : Nat) = 1 from hm) (by decide)
    | two x a c => exact absurd (show (0 : Nat) = 2 from hm) (by decide)
  rw [trPut_over bys r h2]
  have e2 : (r.nd.1 == 2) = false := beq_eq_false_iff_ne.2 h2
  obtain ⟨ps, ⟨hb0, n0, n1, _, _, pvl, n4, hpv⟩, hpt⟩ := trAt_open htr
  obtain ⟨pa, pc, hpsh⟩ := hpv.shape
  have hpl2 : ps.length ≤ 2 := by
    have h2 : r.parts.length ≤ 2 := by cases r <;> simp [Tr.parts]
    have := hpt.1
    omega
  have HN : Hid (∀ w1, Below w.heap.size w w1 → w1.cell? ⟨b, 0, none⟩ = some (.int .i64 r.nd.1) ∧ w1.cell? ⟨b, 1, none⟩ = some (.int .u64 r.nd.2) ∧ w1.cell? ⟨b, 4, none⟩ = some pvl) := fun w1 hb => by
    refine ⟨?_, ?_, ?_⟩
    · rw [hb.cell (p := ⟨b, 0, none⟩) hb0]
      exact n0
    · rw [hb.cell (p := ⟨b, 1, none⟩) hb0]
      exact n1
    · rw [hb.cell (p := ⟨b, 4, none⟩) hb0]
      exact n4
  have HIH : Hid (∀ (j q' : Nat) (q : Tr) (w1 : World), r.parts[j]? = some q → ps[j]? = some q' → Below w.heap.size w w1 → Calls Tryd.prog 63 #[ptr q', byv] w1 fun e w' => ∃ b', e = .returned (ptr b') ∧ TrAt w' (New S w1 w') (trPut bys q) b' ∧ Below w1.heap.size w1 w') := by
    intro j q' q w1 hq hq' hb1
    have hmem := List.mem_of_getElem? hq
    have hfl : ∀ x ∈ q.flat, x ∈ r.flat := by
      intro x hx
      rw [Tr.flat_eq r]
      exact List.mem_append_left _ (List.mem_flatMap.2 ⟨q, hmem, hx⟩)
    have hqs : q.size ≤ r.size := by
      rw [Tr.size_eq r]
      have := size_le_sizes hmem
      omega
    exact ih q hmem S q' pbs byv w1 (fun k hk => Nat.lt_of_lt_of_le (hSW k hk) hb1.size) ((hpt.2 j q q' hq hq').below hb1) (hby.below hb1) (TrsAt.frame (fun k hk => hk) (fun k hk => hb1.block k (hSW k hk)) hbt) (Tr.ok_parts hok q hmem).2 (fun x hx => hp x (hfl x hx)) (fun x hx => hvb x (hfl x hx)) (by omega)
  have HMADE : Hid (∀ (bs : List Nat) (v : Value) (w1 : World) (S1 : Nat → Prop), (∀ k, S1 k → k < w1.heap.size) → PtrsAt w1 (Old w1) v bs → TrsAt w1 S1 (r.parts.map (trPut bys)) bs → Calls Tryd.prog 79 #[.agg #[.int .i64 r.nd.1, .int .u64 r.nd.2], v] w1 fun e w' => ∃ b', e = .returned (ptr b') ∧ TrAt w' (New S1 w1 w') (Tr.over r.nd (r.parts.map (trPut bys))) b' ∧ Below w1.heap.size w1 w') := by
    intro bs v w1 S1 hS1 h1 h2
    obtain ⟨m1, m2, m3⟩ := Tr.ok_nd hok
    refine nodeOver_made r.nd.1 r.nd.2 (r.parts.map (trPut bys)) bs v w1 S1 hS1 h1 h2 m1 (by simpa using m3) ?_ ?_
    · intro q hq
      obtain ⟨q0, hq0, rfl⟩ := List.mem_map.1 hq
      rw [trPut_kind bys hb1 q0 (Tr.ok_parts hok q0 hq0).2]
      exact (Tr.ok_parts hok q0 hq0).1
    · have h3 : ∀ l : List Tr, sizes (l.map (trPut bys)) ≤ 48 * sizes l := by
        intro l
        induction l with
        | nil => simp [sizes]
        | cons a l ihl =>
          have := trPut_size bys hbs a
          simp only [List.map_cons, sizes]
          omega
      have h4 := h3 r.parts
      have h5 := Tr.size_eq r
      omega
  have HPV : Hid _ := hpv
  have HL : Hid (r.parts.length = ps.length) := hpt.1
  have HSW : Hid _ := hSW
  obtain ⟨i0, hi, hz0, hz1, hz2⟩ := info_parts infoPtr
  obtain ⟨ya, yc, hysh⟩ := hby.shape
  have HB1 : Hid (Below w.heap.size w w) := Below.refl _ _
  clear ih htr hok hp hvb hpv hpt hb0 hSW hby hbt h2 hb1 hbs hbl
  subst hpsh
  generalize hTR : Tr.over r.nd (r.parts.map (trPut bys)) = TR at *
  clear hTR
  generalize r.nd.1 = op at *
  generalize r.nd.2 = n at *
  subst hysh
  go_enter Tryd.func63, Tryd.ntmps63
  go_wp2_with fail
  go_loopw [5, 27] (fun v i wr => ∃ (j : Nat) (bs : List Nat), j ≤ ps.length ∧ i = .int .i64 j ∧ Hid (wr.ownsRow w.heap.size 83 1 v bs.length (ptrs bs)) ∧ Hid (TrsAt wr (Mix S w wr v) ((r.parts.take j).map (trPut bys)) bs) ∧ Hid (Below w.heap.size w wr)) (fun _ i _ => ps.length - (intOf i).toNat)
  case atStart => exact ⟨0, [], by omega, rfl, World.ownsRow_nil _ _ _ _, ⟨rfl, fun i a p ha _ => by simp at ha⟩, HB1⟩
  case round =>
    obtain ⟨j, bs, hj, rfl, HO, HS, HB⟩ := hrel
    have hbl : bs.length = j := by
      have h1 := HS.out.1
      have h2 := HL.out
      simp at h1
      omega
    by_cases hlt' : j < ps.length
    · obtain ⟨p, hp⟩ : ∃ p, ps[j]? = some p := ⟨ps[j], List.getElem?_eq_getElem hlt'⟩
      obtain ⟨q, hq⟩ : ∃ q, r.parts[j]? = some q := ⟨r.parts[j]'(by have := HL.out; omega), List.getElem?_eq_getElem _⟩
      obtain ⟨g, off, rfl, hg, c0⟩ := PtrsAt.at HPV.out hp
      rw [← HB.out.cell (p := ⟨g, off + j, none⟩) hg] at c0
      have gI := HIH.out j p q wr hq hp HB.out
      have HE : Hid ((r.parts.take j).map (trPut bys) ++ [trPut bys q] = (r.parts.take (j + 1)).map (trPut bys)) := by
        show _ = _
        rw [List.take_add_one, hq]
        simp
      obtain ⟨av, cv, hsv⟩ := own_shape HO.out
      have HBL : Hid (bs.length = j) := hbl
      have hb2' : bs.length ≤ 2 := by omega
      clear hp hq hg hbl
      generalize hNL : (r.parts.take (j + 1)).map (trPut bys) = NL at *
      have HNL : Hid _ := hNL
      clear hNL
      generalize trPut bys q = tq at *
      subst hsv
      go_wp2_with fail
      refine gI.mono ?_
      rintro e w2 ⟨b2, rfl, ht2, hb2⟩
      have HB2 : Hid (Below w.heap.size w w2) := HB.out.trans (hb2.mono HB.out.size)
      have HS2 : Hid (TrsAt w2 (Mix S w w2 (.slice av bs.length cv)) NL (bs ++ [b2])) := by
        show TrsAt _ _ _ _
        rw [← HE.out]
        refine trs_snoc (TrsAt.frame (fun k hk => ⟨hk.1, Nat.lt_of_lt_of_le hk.2.1 hb2.size, hk.2.2⟩) (fun k hk => hb2.block k hk.2.1) HS.out) (TrAt.frame (fun k hk => ?_) (fun _ _ => rfl) ht2)
        rcases hk with hk | hk
        · have h1 := HSW.out k hk
          have h2 := HB2.out.size
          exact ⟨Or.inl hk, by omega, fun e => by have := (HO.out.lt k e.symm).1; omega⟩
        · have h2 := HB.out.size
          exact ⟨Or.inr (by omega), hk.2, fun e => by have := (HO.out.lt k e.symm).2; omega⟩
      have own2 : w2.ownsRow w.heap.size 83 1 (.slice av bs.length cv) bs.length (ptrs bs) := owns_below HO.out hb2
      have HO2 : Hid _ := own2
      have HLX : Hid (ptrs bs ++ [ptr b2] = ptrs (bs ++ [b2]) ∧ bs.length + 1 = (bs ++ [b2]).length) := by
        constructor
        · simp [ptrs]
        · simp
      have own1 := own2.alloc (.cells #[ptr b2] 83)
      generalize ptrs bs = xs0 at own1 HLX
      generalize bs ++ [b2] = NB at *
      have HBx : Hid (Below w.heap.size w (w2.alloc (.cells #[ptr b2] 83))) := HB2.out.alloc HB2.out.size _
      have cellsN := onePtr_cells w2 b2
      clear gI ht2 hb2 own2
      go_wp2_with (at_builtin; refine wpList_append_own_at _ rfl _ _ 85 rfl w.heap.size 83 i0 (.pointer none) 1 8 Tryd.underlying85 hi hz0 hz1 hz2 rfl (by decide) _ _ _ rfl own1 ⟨w2.heap.size, 0, none⟩ 1 1 [ptr b2] rfl rfl cellsN (by intro u hu; simp at hu; subst hu; rfl) (by unfold maxLen; omega) (by omega) (by have h := HB2.out.size; simp; omega) ?_)
      intro v7 w7 own7 grow7 _ hat7
      have HO7 : Hid (w7.ownsRow w.heap.size 83 1 v7 NB.length (ptrs NB)) := by
        show World.ownsRow _ _ _ _ _ _ _
        rw [← HLX.out.1, ← HLX.out.2]
        exact own7
      have HT7 : Hid (TrsAt w7 (Mix S w w7 v7) NL NB) := mix_next HS2.out grow7 hat7 rfl
      have HB7 : Hid (Below w.heap.size w w7) := HBx.out.grown grow7 HBx.out.size (fun k hk => (World.ownsRow.lt HO2.out k hk).1)
      clear own1 own7 grow7 hat7 cellsN
      go_wp2_with fail
      go_roundw
      case rel => exact ⟨j + 1, NB, by omega, by go_num, HO7, by rw [HNL.out]; exact HT7, HB7⟩
      case measure => simp [intOf]; omega
    · obtain rfl : j = ps.length := by omega
      have hall : (r.parts.take ps.length).map (trPut bys) = r.parts.map (trPut bys) := by
        rw [← HL.out, List.take_length]
      have hS2 := HS.out
      rw [hall] at hS2
      obtain ⟨av, cv, hsv⟩ := own_shape HO.out
      have g9 := HMADE.out bs u5 wr (Mix S w wr u5) (fun k hk => hk.2.1) (ptrs_of_own HO.out (by omega)) hS2
      obtain ⟨n0, n1, _⟩ := HN.out wr HB.out
      clear hS2 hall HS HIH HPV HMADE hbl
      subst hsv
      go_wp2_with fail
      refine g9.mono ?_
      rintro e w9 ⟨b9, rfl, ht9, hb9⟩
      have HT9 : Hid (TrAt w9 (fun k => S k ∨ (w.heap.size ≤ k ∧ k < w9.heap.size)) TR b9) := by
        refine TrAt.frame (fun k hk => ?_) (fun _ _ => rfl) ht9
        have h2 := HB.out.size
        have h3 := hb9.size
        rcases hk with hk | hk
        · rcases hk.1 with h1 | h1
          · exact Or.inl h1
          · exact Or.inr ⟨h1, Nat.lt_of_lt_of_le hk.2.1 h3⟩
        · exact Or.inr ⟨by omega, hk.2⟩
      have HB9 : Hid (Below w.heap.size w w9) := HB.out.trans (hb9.mono HB.out.size)
      clear g9 ht9 hb9
      go_wp2_with fail
      go_ret
      exact ⟨_, rfl, HT9.out, HB9.out⟩
theorem put_any (wide vars : Int) (bys : List Tr) (hb1 : ∀ q ∈ bys, q.kind = 1) (hbs : ∀ q ∈ bys, q.size ≤ 48) (hbl : bys.length ≤ 1000) : ∀ r : Tr, PutP wide vars bys r := Tr.ind (put_step wide vars bys hb1 hbs hbl)
end Go.Proofs.YtkmgcgmeibhnmaaDoor

namespace Go.Proofs.YtkmgcgmeibhnmaaDoor
open Go Go.RowKit
open M
set_option linter.unusedVariables false

set_option maxRecDepth 100000 in
set_option maxHeartbeats 4000000 in
theorem rootOf_inN (k : Nat) (vars : Int) (b off cap : Nat) (t : List Nd) (hk1 : 1 ≤ k) (hk : k ≤ 64) (hv : 1 ≤ vars) (hv4 : vars ≤ 4) (hl : t.length ≤ 48) (hok : ∀ x ∈ t, NdOk x) (w : World) (hT : Tab w) (hlt : b < w.heap.size)
    (hc : ∀ (i : Nat) (x : Nd), t[i]? = some x → w.cell? ⟨b, off + i * 2, none⟩ = some (.int .i64 x.1) ∧ w.cell? ⟨b, off + i * 2 + 1, none⟩ = some (.int .u64 x.2)) :
    Calls Tryd.prog 60 #[.int .i64 k, .int .i64 vars, .slice (some ⟨b, off, none⟩) t.length cap] w fun e w' => Below w.heap.size w w' ∧
      ((kindL k vars t = 0 ∧ e = .returned (.pointer none)) ∨ ∃ (r : Tr) (p : Nat), pileT k vars t t.length = some [⟨0, r.kind, r⟩] ∧ e = .returned (ptr p) ∧ TrAt w' (New (fun _ => False) w w') r p) := by
  have hw : wideB k = true := decide_eq_true (by omega)
  have g1 := goodWide_any k w
  rw [hw] at g1
  have g2 := goodVars_yes vars ⟨hv, hv4⟩ w
  clear hw
  obtain ⟨i0, hi, hz0, hz1, hz2⟩ := info_parts infoPtr
  go_enter Tryd.func60, Tryd.ntmps60
  go_wp2_with fail
  refine g1.mono ?_
  rintro e w' ⟨rfl, rfl⟩
  clear g1
  go_wp2_with fail
  refine g2.mono ?_
  rintro e w' ⟨rfl, rfl⟩
  clear g2
  go_wp2_with fail
  have HC : Hid _ := hc
  have HOK : Hid _ := hok
  have HT : Hid (Tab w') := hT
  clear hc hok hT
  go_loopw [7, 30] (fun v i wr => ∃ (j : Nat) (p : List (Ent Tr)) (bs : List Nat), j ≤ t.length ∧ i = .int .i64 j ∧ Hid (pileT k vars t j = some p) ∧ Hid (wr.ownsRow w'.heap.size 83 1 v bs.length (ptrs bs)) ∧ Hid (TrsAt wr (Mix (fun _ => False) w' wr v) (p.reverse.map Ent.val) bs) ∧ Hid (Below w'.heap.size w' wr)) (fun _ i _ => t.length - (intOf i).toNat)
  case atStart => exact ⟨0, [], [], by omega, rfl, rfl, World.ownsRow_nil _ _ _ _, ⟨rfl, fun i a p ha _ => by simp at ha⟩, Below.refl _ _⟩
  case round =>
    obtain ⟨j, p, bs, hj, rfl, HF, HO, HS, HB⟩ := hrel
    have hpl : p.length = bs.length := by
      have := HS.out.1
      simpa using this
    by_cases hlt' : j < t.length
    · obtain ⟨⟨op, n⟩, hx⟩ : ∃ x, t[j]? = some x := ⟨t[j], List.getElem?_eq_getElem hlt'⟩
      obtain ⟨ho0, ho1, hn0, hn1⟩ := HOK.out (op, n) (List.mem_of_getElem? hx)
      simp only at ho0 ho1 hn0 hn1
      obtain ⟨c0, c1⟩ := HC.out j (op, n) hx
      rw [← HB.out.cell (p := ⟨b, off + j * 2, none⟩) hlt] at c0
      rw [← HB.out.cell (p := ⟨b, off + j * 2 + 1, none⟩) hlt] at c1
      simp only at c0 c1
      have HX : Hid (t[j]? = some (op, n)) := hx
      have hb1 : Below w'.heap.size w' (wr.alloc (.cells #[.int .i64 op, .int .u64 n] 91)) := HB.out.alloc HB.out.size _
      have g1 := shapeOf_any op (wr.alloc (.cells #[.int .i64 op, .int .u64 n] 91))
      have g2 := goodN_any k vars op n (by omega) (by omega) hn0 hn1 (wr.alloc (.cells #[.int .i64 op, .int .u64 n] 91)) (HT.out.below hb1 HT.out.some)
      have HBa : Hid (Below w'.heap.size w' (wr.alloc (.cells #[.int .i64 op, .int .u64 n] 91))) := hb1
      have hpj : bs.length ≤ 48 := by
        have h1 := foldK_of_pileT HF.out
        have h2 := foldK_len _ _ _ h1
        simp at h2
        omega
      have hml := manyOf_le op
      have HPL : Hid (p.length = bs.length) := hpl
      obtain ⟨ad, cp, hv7⟩ := own_shape HO.out
      clear hx hb1 hpl
      cases z2 : okN k vars op n with
      | false =>
        have HK : Hid (kindL k vars t = 0) := kind_stop HX.out (foldK_of_pileT HF.out) (step_num z2)
        rw [z2] at g2
        clear z2
        generalize ownOf op = o at *
        generalize manyOf op = m at *
        generalize wantOf op = q at *
        subst hv7
        go_wp2_with fail
        refine g1.mono ?_
        rintro e w2 ⟨rfl, rfl⟩
        clear g1
        go_wp2_with fail
        refine g2.mono ?_
        rintro e w2 ⟨rfl, hb2⟩
        clear g2
        have HB2 : Hid (Below w'.heap.size w' w2) := HBa.out.trans (hb2.mono HBa.out.size)
        clear hb2
        go_wp2_with fail
        go_ret
        exact ⟨HB2.out, Or.inl ⟨HK.out, rfl⟩⟩
      | true =>
        rw [z2] at g2
        by_cases z3 : bs.length < manyOf op
        · have HK : Hid (kindL k vars t = 0) := kind_stop HX.out (foldK_of_pileT HF.out) (step_few (by have := HPL.out; simp; omega))
          clear z2
          generalize ownOf op = o at *
          generalize manyOf op = m at *
          generalize wantOf op = q at *
          subst hv7
          go_wp2_with fail
          refine g1.mono ?_
          rintro e w2 ⟨rfl, rfl⟩
          clear g1
          go_wp2_with fail
          refine g2.mono ?_
          rintro e w2 ⟨rfl, hb2⟩
          clear g2
          have HB2 : Hid (Below w'.heap.size w' w2) := HBa.out.trans (hb2.mono HBa.out.size)
          clear hb2
          go_wp2_with fail
          go_ret
          exact ⟨HB2.out, Or.inl ⟨HK.out, rfl⟩⟩
        · subst hv7
          obtain ⟨m, hmm⟩ : ∃ m, m = manyOf op := ⟨_, rfl⟩
          rw [← hmm] at g1 z3 hml
          have HMM : Hid (m = manyOf op) := hmm
          clear hmm
          generalize hqq : wantOf op = q at g1
          generalize hoo : ownOf op = o at g1
          go_wp2_with fail
          refine g1.mono ?_
          rintro e w2 ⟨rfl, rfl⟩
          clear g1
          go_wp2_with fail
          refine g2.mono ?_
          rintro e w2 ⟨rfl, hb2⟩
          clear g2
          have HB2 : Hid (Below w'.heap.size w' w2) := HBa.out.trans (hb2.mono HBa.out.size)
          have e0 : w2.cell? ⟨wr.heap.size, 0, none⟩ = some (.int .i64 op) := by
            rw [hb2.cell (p := ⟨wr.heap.size, 0, none⟩) (by simp)]
            simp
          have e1 : w2.cell? ⟨wr.heap.size, 1, none⟩ = some (.int .u64 n) := by
            rw [hb2.cell (p := ⟨wr.heap.size, 1, none⟩) (by simp)]
            simp
          obtain ⟨rest, hrest⟩ : ∃ rest : Nat, (bs.length : Int) - (m : Int) = (rest : Int) := ⟨bs.length - m, by omega⟩
          have hr1 : rest ≤ bs.length := by omega
          have HR : Hid (rest + m = bs.length) := (by omega : rest + m = bs.length)
          go_wp2_with fail
          clear hrest
          have hp1 : Hid (TrsAt w2 (Mix (fun _ => False) w' w2 (.slice ad bs.length cp)) (p.reverse.map Ent.val) bs ∧ w2.ownsRow w'.heap.size 83 1 (.slice ad bs.length cp) bs.length (ptrs bs)) := by
            have hba : Below wr.heap.size wr w2 := ((Below.refl _ _).alloc (Nat.le_refl _) _).trans (hb2.mono (by simp))
            exact ⟨TrsAt.frame (fun k hk => ⟨hk.1, Nat.lt_of_lt_of_le hk.2.1 hba.size, hk.2.2⟩) (fun k hk => hba.block k hk.2.1) HS.out, owns_below HO.out hba⟩
          have HLP : Hid ((p.reverse.map Ent.val).drop rest = (p.take m).reverse.map Ent.val ∧ (p.reverse.map Ent.val).take rest = (p.drop m).reverse.map Ent.val) := by
            have h1 := HPL.out
            have h2 := HR.out
            constructor
            · rw [← List.map_drop, List.drop_reverse, show p.length - rest = m from by omega]
            · rw [← List.map_take, List.take_reverse, show p.length - rest = m from by omega]
          by_cases hgood : ¬ ownOf op = 0 ∧ ∀ e ∈ p.take m, e.kind = partOf op
          · obtain ⟨a0, hst⟩ := step_tree (j := j) (k := k) (vars := vars) (x := (op, n)) (p := p) hgood.1 z2 (by have := HMM.out; have := HPL.out; have := HR.out; simp only; omega) (by rw [show manyOf (op, n).1 = m from HMM.out.symm]; exact hgood.2)
            have HF2 : Hid (pileT k vars t (j + 1) = some (⟨a0, ownOf op, Tr.over (op, n) ((p.take m).reverse.map Ent.val)⟩ :: p.drop m)) := by
              show pileE k vars Tr.leaf Tr.one Tr.two t (j + 1) = _
              rw [pileE, show pileE k vars Tr.leaf Tr.one Tr.two t j = some p from HF.out, HX.out]
              simp only [Option.bind_some]
              rw [hst, ← show m = manyOf (op, n).1 from HMM.out]
            have GE : Hid (∀ (sl : Value) (w1 : World), PtrsAt w1 (Old w1) sl (bs.drop rest) → Below w2.heap.size w2 w1 → Calls Tryd.prog 79 #[.agg #[.int .i64 op, .int .u64 n], sl] w1 fun e w3 => ∃ pb, e = .returned (ptr pb) ∧
                TrsAt w3 (Mix (fun _ => False) w' w3 (.slice ad bs.length cp)) ((p.drop m).reverse.map Ent.val ++ [Tr.over (op, n) ((p.take m).reverse.map Ent.val)]) (bs.take rest ++ [pb]) ∧ w3.ownsRow w'.heap.size 83 1 (.slice ad bs.length cp) bs.length (ptrs bs) ∧ Below w'.heap.size w' w3) := by
              intro sl w1 hsl hb3
              obtain ⟨h1, h2⟩ := hp1.out
              have h1' : TrsAt w1 (Mix (fun _ => False) w' w1 (.slice ad bs.length cp)) (p.reverse.map Ent.val) bs := TrsAt.frame (fun k hk => ⟨hk.1, Nat.lt_of_lt_of_le hk.2.1 hb3.size, hk.2.2⟩) (fun k hk => hb3.block k hk.2.1) h1
              have h2' := owns_below h2 hb3
              have hd := trs_drop h1' rest
              rw [HLP.out.1] at hd
              have ht := trs_take h1' rest
              rw [HLP.out.2] at ht
              have hkk : ∀ q ∈ (p.take m).reverse.map Ent.val, q.kind = partOf op := by
                intro q hq
                obtain ⟨e, he, rfl⟩ := List.mem_map.1 hq
                have he' : e ∈ p.take m := by simpa using he
                rw [← ((pileT_ok j p HF.out).1 e (List.mem_of_mem_take he')).2]
                exact hgood.2 e he'
              have hsz : sizes ((p.take m).reverse.map Ent.val) ≤ 1000000 := by
                have h3 := pile_sizes HF.out
                have h4 := sizes_append ((p.reverse.map Ent.val).take rest) ((p.reverse.map Ent.val).drop rest)
                rw [List.take_append_drop, HLP.out.1] at h4
                omega
              refine (nodeOver_made op n _ (bs.drop rest) sl w1 (Mix (fun _ => False) w' w1 (.slice ad bs.length cp)) (fun k hk => hk.2.1) hsl hd hgood.1 ?_ hkk hsz).mono ?_
              · rw [← HMM.out]
                have := HPL.out
                have := HR.out
                simp
                omega
              · rintro e w3 ⟨pb, he, htr, hb4⟩
                have hS : ∀ k, Mix (fun _ => False) w' w1 (.slice ad bs.length cp) k → Mix (fun _ => False) w' w3 (.slice ad bs.length cp) k := fun k hk => ⟨hk.1, Nat.lt_of_lt_of_le hk.2.1 hb4.size, hk.2.2⟩
                refine ⟨pb, he, trs_snoc (TrsAt.frame hS (fun k hk => hb4.block k hk.2.1) ht) (TrAt.frame (fun k hk => ?_) (fun _ _ => rfl) htr), owns_below h2' hb4, HB2.out.trans ((hb3.trans (hb4.mono hb3.size)).mono HB2.out.size)⟩
                rcases hk with hk | ⟨hk1, hk2⟩
                · exact hS k hk
                · refine ⟨Or.inr (Nat.le_trans HB2.out.size (Nat.le_trans hb3.size hk1)), hk2, fun e => ?_⟩
                  have := (h2'.lt k e.symm).2
                  omega
            clear hgood hst HF
            have HSH : Hid _ := hp1.out.2
            have HN2 : Hid ((p.drop m).reverse.map Ent.val ++ [Tr.over (op, n) ((p.take m).reverse.map Ent.val)] = ((⟨a0, ownOf op, Tr.over (op, n) ((p.take m).reverse.map Ent.val)⟩ :: p.drop m).reverse.map Ent.val)) := by
              show _ = _
              simp
            generalize hNL : (p.drop m).reverse.map Ent.val ++ [Tr.over (op, n) ((p.take m).reverse.map Ent.val)] = NL at *
            generalize hNP : (⟨a0, ownOf op, Tr.over (op, n) ((p.take m).reverse.map Ent.val)⟩ :: p.drop m : List (Ent Tr)) = NP at *
            clear hNL hNP HLP
            rcases HO.out.2 with ⟨hnil, hb0⟩ | ⟨g, cap', cur, hv, hg, hh, hcap1, hcap2, hcap3, hcur⟩
            · have hbs : bs = [] := List.length_eq_zero_iff.1 hb0
              subst hbs
              obtain rfl : rest = 0 := by simp at hr1; exact hr1
              obtain ⟨rfl, rfl⟩ : ad = none ∧ cp = 0 := by
                simp at hnil
                exact hnil
              have GC := fun (w1 : World) (hb3 : Below w2.heap.size w2 w1) => GE.out (.slice none 0 0) w1 ⟨by simp, Or.inl ⟨rfl, none, 0, rfl⟩⟩ hb3
              have hd2 : Below w2.heap.size w2 w2.drew := (Below.refl _ _).drew
              clear hnil hb0 HO hr1 hp1 HSH GE HPL HS
              go_region_with (go_at_call 79; refine (GC _ hd2).mono ?_; rintro e w3 ⟨pb, rfl, ht3, ho3, hb3⟩; have HT3 : Hid _ := ht3; have HO3 : Hid _ := ho3; have HB3 : Hid _ := hb3; clear ht3 ho3 hb3)
              all_goals clear GC hd2
              all_goals
                have own1 : (w3.alloc (.cells #[ptr pb] 83)).ownsRow w'.heap.size 83 1 (.slice none 0 0) 0 [] := World.ownsRow_nil _ _ _ _
                have HBx : Hid (Below w'.heap.size w' (w3.alloc (.cells #[ptr pb] 83))) := HB3.out.alloc HB3.out.size _
                have cellsN := onePtr_cells w3 pb
                go_wp2_with (at_builtin; refine wpList_append_own_at _ rfl _ _ 85 rfl w'.heap.size 83 i0 (.pointer none) 1 8 Tryd.underlying85 hi hz0 hz1 hz2 rfl (by decide) _ _ _ rfl own1 ⟨w3.heap.size, 0, none⟩ 1 1 [ptr pb] rfl rfl cellsN (by intro u hu; simp at hu; subst hu; rfl) (by unfold maxLen; omega) (by omega) (by have h := HB3.out.size; simp; omega) ?_)
                intro v7 w7 own7 grow7 _ hat7
                have HO7 : Hid (w7.ownsRow w'.heap.size 83 1 v7 ([pb] : List Nat).length (ptrs [pb])) := own7
                have HT7 : Hid (TrsAt w7 (Mix (fun _ => False) w' w7 v7) (NP.reverse.map Ent.val) [pb]) := by
                  show TrsAt _ _ _ _
                  rw [← HN2.out]
                  exact mix_next HT3.out grow7 hat7 rfl
                have HB7 : Hid (Below w'.heap.size w' w7) := HBx.out.grown grow7 HBx.out.size (fun k hk => by cases hk)
                clear own1 own7 grow7 hat7 cellsN
                go_wp2_with fail
                go_roundw
                case rel => exact ⟨j + 1, NP, [pb], by omega, by go_num, HF2, HO7, HT7, HB7⟩
                case measure => simp [intOf]; omega
            · obtain ⟨rfl, rfl⟩ : ad = some ⟨g, 0, none⟩ ∧ cap' = cp := by
                simp at hv
                exact ⟨hv.1, hv.2.symm⟩
              have hcap2' : cap' ≤ 9223372036854775807 := hcap2
              have GC := fun (w1 : World) (hb3 : Below w2.heap.size w2 w1) => GE.out _ w1 (own_high (owns_below HSH.out hb3) rfl hr1 hpj) hb3
              obtain ⟨asl, hasl⟩ : ∃ asl, (if cap' = rest then some (⟨g, 0, none⟩ : Addr) else some ⟨g, rest, none⟩) = asl := ⟨_, rfl⟩
              rw [hasl] at GC
              have hd2 : Below w2.heap.size w2 w2.drew := (Below.refl _ _).drew
              have HG0 : Hid (w'.heap.size ≤ g) := hg
              clear hv hcur hcap2 hh HO hg hp1 HSH GE HPL HS
              go_region_with (go_at_call 79; refine (GC _ hd2).mono ?_; rintro e w3 ⟨pb, rfl, ht3, ho3, hb3⟩; have HT3 : Hid _ := ht3; have HO3 : Hid _ := ho3; have HB3 : Hid _ := hb3; clear ht3 ho3 hb3)
              all_goals clear GC hd2 hasl
              all_goals
                have own1 := (own_low HO3.out rfl hr1).alloc (.cells #[ptr pb] 83)
                have HLX : Hid (ptrs (bs.take rest) ++ [ptr pb] = ptrs (bs.take rest ++ [pb]) ∧ rest + 1 = (bs.take rest ++ [pb]).length) := by
                  constructor
                  · simp [ptrs]
                  · simp
                    omega
                generalize ptrs (bs.take rest) = xs0 at own1 HLX
                generalize bs.take rest ++ [pb] = NB at *
                have HBx : Hid (Below w'.heap.size w' (w3.alloc (.cells #[ptr pb] 83))) := HB3.out.alloc HB3.out.size _
                have cellsN := onePtr_cells w3 pb
                go_wp2_with (at_builtin; refine wpList_append_own_at _ rfl _ _ 85 rfl w'.heap.size 83 i0 (.pointer none) 1 8 Tryd.underlying85 hi hz0 hz1 hz2 rfl (by decide) _ _ _ rfl own1 ⟨w3.heap.size, 0, none⟩ 1 1 [ptr pb] rfl rfl cellsN (by intro u hu; simp at hu; subst hu; rfl) (by unfold maxLen; omega) (by omega) (by have h := HB3.out.size; simp; omega) ?_)
                intro v7 w7 own7 grow7 _ hat7
                have HO7 : Hid (w7.ownsRow w'.heap.size 83 1 v7 NB.length (ptrs NB)) := by
                  show World.ownsRow _ _ _ _ _ _ _
                  rw [← HLX.out.1, ← HLX.out.2]
                  exact own7
                have HT7 : Hid (TrsAt w7 (Mix (fun _ => False) w' w7 v7) (NP.reverse.map Ent.val) NB) := by
                  show TrsAt _ _ _ _
                  rw [← HN2.out]
                  exact mix_next HT3.out grow7 hat7 rfl
                have HB7 : Hid (Below w'.heap.size w' w7) := HBx.out.grown grow7 HBx.out.size (fun k hk => by
                  have e : g = k := Option.some.inj hk
                  rw [← e]
                  exact HG0.out)
                clear own1 own7 grow7 hat7 cellsN
                go_wp2_with fail
                go_roundw
                case rel => exact ⟨j + 1, NP, NB, by omega, by go_num, HF2, HO7, HT7, HB7⟩
                case measure => simp [intOf]; omega
          · have HK : Hid (kindL k vars t = 0) := by
              show _ = _
              by_cases h0 : ownOf op = 0
              · exact kind_stop HX.out (foldK_of_pileT HF.out) (step_own h0)
              · refine kind_stop HX.out (foldK_of_pileT HF.out) (step_kind (x := (op, n)) (by have := HMM.out; have := HPL.out; have := HR.out; simp only; omega) ?_)
                rw [show manyOf (op, n).1 = m from HMM.out.symm]
                refine Classical.byContradiction fun hne => hgood ⟨h0, fun e he => Classical.byContradiction fun hk' => hne ⟨e, he, hk'⟩⟩
            have GE : Hid (∀ (sl : Value) (w1 : World), PtrsAt w1 (Old w1) sl (bs.drop rest) → Below w2.heap.size w2 w1 → Calls Tryd.prog 79 #[.agg #[.int .i64 op, .int .u64 n], sl] w1 fun e w3 => e = .returned (.pointer none) ∧ Below w'.heap.size w' w3) := by
              intro sl w1 hsl hb3
              obtain ⟨h1, h2⟩ := hp1.out
              have h1' : TrsAt w1 (Mix (fun _ => False) w' w1 (.slice ad bs.length cp)) (p.reverse.map Ent.val) bs := TrsAt.frame (fun k hk => ⟨hk.1, Nat.lt_of_lt_of_le hk.2.1 hb3.size, hk.2.2⟩) (fun k hk => hb3.block k hk.2.1) h1
              have hd := trs_drop h1' rest
              rw [HLP.out.1] at hd
              have hsz : sizes ((p.take m).reverse.map Ent.val) ≤ 1000000 := by
                have h3 := pile_sizes HF.out
                have h4 := sizes_append ((p.reverse.map Ent.val).take rest) ((p.reverse.map Ent.val).drop rest)
                rw [List.take_append_drop, HLP.out.1] at h4
                omega
              refine (nodeOver_mixed op n _ (bs.drop rest) sl w1 (Mix (fun _ => False) w' w1 (.slice ad bs.length cp)) (fun k hk => hk.2.1) hsl hd ?_ ?_ hsz).mono ?_
              · rw [← HMM.out]
                have := HPL.out
                have := HR.out
                simp
                omega
              · rintro ⟨h0, hall⟩
                refine hgood ⟨h0, fun e he => ?_⟩
                rw [((pileT_ok j p HF.out).1 e (List.mem_of_mem_take he)).2]
                exact hall e.val (List.mem_map.2 ⟨e, by simpa using he, rfl⟩)
              · rintro e w3 ⟨he, hb4⟩
                exact ⟨he, HB2.out.trans ((hb3.trans (hb4.mono hb3.size)).mono HB2.out.size)⟩
            clear hgood HF HLP
            have HSH : Hid _ := hp1.out.2
            rcases HO.out.2 with ⟨hnil, hb0⟩ | ⟨g, cap', cur, hv, hg, hh, hcap1, hcap2, hcap3, hcur⟩
            · have hbs : bs = [] := List.length_eq_zero_iff.1 hb0
              subst hbs
              obtain rfl : rest = 0 := by simp at hr1; exact hr1
              obtain ⟨rfl, rfl⟩ : ad = none ∧ cp = 0 := by
                simp at hnil
                exact hnil
              have GC := fun (w1 : World) (hb3 : Below w2.heap.size w2 w1) => GE.out (.slice none 0 0) w1 ⟨by simp, Or.inl ⟨rfl, none, 0, rfl⟩⟩ hb3
              have hd2 : Below w2.heap.size w2 w2.drew := (Below.refl _ _).drew
              clear hnil hb0 HO hr1 hp1 HSH GE HPL HS
              go_region_with (go_at_call 79; refine (GC _ hd2).mono ?_; rintro e w3 ⟨rfl, hb3⟩; have HB3 : Hid _ := hb3; clear hb3)
              all_goals clear GC hd2
              all_goals
                go_wp2_with fail
                go_ret
                exact ⟨HB3.out, Or.inl ⟨HK.out, rfl⟩⟩
            · obtain ⟨rfl, rfl⟩ : ad = some ⟨g, 0, none⟩ ∧ cap' = cp := by
                simp at hv
                exact ⟨hv.1, hv.2.symm⟩
              have hcap2' : cap' ≤ 9223372036854775807 := hcap2
              have GC := fun (w1 : World) (hb3 : Below w2.heap.size w2 w1) => GE.out _ w1 (own_high (owns_below HSH.out hb3) rfl hr1 hpj) hb3
              obtain ⟨asl, hasl⟩ : ∃ asl, (if cap' = rest then some (⟨g, 0, none⟩ : Addr) else some ⟨g, rest, none⟩) = asl := ⟨_, rfl⟩
              rw [hasl] at GC
              have hd2 : Below w2.heap.size w2 w2.drew := (Below.refl _ _).drew
              clear hv hcur hcap2 hh HO hg hp1 HSH GE HPL HS
              go_region_with (go_at_call 79; refine (GC _ hd2).mono ?_; rintro e w3 ⟨rfl, hb3⟩; have HB3 : Hid _ := hb3; clear hb3)
              all_goals clear GC hd2 hasl
              all_goals
                go_wp2_with fail
                go_ret
                exact ⟨HB3.out, Or.inl ⟨HK.out, rfl⟩⟩
    · obtain rfl : j = t.length := by omega
      have HE := pile_end hk1 hk hv hv4 hl HF.out
      obtain ⟨ad, cp, hv7⟩ := own_shape HO.out
      by_cases h1 : bs.length = 1
      · obtain ⟨b0, rfl⟩ := List.length_eq_one_iff.1 h1
        obtain ⟨e0, rfl⟩ : ∃ e0, p = [e0] := List.length_eq_one_iff.1 hpl
        have hr := HE.2 e0 rfl
        have htr : TrAt wr (New (fun _ => False) w' wr) e0.val b0 := TrAt.frame (fun k hk => Or.inr ⟨hk.1.elim (fun h => h.elim) id, hk.2.1⟩) (fun _ _ => rfl) (HS.out.2 0 e0.val b0 rfl rfl)
        rcases HO.out.2 with ⟨_, hb0⟩ | ⟨g, cap', cur, hv, hg, hh, _⟩
        · simp at hb0
        have hcell := HO.out.cells (g := g) (by rw [hv]; rfl) 0 (ptr b0) rfl
        have hcell' : wr.cell? ⟨g, 0, none⟩ = some (ptr b0) := hcell
        have HR : Hid (Below w'.heap.size w' wr ∧ ∃ r : Tr, pileT k vars t t.length = some [⟨0, r.kind, r⟩] ∧ TrAt wr (New (fun _ => False) w' wr) r b0) := ⟨HB.out, e0.val, hr, htr⟩
        clear hcell hr htr HE hh HO HS HF HB hv7
        subst hv
        go_wp2_with fail
        go_ret
        obtain ⟨h1, r, h2, h4⟩ := HR.out
        exact ⟨h1, Or.inr ⟨r, b0, h2, rfl, h4⟩⟩
      · have HK : Hid (kindL k vars t = 0) := HE.1 (by omega)
        have hne : ((bs.length : Int) != 1) = true := bne_iff_ne.2 (by omega)
        have hb48 : bs.length ≤ 48 := by
          have h1 := foldK_of_pileT HF.out
          have h2 := foldK_len _ _ _ h1
          simp at h2
          omega
        clear HE HF HS HO
        subst hv7
        go_wp2_with fail
        go_ret
        exact ⟨HB.out, Or.inl ⟨HK.out, rfl⟩⟩
theorem rootOf_new (wide vars : Int) (v : Value) (t : List Nd) (w : World) (hT : Tab w) (h : NodesAt w v t) (r : Tr) (hk : 0 < kindL wide vars t) (hr : pileT wide vars t t.length = some [⟨0, r.kind, r⟩]) :
    Calls Tryd.prog 60 #[.int .i64 wide, .int .i64 vars, v] w fun e w' => ∃ p, e = .returned (ptr p) ∧ TrAt w' (New (fun _ => False) w w') r p ∧ Below w.heap.size w w' := by
  obtain ⟨h1, h2, h3, h4, h5, _⟩ := root_tree hk
  obtain ⟨k, rfl, hk1, hk64⟩ := wideB_true h1
  obtain ⟨hok, hlen, hN⟩ := h
  rcases hN with ⟨rfl, _⟩ | ⟨b, off, cap, rfl, hlt, hc⟩
  · simp at h4
  refine (rootOf_inN k vars b off cap t hk1 hk64 h2 h3 h5 hok w hT hlt hc).mono ?_
  rintro e w' ⟨hb, ⟨h0, _⟩ | ⟨r', p, hr', he, htr⟩⟩
  · omega
  · rw [hr] at hr'
    simp at hr'
    obtain rfl := hr'.2
    exact ⟨p, he, htr, hb⟩
end Go.Proofs.YtkmgcgmeibhnmaaDoor

namespace Go.Proofs.YtkmgcgmeibhnmaaDoor
open Go Go.RowKit
open M
set_option linter.unusedVariables false

set_option maxRecDepth 100000 in
theorem rootOfKind_no (wide vars kind : Int) (v : Value) (t : List Nd) (w : World) (hT : Tab w) (h : NodesAt w v t) (hk0 : kind = 1) (hk : ¬ kindL wide vars t = kind) :
    Calls Tryd.prog 61 #[.int .i64 wide, .int .i64 vars, v, .int .i64 kind] w fun e w' => e = .returned (.pointer none) ∧ Below w.heap.size w w' := by
  subst hk0
  by_cases hp : 0 < kindL wide vars t
  · obtain ⟨_, _, _, _, _, r, hr, _, _, k3⟩ := root_tree hp
    have g := rootOf_yes wide vars v t w hT h r hp hr
    have hne : (r.kind != 1) = true := bne_iff_ne.2 (by rw [k3]; exact hk)
    have HK : Hid _ := hne
    clear hT h hk hp hr k3 hne
    go_enter Tryd.func61, Tryd.ntmps61
    go_wp2_with fail
    refine g.mono ?_
    rintro e w1 ⟨b, rfl, htr, hb⟩
    obtain ⟨ps, ⟨_, _, _, n2, _⟩, _⟩ := trAt_open htr
    have hne := HK.out
    have HB : Hid _ := hb
    clear g htr hb
    generalize r.kind = kk at *
    go_wp2_with fail
    go_ret
    exact ⟨rfl, HB.out⟩
  · have g := rootOf_no wide vars v t w hT h hp
    clear hT h hk hp
    go_enter Tryd.func61, Tryd.ntmps61
    go_wp2_with fail
    refine g.mono ?_
    rintro e w1 ⟨rfl, hb⟩
    have HB : Hid _ := hb
    clear g hb
    go_wp2_with fail
    go_ret
    exact ⟨rfl, HB.out⟩
set_option maxRecDepth 100000 in
theorem rootOfKind_yes (wide vars : Int) (v : Value) (t : List Nd) (w : World) (hT : Tab w) (h : NodesAt w v t) (r : Tr) (hk : kindL wide vars t = 1) (hr : pileT wide vars t t.length = some [⟨0, r.kind, r⟩]) (hrk : r.kind = 1) :
    Calls Tryd.prog 61 #[.int .i64 wide, .int .i64 vars, v, .int .i64 1] w fun e w' => ∃ p, e = .returned (ptr p) ∧ TrAt w' (New (fun _ => False) w w') r p ∧ Below w.heap.size w w' := by
  have g := rootOf_new wide vars v t w hT h r (by omega) hr
  have HK : Hid _ := hrk
  clear hT h hk hr hrk
  go_enter Tryd.func61, Tryd.ntmps61
  go_wp2_with fail
  refine g.mono ?_
  rintro e w1 ⟨b, rfl, htr, hb⟩
  obtain ⟨ps, ⟨_, _, _, n2, _⟩, _⟩ := trAt_open htr
  rw [HK.out] at n2
  have HT : Hid _ := htr
  have HB : Hid _ := hb
  clear g htr hb
  go_wp2_with fail
  go_ret
  exact ⟨_, rfl, HT.out, HB.out⟩
/-- what the program's PutAll is to do -/
def DoesPutAll : Prop := ∀ (wide : Int) (vars : Int) (tv : Value) (t : List Nd) (bv : Value) (bs : List (List Nd)) (w : World), Tab w → NodesAt w tv t → t.length ≤ 1048576 → NodesSS w bv bs → bs.length ≤ 1048576 →
  Calls Tryd.prog 16 #[.int .i64 wide, .int .i64 vars, tv, bv] w fun e w' => ∃ r0' : Value, e = .returned (.tuple #[r0', .bool (saidPut wide vars t bs)]) ∧ OwnNodes w' w.heap.size r0' (putAllL wide vars t bs) ∧ Below w.heap.size w w'
/-- trees of good numbers, for lists of nodes -/
def ByOk (wide vars : Int) (rs : List Tr) (us : List (List Nd)) : Prop := rs.map Tr.flat = us ∧ ∀ q ∈ rs, q.Ok wide vars ∧ q.kind = 1 ∧ q.size ≤ 48
set_option maxRecDepth 100000 in
set_option maxHeartbeats 4000000 in
theorem putAll_good (wide vars : Int) (tv : Value) (t : List Nd) (c o cp : Nat) (bs : List (List Nd)) (w : World) (hT : Tab w) (h : NodesAt w tv t) (hk : 0 < kindL wide vars t) (hn : (bs.length : Int) = vars) (hclt : c < w.heap.size)
    (hcs : ∀ (i : Nat) (u : List Nd), bs[i]? = some u → ∃ z : Value, w.cell? ⟨c, o + i, none⟩ = some z ∧ NodesAt w z u) :
    Calls Tryd.prog 16 #[.int .i64 wide, .int .i64 vars, tv, .slice (some ⟨c, o, none⟩) bs.length cp] w fun e w' => ∃ r0' : Value, e = .returned (.tuple #[r0', .bool (saidPut wide vars t bs)]) ∧ OwnNodes w' w.heap.size r0' (putAllL wide vars t bs) ∧ Below w.heap.size w w' := by
  obtain ⟨g1, g2, g3, g4, g5, r, hr, k1, k2, k3⟩ := root_tree hk
  have g := rootOf_yes wide vars tv t w hT h r hk hr
  have hp : Pos r := by
    intro x hx
    rw [k2] at hx
    exact (h.1 x hx).2.2.1
  have hsz : r.size ≤ 48 := by
    have := r.flat_len
    rw [k2] at this
    omega
  have hvb : VarsBelow r bs.length := by
    intro x hx h2
    have h3 := ok_vars k1 x hx h2
    have h4 := hp x hx
    omega
  have HBAD : Hid ((¬ ∀ u ∈ bs, kindL wide vars u = 1) → saidPut wide vars t bs = false ∧ putAllL wide vars t bs = []) := by
    intro hbad
    have e1 : canPut wide vars t bs = false := by
      cases hcp : canPut wide vars t bs with
      | false => rfl
      | true =>
        unfold canPut at hcp
        rw [decide_eq_true hk, decide_eq_true hn] at hcp
        simp only [Bool.true_and, List.all_eq_true, decide_eq_true_eq] at hcp
        exact absurd hcp hbad
    unfold saidPut putAllL
    rw [e1]
    exact ⟨rfl, rfl⟩
  have HGOOD : Hid ((∀ u ∈ bs, kindL wide vars u = 1) → saidPut wide vars t bs = decide (0 < kindL wide vars (putsL bs t)) ∧ putAllL wide vars t bs = madeL wide vars (putsL bs t)) := by
    intro hall
    have e1 : canPut wide vars t bs = true := by
      unfold canPut
      rw [decide_eq_true hk, decide_eq_true hn]
      simp only [Bool.true_and, List.all_eq_true, decide_eq_true_eq]
      exact hall
    unfold saidPut putAllL
    rw [e1, if_pos rfl, Bool.true_and]
    exact ⟨rfl, rfl⟩
  have HKIND : Hid (∀ (z : Value) (u : List Nd) (w1 : World), NodesAt w1 z u → Below w.heap.size w w1 → ¬ kindL wide vars u = 1 → Calls Tryd.prog 61 #[.int .i64 wide, .int .i64 vars, z, .int .i64 1] w1 fun e w' => e = .returned (.pointer none) ∧ Below w1.heap.size w1 w') :=
    fun z u w1 hz hb hne => rootOfKind_no wide vars 1 z u w1 (hT.below hb hT.some) hz rfl hne
  have HKIND2 : Hid (∀ (z : Value) (u : List Nd) (w1 : World), NodesAt w1 z u → Below w.heap.size w w1 → kindL wide vars u = 1 → ∃ q : Tr, q.flat = u ∧ q.Ok wide vars ∧ q.kind = 1 ∧ q.size ≤ 48 ∧ Calls Tryd.prog 61 #[.int .i64 wide, .int .i64 vars, z, .int .i64 1] w1 fun e w' => ∃ p, e = .returned (ptr p) ∧ TrAt w' (New (fun _ => False) w1 w') q p ∧ Below w1.heap.size w1 w') := by
    intro z u w1 hz hb h1
    obtain ⟨_, _, _, _, l5, q, hq, q1, q2, q3⟩ := root_tree (show 0 < kindL wide vars u by omega)
    refine ⟨q, q2, q1, by omega, ?_, rootOfKind_yes wide vars z u w1 (hT.below hb hT.some) hz q h1 hq (by omega)⟩
    have := q.flat_len
    rw [q2] at this
    omega
  have HPUT : Hid (∀ (rs : List Tr) (pbs : List Nat) (pv : Value) (b : Nat) (w1 : World), rs.length = bs.length → (∀ q ∈ rs, q.Ok wide vars ∧ q.kind = 1 ∧ q.size ≤ 48) → TrAt w1 (Old w1) r b → PtrsAt w1 (Old w1) pv pbs → TrsAt w1 (Old w1) rs pbs → Calls Tryd.prog 63 #[ptr b, pv] w1 fun e w' => ∃ b', e = .returned (ptr b') ∧ TrAt w' (Old w') (trPut rs r) b' ∧ Below w1.heap.size w1 w') := by
    intro rs pbs pv b w1 hl hq htr hpv hts
    refine (put_any wide vars rs (fun q h => (hq q h).2.1) (fun q h => (hq q h).2.2) (by omega) r (Old w1) b pbs pv w1 (fun k hk => hk) htr hpv hts k1 hp (by rw [hl]; exact hvb) (by omega)).mono ?_
    rintro e w' ⟨b', he, ht, hb⟩
    exact ⟨b', he, tr_all (S := Old w1) (fun k hk => hk) hb ht, hb⟩
  have HFLAT : Hid (∀ rs : List Tr, ByOk wide vars rs bs → (trPut rs r).Ok wide vars ∧ (trPut rs r).flat = putsL bs t) := by
    rintro rs ⟨h1, h2⟩
    refine ⟨trPut_ok rs (fun q hq => ⟨(h2 q hq).2.1, (h2 q hq).1⟩) r k1, ?_⟩
    rw [trPut_flat rs r k1 hp (by rw [← h1] at hvb; simpa using hvb), h1, k2]
  have HW : Hid (wideB wide = true ∧ 1 ≤ vars ∧ vars ≤ 4) := ⟨g1, g2, g3⟩
  have HCS : Hid _ := hcs
  obtain ⟨i0, hi, hz0, hz1, hz2⟩ := info_parts infoPtr
  have hb4 : bs.length ≤ 4 := by omega
  generalize hSP : saidPut wide vars t bs = SP at *
  generalize hPA : putAllL wide vars t bs = PA at *
  have HN : Hid ((bs.length : Int) = vars) := hn
  clear hT h hk hr k1 k2 k3 hp hsz hvb hcs g1 g2 g3 g4 g5 hSP hPA
  have hne : ((bs.length : Int) != vars) = false := by rw [hn]; simp
  clear hn
  go_enter Tryd.func16, Tryd.ntmps16
  go_wp2_with fail
  refine g.mono ?_
  rintro e w1 ⟨b, rfl, htr, hb1⟩
  have HTR : Hid (TrAt w1 (Old w1) r b) := htr
  have HB1 : Hid (Below w.heap.size w w1) := hb1
  clear g htr hb1
  go_wp2_with fail
  go_loopw [11, 29] (fun v i wr => ∃ (j : Nat) (rs : List Tr) (pbs : List Nat), j ≤ bs.length ∧ i = .int .i64 j ∧ Hid (wr.ownsRow w1.heap.size 83 1 v pbs.length (ptrs pbs)) ∧ Hid (TrsAt wr (Mix (fun _ => False) w1 wr v) rs pbs) ∧ Hid (ByOk wide vars rs (bs.take j)) ∧ Hid (Below w1.heap.size w1 wr)) (fun _ i _ => bs.length - (intOf i).toNat)
  case atStart => exact ⟨0, [], [], by omega, rfl, World.ownsRow_nil _ _ _ _, ⟨rfl, fun i a p ha _ => by simp at ha⟩, ⟨rfl, fun q hq => by cases hq⟩, Below.refl _ _⟩
  case round =>
    obtain ⟨j, rs, pbs, hj, rfl, HO, HS, HY, HB⟩ := hrel
    have hrl : rs.length = j := by
      have h1 := congrArg List.length HY.out.1
      simp at h1
      omega
    have hpl : pbs.length = j := by
      have h1 := HS.out.1
      omega
    have HBw : Hid (Below w.heap.size w wr) := HB1.out.trans (HB.out.mono HB1.out.size)
    by_cases hlt' : j < bs.length
    · obtain ⟨u, hu⟩ : ∃ u, bs[j]? = some u := ⟨bs[j], List.getElem?_eq_getElem hlt'⟩
      obtain ⟨z, cz, hz⟩ := HCS.out j u hu
      rw [← HBw.out.cell (p := ⟨c, o + j, none⟩) hclt] at cz
      have hz' := hz.below HBw.out
      obtain ⟨za, zc, rfl⟩ := hz.shape
      by_cases hk1 : kindL wide vars u = 1
      · obtain ⟨q, q1, q2, q3, q4, gq⟩ := HKIND2.out _ u wr hz' HBw.out hk1
        have HY2 : Hid (ByOk wide vars (rs ++ [q]) (bs.take (j + 1))) := by
          refine ⟨?_, ?_⟩
          · rw [List.map_append, HY.out.1, List.take_add_one, hu]
            simp [q1]
          · intro x hx
            rcases List.mem_append.1 hx with hx | hx
            · exact HY.out.2 x hx
            · simp at hx
              subst hx
              exact ⟨q2, q3, q4⟩
        obtain ⟨av, cv, hsv⟩ := own_shape HO.out
        have hb2' : pbs.length ≤ 4 := by omega
        clear hu hz hz' hk1 q1 q2 q3 q4 hrl hpl
        subst hsv
        go_wp2_with fail
        refine gq.mono ?_
        rintro e w2 ⟨b2, rfl, ht2, hb2⟩
        have HB2 : Hid (Below w1.heap.size w1 w2) := HB.out.trans (hb2.mono HB.out.size)
        have HS2 : Hid (TrsAt w2 (Mix (fun _ => False) w1 w2 (.slice av pbs.length cv)) (rs ++ [q]) (pbs ++ [b2])) := by
          refine trs_snoc (TrsAt.frame (fun k hk => ⟨hk.1, Nat.lt_of_lt_of_le hk.2.1 hb2.size, hk.2.2⟩) (fun k hk => hb2.block k hk.2.1) HS.out) (TrAt.frame (fun k hk => ?_) (fun _ _ => rfl) ht2)
          rcases hk with hk | hk
          · exact hk.elim
          · have h2 := HB.out.size
            exact ⟨Or.inr (by omega), hk.2, fun e => by have := (HO.out.lt k e.symm).2; omega⟩
        have own2 : w2.ownsRow w1.heap.size 83 1 (.slice av pbs.length cv) pbs.length (ptrs pbs) := owns_below HO.out hb2
        have HO2 : Hid _ := own2
        have HLX : Hid (ptrs pbs ++ [ptr b2] = ptrs (pbs ++ [b2]) ∧ pbs.length + 1 = (pbs ++ [b2]).length) := by
          constructor
          · simp [ptrs]
          · simp
        have own1 := own2.alloc (.cells #[ptr b2] 83)
        generalize ptrs pbs = xs0 at own1 HLX
        generalize pbs ++ [b2] = NB at *
        generalize rs ++ [q] = NR at *
        have HBx : Hid (Below w1.heap.size w1 (w2.alloc (.cells #[ptr b2] 83))) := HB2.out.alloc HB2.out.size _
        have cellsN := onePtr_cells w2 b2
        clear gq ht2 hb2 own2
        go_wp2_with (at_builtin; refine wpList_append_own_at _ rfl _ _ 85 rfl w1.heap.size 83 i0 (.pointer none) 1 8 Tryd.underlying85 hi hz0 hz1 hz2 rfl (by decide) _ _ _ rfl own1 ⟨w2.heap.size, 0, none⟩ 1 1 [ptr b2] rfl rfl cellsN (by intro u hu; simp at hu; subst hu; rfl) (by unfold maxLen; omega) (by omega) (by have h := HB2.out.size; simp; omega) ?_)
        intro v7 w7 own7 grow7 _ hat7
        have HO7 : Hid (w7.ownsRow w1.heap.size 83 1 v7 NB.length (ptrs NB)) := by
          show World.ownsRow _ _ _ _ _ _ _
          rw [← HLX.out.1, ← HLX.out.2]
          exact own7
        have HT7 : Hid (TrsAt w7 (Mix (fun _ => False) w1 w7 v7) NR NB) := mix_next HS2.out grow7 hat7 rfl
        have HB7 : Hid (Below w1.heap.size w1 w7) := HBx.out.grown grow7 HBx.out.size (fun k hk => (World.ownsRow.lt HO2.out k hk).1)
        clear own1 own7 grow7 hat7 cellsN
        go_wp2_with fail
        go_roundw
        case rel => exact ⟨j + 1, NR, NB, by omega, by go_num, HO7, HT7, HY2, HB7⟩
        case measure => simp [intOf]; omega
      · have gq := HKIND.out _ u wr hz' HBw.out hk1
        obtain ⟨hs1, hs2⟩ := HBAD.out (fun hall => hk1 (hall u (List.mem_of_getElem? hu)))
        subst hs1 hs2
        clear hu hz hz' hk1 hrl hpl
        go_wp2_with fail
        refine gq.mono ?_
        rintro e w2 ⟨rfl, hb2⟩
        have HB2 : Hid (Below w.heap.size w w2) := HBw.out.trans (hb2.mono HBw.out.size)
        clear gq hb2
        go_wp2_with fail
        go_ret2
        exact ⟨_, rfl, World.ownsRow_nil _ _ _ _, HB2.out⟩
    · obtain rfl : j = bs.length := by omega
      have hy : ByOk wide vars rs bs := by
        have h1 := HY.out
        rw [List.take_length] at h1
        exact h1
      have hall : ∀ u ∈ bs, kindL wide vars u = 1 := by
        intro u hu
        rw [← hy.1] at hu
        obtain ⟨q, hq, rfl⟩ := List.mem_map.1 hu
        obtain ⟨h1, h2, h3⟩ := hy.2 q hq
        rw [Tr.kindL_eq h1 HW.out.1 HW.out.2.1 HW.out.2.2 h3]
        exact h2
      obtain ⟨hs1, hs2⟩ := HGOOD.out hall
      obtain ⟨f1, f2⟩ := HFLAT.out rs hy
      obtain ⟨av, cv, hsv⟩ := own_shape HO.out
      have g9 := HPUT.out rs pbs u11 b wr hrl hy.2 (HTR.out.below HB.out) (ptrs_of_own HO.out (by omega)) (TrsAt.frame (fun k hk => hk.2.1) (fun _ _ => rfl) HS.out)
      have HM : Hid (∀ (b' : Nat) (w' : World), TrAt w' (Old w') (trPut rs r) b' → Calls Tryd.prog 62 #[ptr b'] w' fun e w'' => ∃ v', e = .returned (.tuple #[v', .bool SP]) ∧ OwnNodes w'' w'.heap.size v' PA ∧ Below w'.heap.size w' w'') := by
        intro b' w' ht'
        have h := made_nodes (trPut rs r) b' w' ht' wide vars f1 HW.out.1 HW.out.2.1 HW.out.2.2
        rw [f2, ← hs1, ← hs2] at h
        exact h
      clear hy hall hs1 hs2 f1 f2 hrl hpl HS HY HPUT HFLAT HKIND HKIND2 HBAD HGOOD HO
      subst hsv
      go_wp2_with fail
      refine g9.mono ?_
      rintro e w2 ⟨b2, rfl, ht2, hb2⟩
      have g10 := HM.out b2 w2 ht2
      have HB2 : Hid (Below w.heap.size w w2) := HBw.out.trans (hb2.mono HBw.out.size)
      clear g9 ht2 hb2 HM
      go_wp2_with fail
      refine g10.mono ?_
      rintro e w3 ⟨v3, rfl, ho3, hb3⟩
      have HO3 : Hid (OwnNodes w3 w.heap.size v3 PA) := ho3.low HB2.out.size
      have HB3 : Hid (Below w.heap.size w w3) := HB2.out.trans (hb3.mono HB2.out.size)
      clear g10 ho3 hb3
      go_wp2_with fail
      go_ret2
      exact ⟨_, rfl, HO3.out, HB3.out⟩
set_option maxRecDepth 100000 in
theorem impl_PutAll : DoesPutAll := by
  intro wide vars tv t bv bs w hT h hl hs hbl
  by_cases hk : 0 < kindL wide vars t
  · by_cases hn : (bs.length : Int) = vars
    · obtain ⟨_, hv1, _⟩ := root_tree hk
      rcases hs.2 with ⟨rfl, _⟩ | ⟨c, o, cp, rfl, hclt, hcs⟩
      · simp at hn
        omega
      exact putAll_good wide vars tv t c o cp bs w hT h hk hn hclt hcs
    · obtain ⟨_, _, _, _, _, r, hr, _⟩ := root_tree hk
      have g := rootOf_yes wide vars tv t w hT h r hk hr
      obtain ⟨a, cp, rfl⟩ := hs.shape
      have e1 : canPut wide vars t bs = false := by unfold canPut; rw [decide_eq_true hk, decide_eq_false hn]; rfl
      unfold saidPut putAllL
      rw [e1]
      have hne : ((bs.length : Int) != vars) = true := bne_iff_ne.2 hn
      clear hT h hk hr hs hn e1
      go_enter Tryd.func16, Tryd.ntmps16
      go_wp2_with fail
      refine g.mono ?_
      rintro e w1 ⟨b, rfl, _, hb1⟩
      have HB1 : Hid _ := hb1
      clear g hb1
      go_wp2_with fail
      go_ret2
      exact ⟨_, rfl, World.ownsRow_nil _ _ _ _, HB1.out⟩
  · have g := rootOf_no wide vars tv t w hT h hk
    obtain ⟨a, cp, rfl⟩ := hs.shape
    have e1 : canPut wide vars t bs = false := by unfold canPut; rw [decide_eq_false hk]; rfl
    unfold saidPut putAllL
    rw [e1]
    clear hT h hk hs e1
    go_enter Tryd.func16, Tryd.ntmps16
    go_wp2_with fail
    refine g.mono ?_
    rintro e w1 ⟨rfl, hb1⟩
    have HB1 : Hid _ := hb1
    clear g hb1
    go_wp2_with fail
    go_ret2
    exact ⟨_, rfl, World.ownsRow_nil _ _ _ _, HB1.out⟩
end Go.Proofs.YtkmgcgmeibhnmaaDoor

namespace Go.Proofs.YtkmgcgmeibhnmaaDoor
open Go Go.RowKit
open M
set_option linter.unusedVariables false

theorem putAll_len1 {wide vars : Int} {t : List Nd} {bs : List (List Nd)} : (putAllL wide vars t bs).length ≤ 48 := by
  unfold putAllL madeL
  split
  · split
    · rename_i h
      obtain ⟨_, _, _, _, g5, _⟩ := root_tree h
      exact g5
    · simp
  · simp
theorem putAll_ok1 {wide vars : Int} {t : List Nd} {bs : List (List Nd)} (hok : ∀ x ∈ t, NdOk x) (hokb : ∀ b ∈ bs, ∀ x ∈ b, NdOk x) : ∀ x ∈ putAllL wide vars t bs, NdOk x := by
  intro x hx
  unfold putAllL madeL at hx
  split at hx
  · split at hx
    · unfold putsL at hx
      obtain ⟨y, hy, hxy⟩ := List.mem_flatMap.1 hx
      split at hxy
      · rw [List.getD_eq_getElem?_getD] at hxy
        cases hg : bs[y.2.toNat]? with
        | none => rw [hg] at hxy; simp at hxy
        | some u =>
          rw [hg] at hxy
          exact hokb u (List.mem_of_getElem? hg) x (by simpa using hxy)
      · simp at hxy
        subst hxy
        exact hok x hy
    · cases hx
  · cases hx
theorem sumL_mem : ∀ {bs : List (List Nd)} {b : List Nd}, b ∈ bs → b.length ≤ sumL bs
  | t :: r, b, h => by
    simp only [sumL]
    rcases List.mem_cons.1 h with rfl | h
    · omega
    · have := sumL_mem h
      omega
/-- nodes of each list are good, where the lists lie in memory -/
theorem ss_ok {w : World} {v : Value} {bs : List (List Nd)} (h : NodesSS w v bs) : ∀ b ∈ bs, ∀ x ∈ b, NdOk x := by
  intro b hb
  rcases h.2 with ⟨rfl, _⟩ | ⟨c, o, cp, _, _, hc⟩
  · cases hb
  · obtain ⟨i, hi⟩ := List.mem_iff_getElem?.1 hb
    obtain ⟨u, _, hu⟩ := hc i b hi
    exact hu.1
set_option maxRecDepth 100000 in
set_option maxHeartbeats 4000000 in
theorem putAll_small (hI : DoesPutAll) (wide vars : Int) (tv : Value) (t : List Nd) (bv : Value) (bs : List (List Nd)) (htot : t.length + bs.length + sumL bs ≤ 1048576) (w : World) (hT : Tab w) (h_t : NodesAt w tv t) (h_b : NodesSS w bv bs) :
    Calls Tryd.prog 12 #[.int .i64 wide, .int .i64 vars, tv, bv] w fun e w' => e = .returned (.bool true) ∧ Below w.heap.size w w' := by
  have hl_t : t.length ≤ 1048576 := by omega
  have hl_b : bs.length ≤ 1048576 := by omega
  have hs_b : sumL bs ≤ 1048576 := by omega
  have hok_b : ∀ b ∈ bs, (∀ x ∈ b, NdOk x) ∧ b.length ≤ 1048576 := fun b hb => ⟨ss_ok h_b b hb, by have := sumL_mem hb; omega⟩
  have z0 : Calls Tryd.prog 41 #[tv, .int .i64 1048576] w fun e w' => e = .returned (.int .i64 (1048576 - (t.length : Int))) ∧ w' = w := by
    obtain ⟨ad, cap, hsh⟩ := h_t.shape
    have g := szNodeS_any ad t.length cap 1048576 (by omega) (by omega) (by omega) w
    rw [if_neg (by omega), ← hsh] at g
    exact g
  obtain ⟨L, hL0, hL1, z1⟩ : ∃ L : Int, 0 ≤ L ∧ L ≤ 1048576 ∧ Calls Tryd.prog 52 #[bv, .int .i64 (1048576 - (t.length : Int))] w fun e w' => e = .returned (.int .i64 L) ∧ w' = w := by
    refine ⟨leftSS (1048576 - (t.length : Int)) bs, ?_, ?_, szNodeSS_all bv bs (1048576 - (t.length : Int)) (by omega) (by omega) w h_b⟩
    · unfold leftSS
      rw [if_neg (by omega)]
      omega
    · unfold leftSS
      rw [if_neg (by omega)]
      omega
  have GT_t : Hid (∀ w1 : World, Below w.heap.size w w1 → Calls Tryd.prog 42 #[tv] w1 fun e w' => ∃ v', e = .returned v' ∧ OwnNodes w' w1.heap.size v' t ∧ Below w1.heap.size w1 w') := fun w1 hb => toNodeS_any tv t hl_t w1 (h_t.below hb)
  have HN_t : Hid (∀ (w1 : World) (B : Nat) (v1 : Value), OwnNodes w1 B v1 t → NodesAt w1 v1 t) := fun w1 B v1 ho => nodes_of_own h_t.1 (by omega) ho
  have GT_b : Hid (∀ w1 : World, Below w.heap.size w w1 → Calls Tryd.prog 53 #[bv] w1 fun e w' => ∃ v' us, e = .returned v' ∧ SSO w' w1.heap.size v' us bs ∧ Below w1.heap.size w1 w') := fun w1 hb => toNodeSS_any bv bs hl_b w1 (h_b.below hb) (fun b hb => (hok_b b hb).2)
  have HN_b : Hid (∀ (w1 : World) (B : Nat) (v1 : Value) (us : List Value), SSO w1 B v1 us bs → NodesSS w1 v1 bs) := fun w1 B v1 us ho => ho.ss hl_b hok_b
  have GS : Hid (∀ (t1 b1 : Value) (w1 : World), NodesAt w1 t1 t → NodesSS w1 b1 bs → Calls Tryd.prog 17 #[.int .i64 wide, .int .i64 vars, t1, b1] w1 fun e w' => ∃ r0' : Value, e = .returned (.tuple #[r0', .bool (saidPut wide vars t bs)]) ∧ OwnNodes w' w1.heap.size r0' (putAllL wide vars t bs) ∧ Below w1.heap.size w1 w') := fun t1 b1 w1 n_t n_b => putAll_any wide vars t1 b1 t bs w1 n_t n_b
  have GI : Hid (∀ (t1 b1 : Value) (w1 : World), Below w.heap.size w w1 → NodesAt w1 t1 t → NodesSS w1 b1 bs → Calls Tryd.prog 16 #[.int .i64 wide, .int .i64 vars, t1, b1] w1 fun e w' => ∃ r0' : Value, e = .returned (.tuple #[r0', .bool (saidPut wide vars t bs)]) ∧ OwnNodes w' w1.heap.size r0' (putAllL wide vars t bs) ∧ Below w1.heap.size w1 w') := fun t1 b1 w1 hb n_t n_b => hI wide vars t1 t b1 bs w1 (hT.below hb hT.some) n_t hl_t n_b hl_b
  have HR0 : Hid (∀ (w1 : World) (B : Nat) (v1 : Value), OwnNodes w1 B v1 (putAllL wide vars t bs) → NodesAt w1 v1 (putAllL wide vars t bs)) := fun w1 B v1 ho => nodes_of_own (putAll_ok1 h_t.1 (ss_ok h_b)) (by have := putAll_len1 (wide := wide) (vars := vars) (t := t) (bs := bs); omega) ho
  have hlr0 := putAll_len1 (wide := wide) (vars := vars) (t := t) (bs := bs)
  have HMB : Hid (∀ (v : Value) (B C : Nat) (us : List Value) (k : Int) (w1 : World), 0 ≤ k → k ≤ 10000000 → SSO w1 B v us bs → (∀ (i : Nat) (u : Value) (k : Nat), us[i]? = some u → u.ownBlock = some k → k < C) → B ≤ w1.heap.size → Calls Tryd.prog 55 #[v, .int .i64 k] w1 fun e w' => ∃ r : Int, e = .returned (.int .i64 r) ∧ 0 ≤ r ∧ Below B w1 w' ∧ High C w1 w') := fun v B C us k w1 h0 h1 h2 h3 h4 => markNodeSS_any v B C us bs k h0 h1 (by rw [h2.2.1]; exact hl_b) hs_b w1 h2 h3 h4
  have HEB : Hid (∀ (u v : Value) (w1 : World), NodesSS w1 u bs → NodesSS w1 v bs → Calls Tryd.prog 54 #[u, v] w1 fun e w' => e = .returned (.bool true) ∧ Below w1.heap.size w1 w') := fun u v w1 h1 h2 => eqNodeSS_same u v bs w1 h1 h2
  clear hI hT h_t h_b htot hok_b hs_b hl_b
  generalize putAllL wide vars t bs = R0 at *
  generalize saidPut wide vars t bs = R1 at *
  go_enter Tryd.func12, Tryd.ntmps12
  go_wp2_with fail
  refine z0.mono ?_
  rintro e w' ⟨rfl, rfl⟩
  clear z0
  go_wp2_with fail
  refine z1.mono ?_
  rintro e w' ⟨rfl, rfl⟩
  clear z1
  have hb_0_0 := Below.refl w'.heap.size w'
  have g1 := GT_t.out _ hb_0_0
  go_wp2_with fail
  refine g1.mono ?_
  rintro e w1 ⟨kst, rfl, ho_new, hstep⟩
  clear g1
  have hb_0_1 := Below.step hb_0_0 hb_0_0.size hstep
  clear hb_0_0
  have hsz_1 := hstep.size
  clear hstep
  have ho_kst_1 := ho_new
  clear ho_new
  have g2 := GT_b.out _ hb_0_1
  go_wp2_with fail
  refine g2.mono ?_
  rintro e w2 ⟨ksb, us_ksb, rfl, ho_new, hstep⟩
  clear g2
  have ho_kst_2 := owns_below ho_kst_1 hstep
  clear ho_kst_1
  have hb_0_2 := Below.step hb_0_1 hb_0_1.size hstep
  clear hb_0_1
  have hsz_2 := hstep.size
  clear hstep
  have ho_ksb_2 := ho_new
  clear ho_new
  have g3 := GS.out kst ksb _ (HN_t.out _ _ _ ho_kst_2) (HN_b.out _ _ _ _ ho_ksb_2)
  go_wp2_with fail
  refine g3.mono ?_
  clear ho_kst_2
  clear ho_ksb_2
  rintro e w3 ⟨u0, rfl, ho_u0, hstep⟩
  clear g3
  have hb_0_3 := Below.step hb_0_2 hb_0_2.size hstep
  clear hb_0_2
  have hsz_3 := hstep.size
  clear hstep
  have HU0 : Hid (∀ w_ : World, Below w3.heap.size w3 w_ → NodesAt w_ u0 R0) := fun w_ hb => (HR0.out _ _ _ ho_u0).below hb
  clear ho_u0
  have hb_A_3 := Below.refl w3.heap.size w3
  have g4 := GT_t.out _ hb_0_3
  go_wp2_with fail
  refine g4.mono ?_
  rintro e w4 ⟨kxt, rfl, ho_new, hstep⟩
  clear g4
  have hb_0_4 := Below.step hb_0_3 hb_0_3.size hstep
  clear hb_0_3
  have hb_A_4 := Below.step hb_A_3 hb_A_3.size hstep
  clear hb_A_3
  have hsz_4 := hstep.size
  clear hstep
  have ho_kxt_4 := ho_new
  clear ho_new
  have hblk_x := fun k hk => own_block ho_kxt_4 (k := k) hk
  have g5 := GT_b.out _ hb_0_4
  go_wp2_with fail
  refine g5.mono ?_
  rintro e w5 ⟨kxb, us_kxb, rfl, ho_new, hstep⟩
  clear g5
  have ho_kxt_5 := owns_below ho_kxt_4 hstep
  clear ho_kxt_4
  have hb_0_5 := Below.step hb_0_4 hb_0_4.size hstep
  clear hb_0_4
  have hb_A_5 := Below.step hb_A_4 hb_A_4.size hstep
  clear hb_A_4
  have hsz_5 := hstep.size
  clear hstep
  have ho_kxb_5 := ho_new
  clear ho_new
  have HXB : Hid _ := SSO.under ho_kxb_5
  have g6 := GI.out kxt kxb _ hb_0_5 (HN_t.out _ _ _ ho_kxt_5) (HN_b.out _ _ _ _ ho_kxb_5)
  go_wp2_with fail
  refine g6.mono ?_
  rintro e w6 ⟨y0, rfl, ho_n, hstep⟩
  clear g6
  have ho_kxt_6 := owns_below ho_kxt_5 hstep
  clear ho_kxt_5
  have ho_kxb_6 := SSO.below ho_kxb_5 hstep
  clear ho_kxb_5
  have hb_0_6 := Below.step hb_0_5 hb_0_5.size hstep
  clear hb_0_5
  have hb_A_6 := Below.step hb_A_5 hb_A_5.size hstep
  clear hb_A_5
  have hsz_6 := hstep.size
  clear hstep
  have ho_y0_6 := ho_n
  clear ho_n
  have hblk_y := fun k hk => own_block ho_y0_6 (k := k) hk
  have g7 := eqNodeS_any y0 u0 R0 R0 _ (HR0.out _ _ _ ho_y0_6) (HU0.out _ hb_A_6)
  rw [decide_eq_true rfl] at g7
  go_wp2_with fail
  refine g7.mono ?_
  rintro e w7 ⟨rfl, hstep⟩
  clear g7
  have ho_kxt_7 := owns_below ho_kxt_6 hstep
  clear ho_kxt_6
  have ho_kxb_7 := SSO.below ho_kxb_6 hstep
  clear ho_kxb_6
  have ho_y0_7 := owns_below ho_y0_6 hstep
  clear ho_y0_6
  have hb_0_7 := Below.step hb_0_6 hb_0_6.size hstep
  clear hb_0_6
  have hb_A_7 := Below.step hb_A_6 hb_A_6.size hstep
  clear hb_A_6
  have hsz_7 := hstep.size
  clear hstep
  have g8 := GT_t.out _ hb_0_7
  go_wp2_with fail
  refine g8.mono ?_
  rintro e w8 ⟨c_, rfl, ho_new, hstep⟩
  clear g8
  have ho_kxt_8 := owns_below ho_kxt_7 hstep
  clear ho_kxt_7
  have ho_kxb_8 := SSO.below ho_kxb_7 hstep
  clear ho_kxb_7
  have ho_y0_8 := owns_below ho_y0_7 hstep
  clear ho_y0_7
  have hb_0_8 := Below.step hb_0_7 hb_0_7.size hstep
  clear hb_0_7
  have hb_A_8 := Below.step hb_A_7 hb_A_7.size hstep
  clear hb_A_7
  have hsz_8 := hstep.size
  clear hstep
  have g9 := eqNodeS_any kxt c_ t t _ (HN_t.out _ _ _ ho_kxt_8) (HN_t.out _ _ _ ho_new)
  rw [decide_eq_true rfl] at g9
  clear ho_new
  go_wp2_with fail
  refine g9.mono ?_
  rintro e w9 ⟨rfl, hstep⟩
  clear g9
  have ho_kxt_9 := owns_below ho_kxt_8 hstep
  clear ho_kxt_8
  have ho_kxb_9 := SSO.below ho_kxb_8 hstep
  clear ho_kxb_8
  have ho_y0_9 := owns_below ho_y0_8 hstep
  clear ho_y0_8
  have hb_0_9 := Below.step hb_0_8 hb_0_8.size hstep
  clear hb_0_8
  have hb_A_9 := Below.step hb_A_8 hb_A_8.size hstep
  clear hb_A_8
  have hsz_9 := hstep.size
  clear hstep
  have g10 := GT_b.out _ hb_0_9
  go_wp2_with fail
  refine g10.mono ?_
  rintro e w10 ⟨d_, us_d, rfl, ho_new, hstep⟩
  clear g10
  have ho_kxt_10 := owns_below ho_kxt_9 hstep
  clear ho_kxt_9
  have ho_kxb_10 := SSO.below ho_kxb_9 hstep
  clear ho_kxb_9
  have ho_y0_10 := owns_below ho_y0_9 hstep
  clear ho_y0_9
  have hb_0_10 := Below.step hb_0_9 hb_0_9.size hstep
  clear hb_0_9
  have hb_A_10 := Below.step hb_A_9 hb_A_9.size hstep
  clear hb_A_9
  have hsz_10 := hstep.size
  clear hstep
  have g11 := HEB.out kxb d_ _ (HN_b.out _ _ _ _ ho_kxb_10) (HN_b.out _ _ _ _ ho_new)
  clear ho_new
  go_wp2_with fail
  refine g11.mono ?_
  rintro e w11 ⟨rfl, hstep⟩
  clear g11
  have ho_kxt_11 := owns_below ho_kxt_10 hstep
  clear ho_kxt_10
  have ho_kxb_11 := SSO.below ho_kxb_10 hstep
  clear ho_kxb_10
  have ho_y0_11 := owns_below ho_y0_10 hstep
  clear ho_y0_10
  have hb_0_11 := Below.step hb_0_10 hb_0_10.size hstep
  clear hb_0_10
  have hb_A_11 := Below.step hb_A_10 hb_A_10.size hstep
  clear hb_A_10
  have hsz_11 := hstep.size
  clear hstep
  have g12 := markNodeS_any kxt _ t.length _ _ (1) (by omega) (by omega) (by omega) _ ho_kxt_11
  go_wp2_with fail
  refine g12.mono ?_
  rintro e w12 ⟨rfl, ho_m, hgr⟩
  clear g12 ho_m
  clear ho_kxt_11
  have ho_kxb_12 := SSO.other ho_kxb_11 hgr (fun k hk => by have := hblk_x k hk; omega)
  clear ho_kxb_11
  have ho_y0_12 := own_other ho_y0_11 hgr (fun k hk => by have := hblk_x k hk; omega)
  clear ho_y0_11
  have hb_0_12 := Below.grown hb_0_11 hgr hb_0_11.size (fun k hk => by have := hblk_x k hk; omega)
  clear hb_0_11
  have hb_A_12 := Below.grown hb_A_11 hgr hb_A_11.size (fun k hk => by have := hblk_x k hk; omega)
  clear hb_A_11
  have hsz_12 := hgr.size
  clear hgr
  have g13 := HMB.out kxb _ _ _ (1 + 2 * t.length) _ (by omega) (by omega) ho_kxb_12 HXB.out (by omega)
  go_wp2_with fail
  refine g13.mono ?_
  rintro e w13 ⟨r, rfl, hr0, hbm, hhm⟩
  clear g13
  clear ho_kxb_12
  have ho_y0_13 := own_high3 ho_y0_12 hhm
  clear ho_y0_12 hhm
  have hb_0_13 := hb_0_12.trans (hbm.mono (by omega))
  clear hb_0_12
  have hb_A_13 := hb_A_12.trans (hbm.mono (by omega))
  clear hb_A_12
  have hsz_13 := hbm.size
  clear hbm
  have g14 := eqNodeS_any y0 u0 R0 R0 _ (HR0.out _ _ _ ho_y0_13) (HU0.out _ hb_A_13)
  rw [decide_eq_true rfl] at g14
  go_wp2_with fail
  refine g14.mono ?_
  rintro e w14 ⟨rfl, hstep⟩
  clear g14
  have ho_y0_14 := owns_below ho_y0_13 hstep
  clear ho_y0_13
  have hb_0_14 := Below.step hb_0_13 hb_0_13.size hstep
  clear hb_0_13
  have hb_A_14 := Below.step hb_A_13 hb_A_13.size hstep
  clear hb_A_13
  have hsz_14 := hstep.size
  clear hstep
  have g15 := markNodeS_any y0 _ R0.length _ _ (1) (by omega) (by omega) (by omega) _ ho_y0_14
  go_wp2_with fail
  refine g15.mono ?_
  rintro e w15 ⟨rfl, ho_m, hgr⟩
  clear g15
  clear ho_y0_14
  have ho_y0_15 := ho_m
  clear ho_m
  have hb_0_15 := Below.grown hb_0_14 hgr hb_0_14.size (fun k hk => by have := hblk_y k hk; omega)
  clear hb_0_14
  have hb_A_15 := Below.grown hb_A_14 hgr hb_A_14.size (fun k hk => by have := hblk_y k hk; omega)
  clear hb_A_14
  clear hgr
  have g16 := heldNodeS_any y0 _ R0.length _ (1) (by omega) (by omega) (by omega) _ ho_y0_15
  go_wp2_with fail
  refine g16.mono ?_
  rintro e w_ ⟨rfl, rfl⟩
  clear g16
  have g17 := GT_t.out _ hb_0_15
  go_wp2_with fail
  refine g17.mono ?_
  rintro e w16 ⟨ktt, rfl, ho_new, hstep⟩
  clear g17
  have ho_y0_16 := owns_below ho_y0_15 hstep
  clear ho_y0_15
  have hb_0_16 := Below.step hb_0_15 hb_0_15.size hstep
  clear hb_0_15
  have hb_A_16 := Below.step hb_A_15 hb_A_15.size hstep
  clear hb_A_15
  have hsz_16 := hstep.size
  clear hstep
  have ho_ktt_16 := ho_new
  clear ho_new
  have g18 := GT_b.out _ hb_0_16
  go_wp2_with fail
  refine g18.mono ?_
  rintro e w17 ⟨ktb, us_ktb, rfl, ho_new, hstep⟩
  clear g18
  have ho_y0_17 := owns_below ho_y0_16 hstep
  clear ho_y0_16
  have ho_ktt_17 := owns_below ho_ktt_16 hstep
  clear ho_ktt_16
  have hb_0_17 := Below.step hb_0_16 hb_0_16.size hstep
  clear hb_0_16
  have hb_A_17 := Below.step hb_A_16 hb_A_16.size hstep
  clear hb_A_16
  have hsz_17 := hstep.size
  clear hstep
  have ho_ktb_17 := ho_new
  clear ho_new
  have g19 := GI.out ktt ktb _ hb_0_17 (HN_t.out _ _ _ ho_ktt_17) (HN_b.out _ _ _ _ ho_ktb_17)
  go_wp2_with fail
  refine g19.mono ?_
  rintro e w18 ⟨h0, rfl, ho_n, hstep⟩
  clear g19
  have ho_y0_18 := owns_below ho_y0_17 hstep
  clear ho_y0_17
  have ho_ktt_18 := owns_below ho_ktt_17 hstep
  clear ho_ktt_17
  have ho_ktb_18 := SSO.below ho_ktb_17 hstep
  clear ho_ktb_17
  have hb_0_18 := Below.step hb_0_17 hb_0_17.size hstep
  clear hb_0_17
  have hb_A_18 := Below.step hb_A_17 hb_A_17.size hstep
  clear hb_A_17
  have hsz_18 := hstep.size
  clear hstep
  have ho_h0_18 := ho_n
  clear ho_n
  clear ho_ktt_18
  clear ho_ktb_18
  have g20 := eqNodeS_any h0 u0 R0 R0 _ (HR0.out _ _ _ ho_h0_18) (HU0.out _ hb_A_18)
  rw [decide_eq_true rfl] at g20
  go_wp2_with fail
  refine g20.mono ?_
  rintro e w19 ⟨rfl, hstep⟩
  clear g20
  have ho_y0_19 := owns_below ho_y0_18 hstep
  clear ho_y0_18
  have ho_h0_19 := owns_below ho_h0_18 hstep
  clear ho_h0_18
  have hb_0_19 := Below.step hb_0_18 hb_0_18.size hstep
  clear hb_0_18
  have hb_A_19 := Below.step hb_A_18 hb_A_18.size hstep
  clear hb_A_18
  have hsz_19 := hstep.size
  clear hstep
  clear ho_h0_19
  have g21 := heldNodeS_any y0 _ R0.length _ (1) (by omega) (by omega) (by omega) _ ho_y0_19
  go_wp2_with fail
  refine g21.mono ?_
  rintro e w_ ⟨rfl, rfl⟩
  clear g21
  have HB : Hid (Below w'.heap.size w' _) := hb_0_19
  clear ho_y0_19
  go_wp2_with fail
  go_ret
  exact ⟨rfl, HB.out⟩
set_option maxRecDepth 100000 in
theorem putAll_big0 (wide vars : Int) (tv : Value) (t : List Nd) (bv : Value) (bs : List (List Nd)) (hz : 1048576 < t.length) (w : World) (h_t : NodesAt w tv t) :
    Calls Tryd.prog 12 #[.int .i64 wide, .int .i64 vars, tv, bv] w fun e w' => e = .returned (.bool true) ∧ Below w.heap.size w w' := by
  have hn_t := h_t.2.1
  have z0 : Calls Tryd.prog 41 #[tv, .int .i64 1048576] w fun e w' => e = .returned (.int .i64 (-1)) ∧ w' = w := by
    obtain ⟨ad, cap, hsh⟩ := h_t.shape
    have g := szNodeS_any ad t.length cap 1048576 (by omega) (by omega) (by omega) w
    rw [if_pos (by omega), ← hsh] at g
    exact g
  clear h_t
  go_enter Tryd.func12, Tryd.ntmps12
  go_wp2_with fail
  refine z0.mono ?_
  rintro e w' ⟨rfl, rfl⟩
  clear z0
  go_wp2_with fail
  go_ret
  exact ⟨rfl, Below.refl _ _⟩
set_option maxRecDepth 100000 in
theorem putAll_big1 (wide vars : Int) (tv : Value) (t : List Nd) (bv : Value) (bs : List (List Nd)) (ha : t.length ≤ 1048576) (hz : 1048576 < t.length + bs.length + sumL bs) (w : World) (h_t : NodesAt w tv t) (h_b : NodesSS w bv bs) :
    Calls Tryd.prog 12 #[.int .i64 wide, .int .i64 vars, tv, bv] w fun e w' => e = .returned (.bool true) ∧ Below w.heap.size w w' := by
  have hn_t := h_t.2.1
  have z0 : Calls Tryd.prog 41 #[tv, .int .i64 1048576] w fun e w' => e = .returned (.int .i64 (1048576 - (t.length : Int))) ∧ w' = w := by
    obtain ⟨ad, cap, hsh⟩ := h_t.shape
    have g := szNodeS_any ad t.length cap 1048576 (by omega) (by omega) (by omega) w
    rw [if_neg (by omega), ← hsh] at g
    exact g
  have z1 : Calls Tryd.prog 52 #[bv, .int .i64 (1048576 - (t.length : Int))] w fun e w' => e = .returned (.int .i64 (-1)) ∧ w' = w := by
    have g := szNodeSS_all bv bs (1048576 - (t.length : Int)) (by omega) (by omega) w h_b
    unfold leftSS at g
    rw [if_pos (by omega)] at g
    exact g
  clear h_t h_b
  go_enter Tryd.func12, Tryd.ntmps12
  go_wp2_with fail
  refine z0.mono ?_
  rintro e w' ⟨rfl, rfl⟩
  clear z0
  go_wp2_with fail
  refine z1.mono ?_
  rintro e w' ⟨rfl, rfl⟩
  clear z1
  go_wp2_with fail
  go_ret
  exact ⟨rfl, Below.refl _ _⟩
theorem putAll_law (hI : DoesPutAll) (wide vars : Int) (tv : Value) (t : List Nd) (bv : Value) (bs : List (List Nd)) (w : World) (hT : Tab w) (h_t : NodesAt w tv t) (h_b : NodesSS w bv bs) :
    Calls Tryd.prog 12 #[.int .i64 wide, .int .i64 vars, tv, bv] w fun e w' => e = .returned (.bool true) ∧ Below w.heap.size w w' := by
  by_cases htot : t.length + bs.length + sumL bs ≤ 1048576
  · exact putAll_small hI wide vars tv t bv bs htot w hT h_t h_b
  by_cases h0 : 1048576 < t.length
  · exact putAll_big0 wide vars tv t bv bs h0 w h_t
  exact putAll_big1 wide vars tv t bv bs (by omega) (by omega) w h_t h_b
end Go.Proofs.YtkmgcgmeibhnmaaDoor
