/-
  The value of the tree of a node: the model's l2Value.
-/
import Derived.Test.YtmhpnkfibecnmaaDoorVal2
import Derived.Deep.RegionWith
import Derived.Outline
namespace Go.Proofs.YtmhpnkfibecnmaaDoor
open Go Go.RowKit
open M
set_option linter.unusedVariables false

/-- a slice whose elements are these words -/
def StAt (w : World) (sv : Value) (st : List Int) : Prop :=
  (st = [] ∧ ∃ (a : Option Addr) (cap : Nat), sv = .slice a 0 cap) ∨
  ∃ b off cap : Nat, sv = .slice (some ⟨b, off, none⟩) st.length cap ∧ b < w.heap.size ∧ ∀ (i : Nat) (s : Int), st[i]? = some s → w.cell? ⟨b, off + i, none⟩ = some (.int .u64 s)
theorem StAt.below {w w' : World} {v : Value} {t : List Int} (h : StAt w v t) (hb : Below w.heap.size w w') : StAt w' v t := by
  rcases h with h | ⟨b, off, cap, hv, hlt, hc⟩
  · exact Or.inl h
  · refine Or.inr ⟨b, off, cap, hv, Nat.lt_of_lt_of_le hlt hb.size, fun i x hx => ?_⟩
    rw [hb.cell (p := ⟨b, off + i, none⟩) hlt]
    exact hc i x hx
theorem Cells.below {w w' : World} {b off : Nat} {t : List Nd} (h : Cells w b off t) (hlt : b < w.heap.size) (hb : Below w.heap.size w w') : Cells w' b off t := by
  intro i x hx
  rw [hb.cell (p := ⟨b, off + i * 2, none⟩) hlt, hb.cell (p := ⟨b, off + i * 2 + 1, none⟩) hlt]
  exact h i x hx
section
variable {k : Nat} {vars : Int} {st : List Int} {t : List Nd} {b off cap : Nat} {sv : Value}
set_option maxRecDepth 100000 in
set_option maxHeartbeats 1000000 in
theorem l2Value_leaf (j : Nat) (op n : Int) (hj : j < t.length) (hl : t.length ≤ 1048576) (hop : op = 1 ∨ op = 20) (w : World)
    (c0 : w.cell? ⟨b, off + j * 2, none⟩ = some (.int .i64 op)) (c1 : w.cell? ⟨b, off + j * 2 + 1, none⟩ = some (.int .u64 n)) :
    Calls Tryd.prog 109 #[.int .i64 k, .slice (some ⟨b, off, none⟩) t.length cap, .int .i64 j, sv] w fun e w' => e = .returned (.int .u64 n) ∧ Below w.heap.size w w' := by
  have g := l2Need_any op (w.alloc (.cells #[.int .i64 op, .int .u64 n] 159))
  have HB : Hid (Below w.heap.size w (w.alloc (.cells #[.int .i64 op, .int .u64 n] 159))) := (Below.refl _ _).alloc (Nat.le_refl _) _
  rcases hop with rfl | rfl
  all_goals
    go_enter Tryd.func109, Tryd.ntmps109
    go_wp2_with fail
    refine g.mono ?_
    rintro e w1 ⟨rfl, rfl⟩
    clear g
    go_wp2_with fail
    go_ret
    exact ⟨rfl, HB.out⟩
set_option maxRecDepth 100000 in
set_option maxHeartbeats 1000000 in
theorem l2Value_var (j i : Nat) (s : Int) (hj : j < t.length) (hl : t.length ≤ 1048576) (hst : st.length ≤ 1048576) (w : World) (hs : StAt w sv st) (hi : st[i]? = some s)
    (c0 : w.cell? ⟨b, off + j * 2, none⟩ = some (.int .i64 2)) (c1 : w.cell? ⟨b, off + j * 2 + 1, none⟩ = some (.int .u64 i)) :
    Calls Tryd.prog 109 #[.int .i64 k, .slice (some ⟨b, off, none⟩) t.length cap, .int .i64 j, sv] w fun e w' => e = .returned (.int .u64 s) ∧ Below w.heap.size w w' := by
  have g := l2Need_any 2 (w.alloc (.cells #[.int .i64 2, .int .u64 i] 159))
  have hil : i < st.length := (List.getElem?_eq_some_iff.1 hi).1
  have HB : Hid (Below w.heap.size w (w.alloc (.cells #[.int .i64 2, .int .u64 i] 159))) := (Below.refl _ _).alloc (Nat.le_refl _) _
  rcases hs with ⟨rfl, _⟩ | ⟨sb, so, sc, rfl, hsb, hcs⟩
  · simp at hil
  · have cs := hcs i s hi
    clear hcs hi
    go_enter Tryd.func109, Tryd.ntmps109
    go_wp2_with fail
    refine g.mono ?_
    rintro e w1 ⟨rfl, rfl⟩
    clear g
    go_wp2_with fail
    go_ret
    exact ⟨rfl, HB.out⟩
set_option maxRecDepth 100000 in
set_option maxHeartbeats 1000000 in
theorem l2Value_flip (j : Nat) (n x : Int) (hj : j < t.length) (hj1 : 1 ≤ j) (hl : t.length ≤ 1048576) (hk : k ≤ 64) (hx0 : 0 ≤ x) (hx : x < pw k) (w : World)
    (c0 : w.cell? ⟨b, off + j * 2, none⟩ = some (.int .i64 13)) (c1 : w.cell? ⟨b, off + j * 2 + 1, none⟩ = some (.int .u64 n))
    (ih : ∀ (i : Int) (w1 : World), i.toNat = j - 1 → 0 ≤ i → Below w.heap.size w w1 → Calls Tryd.prog 109 #[.int .i64 k, .slice (some ⟨b, off, none⟩) t.length cap, .int .i64 i, sv] w1 fun e w' => e = .returned (.int .u64 x) ∧ Below w1.heap.size w1 w') :
    Calls Tryd.prog 109 #[.int .i64 k, .slice (some ⟨b, off, none⟩) t.length cap, .int .i64 j, sv] w fun e w' => e = .returned (.int .u64 (pw k - 1 - x)) ∧ Below w.heap.size w w' := by
  have g := l2Need_any 13 (w.alloc (.cells #[.int .i64 13, .int .u64 n] 159))
  have HB : Hid (Below w.heap.size w (w.alloc (.cells #[.int .i64 13, .int .u64 n] 159))) := (Below.refl _ _).alloc (Nat.le_refl _) _
  have IH : Hid _ := ih
  clear ih
  have hl2 := pw_le k hk
  have GC : Hid (∀ w1 : World, Calls Tryd.prog 132 #[.int .i64 k, .int .u64 (bits .xor .u64 IntKind.u64.max x)] w1 fun e w' => e = .returned (.int .u64 (pw k - 1 - x)) ∧ w' = w1) := by
    intro w1
    have g2 := l1Cut_any k (by omega) (bits .xor .u64 IntKind.u64.max x) (by rw [not_u64 x hx0 (by omega)]; omega) (by rw [not_u64 x hx0 (by omega)]; omega) w1
    have hm := cut_flip k hk x hx0 hx
    rw [← not_u64 x hx0 (by omega)] at hm
    rw [hm] at g2
    exact g2
  generalize pw k - 1 - x = M at *
  clear hx hl2
  go_enter Tryd.func109, Tryd.ntmps109
  go_wp2_with fail
  refine g.mono ?_
  rintro e w1 ⟨rfl, rfl⟩
  clear g
  go_wp2_with fail
  refine (IH.out _ _ (by omega) (by omega) HB.out).mono ?_
  rintro e w2 ⟨rfl, hb2⟩
  have HB2 : Hid (Below w.heap.size w w2) := HB.out.trans (hb2.mono HB.out.size)
  clear hb2 IH
  go_wp2_with fail
  refine (GC.out _).mono ?_
  rintro e w3 ⟨rfl, rfl⟩
  go_wp2_with fail
  go_ret
  exact ⟨rfl, HB2.out⟩
set_option maxRecDepth 100000 in
set_option maxHeartbeats 1000000 in
theorem l2Value_no (j : Nat) (n x : Int) (hj : j < t.length) (hj1 : 1 ≤ j) (hl : t.length ≤ 1048576) (hk : k ≤ 64) (hx0 : 0 ≤ x) (hx : x ≤ 1) (w : World)
    (c0 : w.cell? ⟨b, off + j * 2, none⟩ = some (.int .i64 19)) (c1 : w.cell? ⟨b, off + j * 2 + 1, none⟩ = some (.int .u64 n))
    (ih : ∀ (i : Int) (w1 : World), i.toNat = j - 1 → 0 ≤ i → Below w.heap.size w w1 → Calls Tryd.prog 109 #[.int .i64 k, .slice (some ⟨b, off, none⟩) t.length cap, .int .i64 i, sv] w1 fun e w' => e = .returned (.int .u64 x) ∧ Below w1.heap.size w1 w') :
    Calls Tryd.prog 109 #[.int .i64 k, .slice (some ⟨b, off, none⟩) t.length cap, .int .i64 j, sv] w fun e w' => e = .returned (.int .u64 (1 - x)) ∧ Below w.heap.size w w' := by
  have g := l2Need_any 19 (w.alloc (.cells #[.int .i64 19, .int .u64 n] 159))
  have HB : Hid (Below w.heap.size w (w.alloc (.cells #[.int .i64 19, .int .u64 n] 159))) := (Below.refl _ _).alloc (Nat.le_refl _) _
  have IH : Hid _ := ih
  clear ih
  go_enter Tryd.func109, Tryd.ntmps109
  go_wp2_with fail
  refine g.mono ?_
  rintro e w1 ⟨rfl, rfl⟩
  clear g
  go_wp2_with fail
  refine (IH.out _ _ (by omega) (by omega) HB.out).mono ?_
  rintro e w2 ⟨rfl, hb2⟩
  have HB2 : Hid (Below w.heap.size w w2) := HB.out.trans (hb2.mono HB.out.size)
  clear hb2 IH
  go_wp2_with fail
  go_ret
  exact ⟨rfl, HB2.out⟩

theorem below_keep {w w1 w2 : World} (h : Below w.heap.size w w1) (h2 : Below w1.heap.size w1 w2) : Below w.heap.size w w2 := h.trans (h2.mono h.size)
set_option maxRecDepth 100000 in
set_option maxHeartbeats 2000000 in
theorem l2Value_two (j da : Nat) (op n x y : Int) (hj : j < t.length) (hj1 : 1 ≤ j) (hd1 : 1 ≤ da) (hdj : da ≤ j - 1) (hl : t.length ≤ 1048576) (hk1 : 1 ≤ k) (hk : k ≤ 64) (hop : (3 ≤ op ∧ op ≤ 12) ∨ (14 ≤ op ∧ op ≤ 18))
    (hx0 : 0 ≤ x) (hx : x < pw k) (hy0 : 0 ≤ y) (hy : y < pw k) (w : World)
    (c0 : w.cell? ⟨b, off + j * 2, none⟩ = some (.int .i64 op)) (c1 : w.cell? ⟨b, off + j * 2 + 1, none⟩ = some (.int .u64 n))
    (ihf : ∀ (i : Int) (w1 : World), i.toNat = j - 1 → 0 ≤ i → Below w.heap.size w w1 → Calls Tryd.prog 134 #[.slice (some ⟨b, off, none⟩) t.length cap, .int .i64 i] w1 fun e w' => e = .returned (.int .i64 da) ∧ w' = w1)
    (ihc : ∀ (i : Int) (w1 : World), i.toNat = da - 1 → 0 ≤ i → Below w.heap.size w w1 → Calls Tryd.prog 109 #[.int .i64 k, .slice (some ⟨b, off, none⟩) t.length cap, .int .i64 i, sv] w1 fun e w' => e = .returned (.int .u64 x) ∧ Below w1.heap.size w1 w')
    (ihd : ∀ (i : Int) (w1 : World), i.toNat = j - 1 → 0 ≤ i → Below w.heap.size w w1 → Calls Tryd.prog 109 #[.int .i64 k, .slice (some ⟨b, off, none⟩) t.length cap, .int .i64 i, sv] w1 fun e w' => e = .returned (.int .u64 y) ∧ Below w1.heap.size w1 w') :
    Calls Tryd.prog 109 #[.int .i64 k, .slice (some ⟨b, off, none⟩) t.length cap, .int .i64 j, sv] w fun e w' => e = .returned (.int .u64 (doOp k op x y)) ∧ Below w.heap.size w w' := by
  have g := l2Need_any op (w.alloc (.cells #[.int .i64 op, .int .u64 n] 159))
  rw [show manyOf op = 2 from by unfold manyOf; rw [if_neg (by omega), if_pos (by omega)]] at g
  have HB : Hid (Below w.heap.size w (w.alloc (.cells #[.int .i64 op, .int .u64 n] 159))) := (Below.refl _ _).alloc (Nat.le_refl _) _
  have hcell : ∀ w2, Below (w.heap.size + 1) (w.alloc (.cells #[.int .i64 op, .int .u64 n] 159)) w2 → w2.cell? ⟨w.heap.size, 0, none⟩ = some (.int .i64 op) := by
    intro w2 hb
    rw [hb.cell (p := ⟨w.heap.size, 0, none⟩) (by simp), World.cell?_alloc_new]
    rfl
  have GD : Hid (∀ w1 : World, Calls Tryd.prog 133 #[.int .i64 k, .int .i64 op, .int .u64 x, .int .u64 y] w1 fun e w' => e = .returned (.int .u64 (doOp k op x y)) ∧ (w' = w1 ∨ w' = w1.drew)) := fun w1 => l2Do_any k hk1 hk op x y hop hx0 hx hy0 hy w1
  have IF : Hid _ := ihf
  have IC : Hid _ := ihc
  have ID : Hid _ := ihd
  have HC : Hid _ := hcell
  have e2 : (op == 2) = false := beq_eq_false_iff_ne.2 (by omega)
  have e13 : (op == 13) = false := beq_eq_false_iff_ne.2 (by omega)
  have e19 : (op == 19) = false := beq_eq_false_iff_ne.2 (by omega)
  clear ihf ihc ihd hcell hop hx0 hx hy0 hy
  generalize doOp k op x y = Z at *
  generalize partOf op = q at *
  generalize ownOf op = o at *
  go_enter Tryd.func109, Tryd.ntmps109
  go_wp2_with fail
  refine g.mono ?_
  rintro e w1 ⟨rfl, rfl⟩
  clear g
  go_wp2_with fail
  go_region_with (first | (go_at_call 134; refine (IF.out _ _ (by first | omega | (rw [IntWalk.i64_in _ ⟨by omega, by omega⟩]; omega)) (by first | omega | (rw [IntWalk.i64_in _ ⟨by omega, by omega⟩]; omega)) (by first | exact HB.out | exact HB.out.drew | exact HB.out.drew.drew)).mono ?_; rintro e w2 ⟨rfl, rfl⟩) | (go_at_call 109; refine (IC.out _ _ (by first | omega | (rw [IntWalk.i64_in _ ⟨by omega, by omega⟩]; omega)) (by first | omega | (rw [IntWalk.i64_in _ ⟨by omega, by omega⟩]; omega)) (by first | exact HB.out | exact HB.out.drew | exact HB.out.drew.drew)).mono ?_; rintro e w2 ⟨rfl, hb2⟩; have R2 : Hid (Below (w.heap.size + 1) (w.alloc (.cells #[.int .i64 op, .int .u64 n] 159)) w2) := (by first | exact hb2.mono (by simp) | exact (Below.refl _ _).drew.trans (hb2.mono (by simp)) | exact (Below.refl _ _).drew.drew.trans (hb2.mono (by simp))); have HB2 : Hid (Below w.heap.size w w2) := HB.out.trans (R2.out.mono (by omega)); have cell2 := HC.out w2 R2.out; clear hb2) | (go_at_call 109; refine (ID.out _ _ (by first | omega | (rw [IntWalk.i64_in _ ⟨by omega, by omega⟩]; omega)) (by first | omega | (rw [IntWalk.i64_in _ ⟨by omega, by omega⟩]; omega)) (by first | exact HB2.out | exact HB2.out.drew)).mono ?_; rintro e w3 ⟨rfl, hb3⟩; have HB3 : Hid (Below w.heap.size w w3) := (by first | exact below_keep HB2.out hb3 | exact below_keep HB2.out.drew hb3); have R3 : Hid (Below (w.heap.size + 1) (w.alloc (.cells #[.int .i64 op, .int .u64 n] 159)) w3) := (by first | exact R2.out.trans (hb3.mono (by have := R2.out.size; simp at this; omega)) | exact R2.out.drew.trans (hb3.mono (by have := R2.out.size; simp at this; simp; omega))); have cell3 := HC.out w3 R3.out; clear hb3) | (go_at_call 133; refine (GD.out _).mono ?_; rintro e w4 ⟨rfl, hw4⟩))
  all_goals
    clear IF IC ID GD HC
    go_wp2_with fail
    go_ret
    refine ⟨rfl, ?_⟩
    have HB4 : Below w.heap.size w _ := Hid.out (p := Below w.heap.size w w3) (by assumption)
    rcases hw4 with rfl | rfl
    · exact HB4
    · exact HB4.drew
end
end Go.Proofs.YtmhpnkfibecnmaaDoor
