/-
  The drawing of choices from bytes (the model's l1Cur): what next, pick, one, among, width, long and word answer, as far as the laws need it: some number within its bounds, the cursor good still, all memory below the cursor as it was.
-/
import Derived.Test.YtjbfembblgkakaaDoorWords
import Derived.RegionTactic
import Derived.BigRegion
import Derived.OpenShut
namespace Go.Proofs.YtjbfembblgkakaaDoor
open Go Go.RowKit
open M
set_option linter.unusedVariables false

/-- the bytes that came in: none, or a slice whose cells lie below B -/
def CodeOk (B : Nat) (w : World) (sv : Value) : Prop :=
  (∃ (a : Option Addr) (cap : Nat), sv = .slice a 0 cap) ∨ ∃ cb off len cap : Nat, sv = .slice (some ⟨cb, off, none⟩) len cap ∧ cb < B ∧ len ≤ 9223372036854775807 ∧
    ∀ i : Nat, i < len → ∃ x : Int, w.cell? ⟨cb, off + i, none⟩ = some (.int .u8 x) ∧ 0 ≤ x ∧ x ≤ 255
theorem CodeOk.below {B : Nat} {w w' : World} {sv : Value} (h : CodeOk B w sv) (hb : Below B w w') : CodeOk B w' sv := by
  rcases h with h | ⟨cb, off, len, cap, h1, h2, h3, h4⟩
  · exact Or.inl h
  · refine Or.inr ⟨cb, off, len, cap, h1, h2, h3, fun i hi => ?_⟩
    obtain ⟨x, hx, hx0, hx1⟩ := h4 i hi
    exact ⟨x, by rw [hb.cell (p := ⟨cb, off + i, none⟩) h2]; exact hx, hx0, hx1⟩
/-- of all that lay there nothing but block b has turned -/
structure Only (b : Nat) (w w' : World) : Prop where
  os : w'.os = w.os
  tape : w'.tape = w.tape
  output : w'.output = w.output
  size : w.heap.size ≤ w'.heap.size
  block : ∀ k, k ≠ b → k < w.heap.size → w'.heap[k]? = w.heap[k]?
theorem Only.refl (b : Nat) (w : World) : Only b w w := ⟨rfl, rfl, rfl, Nat.le_refl _, fun _ _ _ => rfl⟩
theorem Only.trans {b : Nat} {u v w : World} (h : Only b u v) (k : Only b v w) : Only b u w :=
  ⟨k.os.trans h.os, k.tape.trans h.tape, k.output.trans h.output, Nat.le_trans h.size k.size, fun i hi hs => (k.block i hi (Nat.lt_of_lt_of_le hs h.size)).trans (h.block i hi hs)⟩
theorem Only.drew {b : Nat} {u w : World} (h : Only b u w) : Only b u w.drew := ⟨h.os, h.tape, h.output, h.size, h.block⟩
theorem Only.alloc {b : Nat} {u w : World} (h : Only b u w) (o : Obj) : Only b u (w.alloc o) :=
  h.trans ⟨rfl, rfl, rfl, by simp, fun k _ hk => Below.heap_alloc _ _ _ hk⟩
theorem Only.setCell {b : Nat} {u w : World} (h : Only b u w) (o : Nat) (v : Value) : Only b u (w.setCell ⟨b, o, none⟩ v) :=
  h.trans ⟨rfl, rfl, rfl, by simp [World.setCell], fun k hk _ => Below.heap_setCell _ _ _ _ hk⟩
theorem Only.below {B b : Nat} {w w' : World} (h : Only b w w') (hB : B ≤ b) (hs : B ≤ w.heap.size) : Below B w w' :=
  ⟨h.os, h.tape, h.output, h.size, fun k hk => h.block k (by omega) (by omega)⟩
theorem Only.cell {b : Nat} {w w' : World} (h : Only b w w') {p : Addr} (hp : p.block ≠ b) (hs : p.block < w.heap.size) : w'.cell? p = w.cell? p := World.cell?_of_block (w := w) (h.block p.block hp hs)
/-- the cursor at block b: at most m bytes have been asked for -/
structure Cur (B b m : Nat) (sv : Value) (w : World) : Prop where
  own : B ≤ b
  lies : b < w.heap.size
  code : w.cell? ⟨b, 0, none⟩ = some sv
  ok : CodeOk B w sv
  place : ∃ j : Nat, w.cell? ⟨b, 1, none⟩ = some (.int .i64 j) ∧ j ≤ m
  seed : ∃ s : Int, w.cell? ⟨b, 2, none⟩ = some (.int .u64 s) ∧ 0 ≤ s ∧ s ≤ 18446744073709551615
  free1 : w.frozen? ⟨b, 1, none⟩ = false
  free2 : w.frozen? ⟨b, 2, none⟩ = false
theorem Cur.more {B b m m' : Nat} {sv : Value} {w : World} (h : Cur B b m sv w) (hm : m ≤ m') : Cur B b m' sv w :=
  ⟨h.own, h.lies, h.code, h.ok, by obtain ⟨j, h1, h2⟩ := h.place; exact ⟨j, h1, by omega⟩, h.seed, h.free1, h.free2⟩
/-- a world that is as it was up to the cursor's block -/
theorem Cur.below {B b m : Nat} {sv : Value} {w w' : World} (h : Cur B b m sv w) (hb : Below (b + 1) w w') : Cur B b m sv w' := by
  have c := fun o => hb.cell (p := ⟨b, o, none⟩) (show b < b + 1 by omega)
  have f := fun o => hb.frozen (p := ⟨b, o, none⟩) (show b < b + 1 by omega)
  have hB := h.own
  exact ⟨h.own, Nat.lt_of_lt_of_le h.lies hb.size, by rw [c]; exact h.code, h.ok.below (hb.mono (by omega)), by rw [c]; exact h.place, by rw [c]; exact h.seed, by rw [f]; exact h.free1, by rw [f]; exact h.free2⟩
theorem Cur.drew {B b m : Nat} {sv : Value} {w : World} (h : Cur B b m sv w) : Cur B b m sv w.drew := h.below (Below.refl _ _).drew
theorem cell_spot {w : World} {b o o' : Nat} {v : Value} (h : o ≠ o') : (w.setCell ⟨b, o, none⟩ v).cell? ⟨b, o', none⟩ = w.cell? ⟨b, o', none⟩ := by
  apply World.cell?_setCell_other
  intro e
  exact h (congrArg Addr.off e)
/-- behind the two stores of a step -/
theorem Cur.stored {B b m : Nat} {sv : Value} {w : World} (h : Cur B b m sv w) (j : Nat) (hj : j ≤ m + 1) (s : Int) :
    Cur B b (m + 1) sv ((w.setCell ⟨b, 1, none⟩ (.int .i64 j)).setCell ⟨b, 2, none⟩ (.int .u64 (IntKind.u64.wrap s))) ∧
    Only b w ((w.setCell ⟨b, 1, none⟩ (.int .i64 j)).setCell ⟨b, 2, none⟩ (.int .u64 (IntKind.u64.wrap s))) := by
  have hb : Below B w ((w.setCell ⟨b, 1, none⟩ (.int .i64 j)).setCell ⟨b, 2, none⟩ (.int .u64 (IntKind.u64.wrap s))) :=
    ((Below.refl _ _).setCell h.own _).setCell h.own _
  obtain ⟨j0, hj0, _⟩ := h.place
  obtain ⟨s0, hs0, _, _⟩ := h.seed
  have c1 : (w.setCell ⟨b, 1, none⟩ (.int .i64 j)).cell? ⟨b, 1, none⟩ = some (.int .i64 j) := World.cell?_setCell_same w _ _ hj0
  have c2 : (w.setCell ⟨b, 1, none⟩ (.int .i64 j)).cell? ⟨b, 2, none⟩ = some (.int .u64 s0) := by
    rw [cell_spot (by decide)]; exact hs0
  refine ⟨⟨h.own, Nat.lt_of_lt_of_le h.lies hb.size, ?_, h.ok.below hb, ⟨j, ?_, hj⟩, ⟨IntKind.u64.wrap s, World.cell?_setCell_same _ _ _ c2, wrap_lo s, wrap_hi s⟩, ?_, ?_⟩, ((Only.refl _ _).setCell _ _).setCell _ _⟩
  · rw [cell_spot (by decide), cell_spot (by decide)]; exact h.code
  · rw [cell_spot (by decide)]; exact c1
  · rw [World.frozen?_setCell, World.frozen?_setCell]; exact h.free1
  · rw [World.frozen?_setCell, World.frozen?_setCell]; exact h.free2
theorem low8 (y : Int) (h0 : 0 ≤ y) (h1 : y ≤ 18446744073709551615) : 0 ≤ bits .and .u64 y 255 ∧ bits .and .u64 y 255 ≤ 255 := by
  have h := and_mask 8 (by omega) y h0 h1
  have h2 := cut_lo 8 y
  have h3 := cut_hi 8 y
  rw [show pw 8 = 256 from rfl] at h h3
  rw [show (256 - 1 : Int) = 255 from rfl] at h
  omega

set_option maxHeartbeats 400000 in
theorem next_in (b cb off len cap j : Nat) (x sd : Int) (w : World) (h0 : w.cell? ⟨b, 0, none⟩ = some (.slice (some ⟨cb, off, none⟩) len cap)) (h1 : w.cell? ⟨b, 1, none⟩ = some (.int .i64 j)) (h2 : w.cell? ⟨b, 2, none⟩ = some (.int .u64 sd))
    (f1 : w.frozen? ⟨b, 1, none⟩ = false) (f2 : w.frozen? ⟨b, 2, none⟩ = false) (hlen : len ≤ 9223372036854775807) (hx0 : 0 ≤ x) (hx1 : x ≤ 255) (hs0 : 0 ≤ sd) (hs1 : sd ≤ 18446744073709551615)
    (hj : j < len) (hc : w.cell? ⟨cb, off + j, none⟩ = some (.int .u8 x)) :
    Calls Tryd.prog 153 #[.pointer (some ⟨b, 0, none⟩)] w fun e w' => e = .returned (.int .i64 x) ∧ ∃ s : Int, w' = ((w.setCell ⟨b, 1, none⟩ (.int .i64 ((j + 1 : Nat) : Int))).setCell ⟨b, 2, none⟩ (.int .u64 (IntKind.u64.wrap s))).drew.drew.drew := by
  go_enter Tryd.func153, Tryd.ntmps153
  go_wp2
  go_region
  all_goals go_wp2
  all_goals go_region
  all_goals go_wp2
  all_goals go_region
  all_goals go_wp2
  all_goals go_ret
  all_goals exact ⟨rfl, _, rfl⟩


theorem wrap64_small (x : Int) (h0 : 0 ≤ x) (h1 : x ≤ 255) : 0 ≤ wrap64 x ∧ wrap64 x ≤ 255 := by
  rw [IntWalk.wrap64_in x ⟨by omega, by omega⟩]
  exact ⟨h0, h1⟩
theorem drawn8_bd (s : Int) : 0 ≤ wrap64 (bits .and .u64 (IntKind.u64.wrap s / 1099511627776) 255) ∧ wrap64 (bits .and .u64 (IntKind.u64.wrap s / 1099511627776) 255) ≤ 255 := by
  have h0 := wrap_lo s
  have h1 := wrap_hi s
  have h := low8 (IntKind.u64.wrap s / 1099511627776) (by omega) (by omega)
  exact wrap64_small _ h.1 h.2
set_option maxHeartbeats 400000 in
theorem next_nil (b j : Nat) (a : Option Addr) (cap : Nat) (sd : Int) (w : World) (h0 : w.cell? ⟨b, 0, none⟩ = some (.slice a 0 cap)) (h1 : w.cell? ⟨b, 1, none⟩ = some (.int .i64 j)) (h2 : w.cell? ⟨b, 2, none⟩ = some (.int .u64 sd))
    (f1 : w.frozen? ⟨b, 1, none⟩ = false) (f2 : w.frozen? ⟨b, 2, none⟩ = false) (hj : j ≤ 4611686018427387904) :
    Calls Tryd.prog 153 #[.pointer (some ⟨b, 0, none⟩)] w fun e w' => ∃ x : Int, (0 ≤ x ∧ x ≤ 255) ∧ e = .returned (.int .i64 x) ∧ ∃ s : Int, w' = ((w.setCell ⟨b, 1, none⟩ (.int .i64 ((j + 1 : Nat) : Int))).setCell ⟨b, 2, none⟩ (.int .u64 (IntKind.u64.wrap s))).drew.drew := by
  go_enter Tryd.func153, Tryd.ntmps153
  go_wp2
  go_region
  all_goals go_wp2
  all_goals go_region
  all_goals go_wp2
  all_goals go_ret
  all_goals exact ⟨_, drawn8_bd _, rfl, _, rfl⟩
set_option maxHeartbeats 400000 in
theorem next_out (b cb off len cap j : Nat) (sd : Int) (w : World) (h0 : w.cell? ⟨b, 0, none⟩ = some (.slice (some ⟨cb, off, none⟩) len cap)) (h1 : w.cell? ⟨b, 1, none⟩ = some (.int .i64 j)) (h2 : w.cell? ⟨b, 2, none⟩ = some (.int .u64 sd))
    (f1 : w.frozen? ⟨b, 1, none⟩ = false) (f2 : w.frozen? ⟨b, 2, none⟩ = false) (hlen : len ≤ 9223372036854775807) (hj : j ≤ 4611686018427387904) (hjl : len ≤ j) :
    Calls Tryd.prog 153 #[.pointer (some ⟨b, 0, none⟩)] w fun e w' => ∃ x : Int, (0 ≤ x ∧ x ≤ 255) ∧ e = .returned (.int .i64 x) ∧ ∃ s : Int, w' = ((w.setCell ⟨b, 1, none⟩ (.int .i64 ((j + 1 : Nat) : Int))).setCell ⟨b, 2, none⟩ (.int .u64 (IntKind.u64.wrap s))).drew.drew := by
  go_enter Tryd.func153, Tryd.ntmps153
  go_wp2
  go_region
  all_goals go_wp2
  all_goals go_region
  all_goals go_wp2
  all_goals go_ret
  all_goals exact ⟨_, drawn8_bd _, rfl, _, rfl⟩
theorem next_any (B b m : Nat) (sv : Value) (w : World) (h : Cur B b m sv w) (hm : m ≤ 4611686018427387904) :
    Calls Tryd.prog 153 #[.pointer (some ⟨b, 0, none⟩)] w fun e w' => ∃ x : Int, (0 ≤ x ∧ x ≤ 255) ∧ e = .returned (.int .i64 x) ∧ Only b w w' ∧ Cur B b (m + 1) sv w' := by
  obtain ⟨j, h1, hj⟩ := h.place
  obtain ⟨sd, h2, hs0, hs1⟩ := h.seed
  have h0 := h.code
  rcases h.ok with ⟨a, cap, hn⟩ | ⟨cb, off, len, cap, hn, hcb, hlen, hcells⟩
  · rw [hn] at h0
    refine (next_nil b j a cap sd w h0 h1 h2 h.free1 h.free2 (by omega)).mono ?_
    rintro e w' ⟨x, hx, he, s, rfl⟩
    have q := h.stored (j + 1) (by omega) s
    exact ⟨x, hx, he, q.2.drew.drew, q.1.drew.drew⟩
  · rw [hn] at h0
    by_cases hlt : j < len
    · obtain ⟨x, hc, hx0, hx1⟩ := hcells j hlt
      refine (next_in b cb off len cap j x sd w h0 h1 h2 h.free1 h.free2 hlen hx0 hx1 hs0 hs1 hlt hc).mono ?_
      rintro e w' ⟨he, s, rfl⟩
      have q := h.stored (j + 1) (by omega) s
      exact ⟨x, ⟨hx0, hx1⟩, he, q.2.drew.drew.drew, q.1.drew.drew.drew⟩
    · refine (next_out b cb off len cap j sd w h0 h1 h2 h.free1 h.free2 hlen (by omega) (by omega)).mono ?_
      rintro e w' ⟨x, hx, he, s, rfl⟩
      have q := h.stored (j + 1) (by omega) s
      exact ⟨x, hx, he, q.2.drew.drew, q.1.drew.drew⟩

theorem mod_bd (x n : Int) (h0 : 0 ≤ x) (hn : 1 ≤ n) : 0 ≤ x % n ∧ x % n < n := ⟨Int.emod_nonneg _ (by omega), Int.emod_lt_of_pos _ (by omega)⟩
set_option maxHeartbeats 400000 in
theorem pick_any (B b m : Nat) (sv : Value) (n : Int) (hn : 1 ≤ n) (hn1 : n ≤ 4611686018427387904) (w : World) (h : Cur B b m sv w) (hm : m ≤ 4611686018427387900) :
    Calls Tryd.prog 94 #[.pointer (some ⟨b, 0, none⟩), .int .i64 n] w fun e w' => ∃ x : Int, (0 ≤ x ∧ x < n) ∧ e = .returned (.int .i64 x) ∧ Only b w w' ∧ Cur B b (m + 2) sv w' := by
  by_cases h1 : n ≤ 1
  · go_enter Tryd.func94, Tryd.ntmps94
    go_wp2_with fail
    go_ret
    exact ⟨0, ⟨by omega, by omega⟩, rfl, Only.refl _ _, h.more (by omega)⟩
  · have g1 := next_any B b m sv w h (by omega)
    by_cases h2 : n ≤ 200
    · go_enter Tryd.func94, Tryd.ntmps94
      go_wp2_with fail
      refine g1.mono ?_
      rintro e w1 ⟨x, ⟨hx0, hx1⟩, rfl, ho1, hc1⟩
      clear g1
      go_wp2_with fail
      go_ret
      exact ⟨_, mod_bd x n hx0 hn, rfl, ho1, hc1.more (by omega)⟩
    · go_enter Tryd.func94, Tryd.ntmps94
      go_wp2_with fail
      refine g1.mono ?_
      rintro e w1 ⟨x, ⟨hx0, hx1⟩, rfl, ho1, hc1⟩
      clear g1
      have g2 := next_any B b (m + 1) sv w1 hc1 (by omega)
      go_wp2_with fail
      refine g2.mono ?_
      rintro e w2 ⟨y, ⟨hy0, hy1⟩, rfl, ho2, hc2⟩
      clear g2
      go_wp2_with fail
      go_ret
      exact ⟨_, mod_bd (x * 256 + y) n (by omega) hn, rfl, ho1.trans ho2, hc2.more (by omega)⟩
theorem one_any (B b m : Nat) (sv : Value) (n : Int) (hn : 1 ≤ n) (hn1 : n ≤ 4611686018427387904) (w : World) (h : Cur B b m sv w) (hm : m ≤ 4611686018427387900) :
    Calls Tryd.prog 95 #[.pointer (some ⟨b, 0, none⟩), .int .i64 n] w fun e w' => ∃ x : Bool, e = .returned (.bool x) ∧ Only b w w' ∧ Cur B b (m + 2) sv w' := by
  have g1 := pick_any B b m sv n hn hn1 w h hm
  go_enter Tryd.func95, Tryd.ntmps95
  go_wp2_with fail
  refine g1.mono ?_
  rintro e w1 ⟨x, ⟨hx0, hx1⟩, rfl, ho1, hc1⟩
  go_wp2_with fail
  go_ret
  exact ⟨_, rfl, ho1, hc1⟩
set_option maxHeartbeats 400000 in
theorem among_any (B b m : Nat) (sv : Value) (lb len cap : Nat) (lo hi : Int) (hlen : 1 ≤ len) (hlen1 : len ≤ 1000000) (w : World) (h : Cur B b m sv w) (hm : m ≤ 4611686018427387900) (hb : lb ≠ b) (hl : lb < w.heap.size)
    (hc : ∀ i : Nat, i < len → ∃ x : Int, w.cell? ⟨lb, i, none⟩ = some (.int .i64 x) ∧ lo ≤ x ∧ x ≤ hi) :
    Calls Tryd.prog 132 #[.pointer (some ⟨b, 0, none⟩), .slice (some ⟨lb, 0, none⟩) len cap] w fun e w' => ∃ x : Int, (lo ≤ x ∧ x ≤ hi) ∧ e = .returned (.int .i64 x) ∧ Only b w w' ∧ Cur B b (m + 2) sv w' := by
  have g1 := pick_any B b m sv len (by omega) (by omega) w h hm
  go_enter Tryd.func132, Tryd.ntmps132
  go_wp2_with fail
  refine g1.mono ?_
  rintro e w1 ⟨x, ⟨hx0, hx1⟩, rfl, ho1, hc1⟩
  clear g1
  obtain ⟨i, rfl⟩ := Int.eq_ofNat_of_zero_le hx0
  obtain ⟨y, hy, hy0, hy1⟩ := hc i (by omega)
  have hy' : w1.cell? ⟨lb, i, none⟩ = some (.int .i64 y) := by rw [ho1.cell (p := ⟨lb, i, none⟩) hb hl]; exact hy
  clear hc hy
  go_wp2_with fail
  go_ret
  exact ⟨_, ⟨hy0, hy1⟩, rfl, ho1, hc1⟩

def widths : Array Value := #[.int .i64 1, .int .i64 2, .int .i64 3, .int .i64 4, .int .i64 8, .int .i64 16, .int .i64 32, .int .i64 63, .int .i64 64, .int .i64 0, .int .i64 65]
theorem widths_at (i : Nat) (h : i < 11) : ∃ x : Int, widths[i]? = some (.int .i64 x) ∧ 0 ≤ x ∧ x ≤ 65 := by
  match i, h with
  | 0, _ => exact ⟨1, rfl, by omega, by omega⟩
  | 1, _ => exact ⟨2, rfl, by omega, by omega⟩
  | 2, _ => exact ⟨3, rfl, by omega, by omega⟩
  | 3, _ => exact ⟨4, rfl, by omega, by omega⟩
  | 4, _ => exact ⟨8, rfl, by omega, by omega⟩
  | 5, _ => exact ⟨16, rfl, by omega, by omega⟩
  | 6, _ => exact ⟨32, rfl, by omega, by omega⟩
  | 7, _ => exact ⟨63, rfl, by omega, by omega⟩
  | 8, _ => exact ⟨64, rfl, by omega, by omega⟩
  | 9, _ => exact ⟨0, rfl, by omega, by omega⟩
  | 10, _ => exact ⟨65, rfl, by omega, by omega⟩
theorem Cur.alloc {B b m : Nat} {sv : Value} {w : World} (h : Cur B b m sv w) (o : Obj) : Cur B b m sv (w.alloc o) :=
  h.below ((Below.refl _ _).alloc h.lies o)
theorem or_bd (x y : Int) : 0 ≤ bits .or .u64 x y ∧ bits .or .u64 x y ≤ 18446744073709551615 := ⟨bits_lo_u64 _ _ _, bits_hi_u64 _ _ _⟩
set_option maxHeartbeats 400000 in
theorem long_any (B b m : Nat) (sv : Value) (w : World) (h : Cur B b m sv w) (hm : m ≤ 4611686018427387800) :
    Calls Tryd.prog 164 #[.pointer (some ⟨b, 0, none⟩)] w fun e w' => ∃ x : Int, (0 ≤ x ∧ x ≤ 18446744073709551615) ∧ e = .returned (.int .u64 x) ∧ Only b w w' ∧ Cur B b (m + 8) sv w' := by
  go_enter Tryd.func164, Tryd.ntmps164
  go_wp2_with fail
  go_loopw [3, 4] (fun n i wr => ∃ (k : Nat) (x : Int), k ≤ 8 ∧ i = .int .i64 k ∧ n = .int .u64 x ∧ (0 ≤ x ∧ x ≤ 18446744073709551615) ∧ Only b w wr ∧ Cur B b (m + k) sv wr) (fun _ i _ => 8 - (intOf i).toNat)
  case atStart => exact ⟨0, 0, by omega, rfl, rfl, by omega, Only.refl _ _, h⟩
  case round =>
    obtain ⟨k, x, hk, rfl, rfl, hx, ho, hc⟩ := hrel
    by_cases hlt : k < 8
    · have g := next_any B b (m + k) sv _ hc (by omega)
      go_wp2_with fail
      refine g.mono ?_
      rintro e w1 ⟨y, ⟨hy0, hy1⟩, rfl, ho1, hc1⟩
      clear g
      have ho2 := ho.trans ho1
      clear hc ho ho1
      go_wp2_with fail
      go_roundw
      case rel => exact ⟨k + 1, _, by omega, by go_num, rfl, or_bd _ _, ho2, hc1⟩
      case measure => simp [intOf]; omega
    · go_wp2_with fail
      go_ret
      have e8 : k = 8 := by omega
      subst e8
      exact ⟨x, hx, rfl, ho, hc⟩

theorem cut_bd (k : Nat) (a : Int) (h0 : 0 ≤ a) (h1 : a ≤ 18446744073709551615) : 0 ≤ cut k a ∧ cut k a ≤ 18446744073709551615 := by
  refine ⟨cut_lo k a, ?_⟩
  by_cases h : k ≤ 64
  · exact cut_le k a h
  · have h2 := pw_mono 64 k (by omega)
    rw [pw_64] at h2
    rw [cut_id k a h0 (by omega)]
    exact h1
set_option maxHeartbeats 1000000 in
theorem word_any (B b m : Nat) (sv : Value) (k : Nat) (hk : k ≤ 65) (w : World) (h : Cur B b m sv w) (hm : m ≤ 4611686018427387700) :
    Calls Tryd.prog 135 #[.pointer (some ⟨b, 0, none⟩), .int .i64 k] w fun e w' => ∃ x : Int, (0 ≤ x ∧ x ≤ 18446744073709551615) ∧ e = .returned (.int .u64 x) ∧ Only b w w' ∧ Cur B b (m + 14) sv w' := by
  have g1 := pick_any B b m sv 5 (by omega) (by omega) w h (by omega)
  clear h
  go_enter Tryd.func135, Tryd.ntmps135
  go_wp2_with fail
  refine g1.mono ?_
  rintro e w1 ⟨p, ⟨hp0, hp1⟩, rfl, ho1, hc1⟩
  clear g1
  have g2 := pick_any B b _ sv 5 (by omega) (by omega) w1 hc1 (by omega)
  go_wp2_with fail
  refine g2.mono ?_
  rintro e w2 ⟨q, ⟨hq0, hq1⟩, rfl, ho2, hc2⟩
  clear g2 hc1
  have ho12 := ho1.trans ho2
  clear ho1 ho2
  by_cases q0 : q = 0
  · subst q0
    have g3 := long_any B b _ sv w2 hc2 (by omega)
    go_wp2_with fail
    refine g3.mono ?_
    rintro e w3 ⟨x, ⟨hx0, hx1⟩, rfl, ho', hc3⟩
    clear g3 hc2
    have ho3 := ho12.trans ho'
    clear ho12 ho'
    have g4 := one_any B b _ sv 30 (by omega) (by omega) _ hc3 (by omega)
    go_wp2_with fail
    refine g4.mono ?_
    rintro e w4 ⟨t, rfl, ho4, hc4⟩
    clear g4
    have ho := ho3.trans ho4
    clear ho3 ho4 hc3
    cases t
    · have g5 := l1Cut_any k (by omega) (x) hx0 hx1 w4
      go_wp2_with fail
      refine g5.mono ?_
      rintro e w5 ⟨rfl, rfl⟩
      go_wp2_with fail
      go_ret
      exact ⟨_, cut_bd k _ hx0 hx1, rfl, ho, hc4.more (by omega)⟩
    · go_wp2_with fail
      go_ret
      exact ⟨_, ⟨hx0, hx1⟩, rfl, ho, hc4.more (by omega)⟩
  · by_cases q1 : q = 1
    · subst q1
      have g3 := pick_any B b _ sv 3 (by omega) (by omega) w2 hc2 (by omega)
      go_wp2_with fail
      refine g3.mono ?_
      rintro e w3 ⟨x, ⟨hx0, hx1⟩, rfl, ho', hc3⟩
      clear g3 hc2
      have ho3 := ho12.trans ho'
      clear ho12 ho'
      have g4 := one_any B b _ sv 30 (by omega) (by omega) _ hc3 (by omega)
      go_wp2_with fail
      refine g4.mono ?_
      rintro e w4 ⟨t, rfl, ho4, hc4⟩
      clear g4
      have ho := ho3.trans ho4
      clear ho3 ho4 hc3
      cases t
      · have g5 := l1Cut_any k (by omega) (18446744073709551615 - x) (by omega) (by omega) w4
        go_wp2_with fail
        refine g5.mono ?_
        rintro e w5 ⟨rfl, rfl⟩
        go_wp2_with fail
        go_ret
        exact ⟨_, cut_bd k _ (by omega) (by omega), rfl, ho, hc4.more (by omega)⟩
      · go_wp2_with fail
        go_ret
        exact ⟨_, ⟨(by omega), (by omega)⟩, rfl, ho, hc4.more (by omega)⟩
    · by_cases q2 : q = 2
      · subst q2
        have g3 := pick_any B b _ sv 64 (by omega) (by omega) w2 hc2 (by omega)
        go_wp2_with fail
        refine g3.mono ?_
        rintro e w3 ⟨x, ⟨hx0, hx1⟩, rfl, ho', hc3⟩
        clear g3 hc2
        have ho3 := ho12.trans ho'
        clear ho12 ho'
        obtain ⟨j, rfl⟩ := Int.eq_ofNat_of_zero_le hx0
        have g4 := one_any B b _ sv 30 (by omega) (by omega) _ hc3 (by omega)
        go_wp2_with fail
        refine g4.mono ?_
        rintro e w4 ⟨t, rfl, ho4, hc4⟩
        clear g4
        have ho := ho3.trans ho4
        clear ho3 ho4 hc3
        cases t
        · have g5 := l1Cut_any k (by omega) (IntKind.u64.wrap (2 ^ j)) (wrap_lo _) (wrap_hi _) w4
          go_wp2_with fail
          refine g5.mono ?_
          rintro e w5 ⟨rfl, rfl⟩
          go_wp2_with fail
          go_ret
          exact ⟨_, cut_bd k _ (wrap_lo _) (wrap_hi _), rfl, ho, hc4.more (by omega)⟩
        · go_wp2_with fail
          go_ret
          exact ⟨_, ⟨(wrap_lo _), (wrap_hi _)⟩, rfl, ho, hc4.more (by omega)⟩
      · have q3 : 3 ≤ q := by omega
        clear q0 q1 q2
        have ho3 := ho12
        have hc3 := hc2
        clear ho12 hc2
        have g4 := one_any B b _ sv 30 (by omega) (by omega) _ hc3 (by omega)
        go_wp2_with fail
        refine g4.mono ?_
        rintro e w4 ⟨t, rfl, ho4, hc4⟩
        clear g4
        have ho := ho3.trans ho4
        clear ho3 ho4 hc3
        cases t
        · have g5 := l1Cut_any k (by omega) (p) (by omega) (by omega) w4
          go_wp2_with fail
          refine g5.mono ?_
          rintro e w5 ⟨rfl, rfl⟩
          go_wp2_with fail
          go_ret
          exact ⟨_, cut_bd k _ (by omega) (by omega), rfl, ho, hc4.more (by omega)⟩
        · go_wp2_with fail
          go_ret
          exact ⟨_, ⟨(by omega), (by omega)⟩, rfl, ho, hc4.more (by omega)⟩
end Go.Proofs.YtjbfembblgkakaaDoor
