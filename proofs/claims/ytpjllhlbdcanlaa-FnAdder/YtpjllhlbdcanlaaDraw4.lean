/-
  Draws of chapter 4: a number among none, wires, bools.
-/
import Derived.Test.YtpjllhlbdcanlaaDraw2
import Derived.Test.YtpjllhlbdcanlaaGrown
import Derived.Handy
namespace Go.Proofs.Ytpjllhlbdcanlaa
open Go Go.RowKit
open M
set_option linter.unusedVariables false
set_option linter.unusedSimpArgs false

theorem pick_low (b : Nat) (n : Int) (hn : n ≤ 1) (w : World) :
    Calls Try.prog 89 #[.pointer (some ⟨b, 0, none⟩), .int .i64 n] w fun e w' => e = .returned (.int .i64 0) ∧ w' = w := by
  go_enter Try.func89, Try.ntmps89
  go_wp2_with fail
  go_ret
  exact ⟨rfl, rfl⟩
/-- a number from nought on, below n or nought -/
theorem pick_all (B b m : Nat) (sv : Value) (n : Int) (hn1 : n ≤ 4611686018427387904) (w : World) (h : Cur B b m sv w) (hm : m ≤ 4611686018427387900) :
    Calls Try.prog 89 #[.pointer (some ⟨b, 0, none⟩), .int .i64 n] w fun e w' => ∃ x : Int, (0 ≤ x ∧ (x < n ∨ x = 0)) ∧ e = .returned (.int .i64 x) ∧ Only b w w' ∧ Cur B b (m + 2) sv w' := by
  by_cases hn : 1 ≤ n
  · refine (pick_any B b m sv n hn hn1 w h hm).mono ?_
    rintro e w' ⟨x, ⟨h0, h1⟩, he, ho, hc⟩
    exact ⟨x, ⟨h0, Or.inl h1⟩, he, ho, hc⟩
  · refine (pick_low b n (by omega) w).mono ?_
    rintro e w' ⟨he, rfl⟩
    exact ⟨0, ⟨by omega, Or.inr rfl⟩, he, Only.refl _ _, h.more (by omega)⟩
theorem Only.keeps {b : Nat} {w w' : World} (h : Only b w w') {B n : Nat} {e : TypeId} {s : Nat} {v : Value} {xs : List Value} (ho : w.ownsRow B e s v n xs) (hb : b < B) : w'.ownsRow B e s v n xs :=
  own_keep ho (fun g hg => h.block g (by have := (own_block ho hg).1; omega) (own_block ho hg).2)
theorem Only.box {b c : Nat} {w w' : World} (h : Only b w w') {e : TypeId} {x y z : Value} (hx : Box3 w c e x y z) (hb : c ≠ b) : Box3 w' c e x y z := ⟨by rw [h.block c hb hx.lt]; exact hx.heap⟩
theorem Only.grown {b : Nat} {u w w' : World} {row : Option Nat} (h : Only b u w) (g : w.grownBy w' row) (hr : ∀ k, row = some k → u.heap.size ≤ k) : Only b u w' :=
  ⟨g.os.trans h.os, g.tape.trans h.tape, g.output.trans h.output, Nat.le_trans h.size g.size, fun i hi hs => (g.block i (Nat.lt_of_lt_of_le hs h.size) (fun e => by have := hr i e.symm; omega)).trans (h.block i hi hs)⟩
theorem Only.step {b : Nat} {u w w' : World} (h : Only b u w) (k : Below w.heap.size w w') : Only b u w' := h.trans ⟨k.os, k.tape, k.output, k.size, fun i _ hs => k.block i hs⟩
theorem Cur.grown {B b m : Nat} {sv : Value} {w w' : World} {row : Option Nat} (h : Cur B b m sv w) (g : w.grownBy w' row) (hr : ∀ k, row = some k → b < k) : Cur B b m sv w' :=
  h.below ((Below.refl _ _).grown g h.lies (fun k hk => hr k hk))
set_option maxRecDepth 100000 in
set_option maxHeartbeats 2000000 in
theorem wires_any (B b m : Nat) (sv : Value) (n : Int) (hn1 : n ≤ 1000) (many : Nat) (hmany : many ≤ 1000) (w : World) (h : Cur B b m sv w) (hm : m ≤ 4611686018427380000) :
    Calls Try.prog 92 #[.pointer (some ⟨b, 0, none⟩), .int .i64 n, .int .i64 many] w fun e w' => ∃ r t, e = .returned r ∧ t.length = many ∧ (∀ x ∈ t, 0 ≤ x ∧ x ≤ 1000) ∧ w'.ownsRow w.heap.size 3 1 r t.length (cellsI t) ∧ Only b w w' ∧ Cur B b (m + 2 * many) sv w' := by
  obtain ⟨i0, hif, hz0, hz1, hz2⟩ := info_parts infoInt
  have hlies := h.lies
  have HC0 : Hid _ := h
  clear h
  go_enter Try.func92, Try.ntmps92
  go_wp2_with fail
  go_loopw [2, 7] (fun vm vl wr => ∃ (j : Nat) (t : List Int), j ≤ many ∧ vm = .int .i64 ((many : Int) - j) ∧ t.length = j ∧ Hid (∀ x ∈ t, 0 ≤ x ∧ x ≤ 1000) ∧ Hid (wr.ownsRow w.heap.size 3 1 vl t.length (cellsI t)) ∧ Hid (Only b w wr) ∧ Hid (Cur B b (m + 2 * j) sv wr)) (fun vm _ _ => (intOf vm).toNat)
  case atStart => exact ⟨0, [], by omega, by simp, rfl, (fun x hx => by cases hx), World.ownsRow_nil _ _ _ _, Only.refl _ _, HC0⟩
  case round =>
    clear HC0
    obtain ⟨j, t, hj, rfl, htl, HT, HO, HN, HC⟩ := hrel
    by_cases hlt : j < many
    · have g1 := pick_all B b (m + 2 * j) sv n (by omega) wr HC.out (by omega)
      have hpos : (0 : Int) < (many : Int) - j := by omega
      obtain ⟨va, vc, hv⟩ := own_shape HO.out
      subst hv
      rw [htl] at HO
      rw [htl]
      go_wp2_with fail
      refine g1.mono ?_
      rintro e w1 ⟨x, ⟨hx0, hx1⟩, rfl, ho1, hc1⟩
      have own1 := ho1.keeps HO.out hlies
      have own6 := own1.alloc (.cells #[.int .i64 x] 3)
      have hon : Only b w (w1.alloc (.cells #[.int .i64 x] 3)) := (HN.out.trans ho1).alloc _
      have hcu : Cur B b (m + 2 * j + 2) sv (w1.alloc (.cells #[.int .i64 x] 3)) := hc1.alloc _
      have hs6 : w.heap.size ≤ (w1.alloc (.cells #[.int .i64 x] 3)).heap.size := hon.size
      have HT2 : Hid (∀ y ∈ t ++ [x], 0 ≤ y ∧ y ≤ 1000) := by
        intro y hy
        simp only [List.mem_append, List.mem_singleton] at hy
        rcases hy with hy | rfl
        · exact HT.out y hy
        · omega
      clear g1 HO HC HN ho1 hc1 own1
      go_wp2_with (at_builtin; refine wpList_append_own _ rfl _ _ 25 rfl w.heap.size 3 i0 (.int .i64 0) 1 8 Try.underlying25 hif hz0 hz1 hz2 rfl (by decide) _ _ _ rfl own6 ⟨w1.heap.size, 0, none⟩ 1 1 [.int .i64 x] rfl rfl (oneI_cells w1 x) (ints_one [x]) (by unfold maxLen; omega) (by omega) hs6 ?_)
      intro v7 w7 own7 grow7 _
      have HO7 : Hid (w7.ownsRow w.heap.size 3 1 v7 (t ++ [x]).length (cellsI (t ++ [x]))) := by
        show w7.ownsRow w.heap.size 3 1 v7 (t ++ [x]).length (cellsI (t ++ [x]))
        unfold cellsI
        rw [List.length_append, List.map_append, htl]
        exact own7
      have HN7 : Hid (Only b w w7) := hon.grown grow7 (fun k hk => (own_block own6 hk).1)
      have HC7 : Hid (Cur B b (m + 2 * (j + 1)) sv w7) := (hcu.grown grow7 (fun k hk => by have := (own_block own6 hk).1; omega)).more (by omega)
      have htl2 : (t ++ [x]).length = j + 1 := by rw [List.length_append, htl]; rfl
      clear own6 own7 grow7 hon hcu HT
      go_wp2_with fail
      go_roundw
      case rel => exact ⟨j + 1, t ++ [x], by omega, by go_num, htl2, HT2, HO7, HN7, HC7⟩
      case measure => simp [intOf]; omega
    · obtain rfl : j = many := by omega
      have hz : ((j : Int) - j) = 0 := by omega
      rw [hz]
      go_wp2_with fail
      go_ret
      exact ⟨_, t, rfl, htl, HT.out, HO.out, HN.out, HC.out⟩
end Go.Proofs.Ytpjllhlbdcanlaa
