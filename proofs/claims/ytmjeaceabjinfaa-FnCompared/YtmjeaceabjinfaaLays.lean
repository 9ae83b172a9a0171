/-
  Loops of laid gates: sums and comparisons, of the program and of the model.
-/
import Derived.Test.YtmjeaceabjinfaaLay
namespace Go.Proofs.Ytmjeaceabjinfaa
open Go Go.RowKit
open M
set_option linter.unusedVariables false
set_option linter.unusedSimpArgs false

theorem lay_at (lo hi b : Nat) (ins : Int) (G : List Gt) (os : List Int) (S k x y : Int) (hS : ins + G.length = S) (hI0 : 0 ≤ ins) (hI1 : ins ≤ 16) (hn : G.length ≤ 1000) (w : World) (h : Bld w lo hi b 27 (ins, G, os)) :
    Calls Try.prog 139 #[.pointer (some ⟨b, 0, none⟩), .int .i64 k, .int .i64 x, .int .i64 y] w fun e w' => e = .returned (.int .i64 S) ∧ Bld w' lo hi b 27 (ins, G ++ [(k, x, y)], os) ∧ Below lo w w' ∧ KeepT 3 w w' := by
  have g := lay_any lo hi b (ins, G, os) k x y hI0 hI1 hn w h
  simp only at g
  rw [hS] at g
  exact g
theorem gate_at (lo hi b : Nat) (ins : Int) (G : List Gt) (os : List Int) (S k x y : Int) (hS : ins + G.length = S) (hI0 : 0 ≤ ins) (hI1 : ins ≤ 16) (hn : G.length ≤ 1000) (w : World) (h : Bld w lo hi b 105 (ins, G, os)) :
    Calls Try.prog 142 #[.pointer (some ⟨b, 0, none⟩), .int .i64 k, .int .i64 x, .int .i64 y] w fun e w' => e = .returned (.int .i64 S) ∧ Bld w' lo hi b 105 (ins, G ++ [(k, x, y)], os) ∧ Below lo w w' ∧ KeepT 3 w w' := by
  have g := gate_any lo hi b (ins, G, os) k x y hI0 hI1 hn w h
  simp only at g
  rw [hS] at g
  exact g
set_option maxRecDepth 100000 in
set_option maxHeartbeats 8000000 in
theorem iEq_any (lo hi b : Nat) (ins : Int) (gs : List Gt) (os : List Int) (av bv : Value) (a bb : List Int) (N : Int) (hN : ins + gs.length = N) (hI0 : 0 ≤ ins) (hI1 : ins ≤ 16) (hn : gs.length ≤ 300) (hl : a.length = bb.length) (hl16 : a.length ≤ 16) (w : World) (h : Bld w lo hi b 27 (ins, gs, os)) (hhi : hi ≤ w.heap.size)
    (ha : ∀ w', Below lo w w' → IntsAt w' av a) (hb : ∀ w', Below lo w w' → IntsAt w' bv bb) :
    Calls Try.prog 82 #[.pointer (some ⟨b, 0, none⟩), av, bv] w fun e w' => e = .returned (.int .i64 (onW N (N + 1) 3 2 a.length)) ∧ Bld w' lo hi b 27 (ins, gs ++ [(1, 1, 0)] ++ (eqG a bb N (N + 1)).1, os) ∧ Below lo w w' := by
  obtain ⟨aa, acap, hav, _⟩ := (ha w (Below.refl _ _)).opened
  obtain ⟨ba, bcap, hbv, _⟩ := (hb w (Below.refl _ _)).opened
  subst hav hbv
  have HA : Hid (∀ w', Below lo w w' → ∀ (i : Nat) (x : Int), a[i]? = some x → ∃ g off : Nat, aa = some ⟨g, off, none⟩ ∧ g < w'.heap.size ∧ w'.cell? ⟨g, off + i, none⟩ = some (.int .i64 x)) := fun w' hw i x hx => by
    obtain ⟨_, _, e, hc⟩ := (ha w' hw).opened
    injection e with e1 e2 e3
    subst e1
    exact hc i x hx
  have HBB : Hid (∀ w', Below lo w w' → ∀ (i : Nat) (x : Int), bb[i]? = some x → ∃ g off : Nat, ba = some ⟨g, off, none⟩ ∧ g < w'.heap.size ∧ w'.cell? ⟨g, off + i, none⟩ = some (.int .i64 x)) := fun w' hw i x hx => by
    obtain ⟨_, _, e, hc⟩ := (hb w' hw).opened
    injection e with e1 e2 e3
    subst e1
    exact hc i x hx
  have hlo := h.size
  have g1 := lay_at lo hi b ins gs os N 1 1 0 hN hI0 hI1 (by omega) w h
  clear ha hb h
  generalize hal : a.length = an at *
  rw [← hl]
  have HAL : Hid (a.length = an) := hal
  have HBL : Hid (bb.length = an) := hl.symm
  clear hal hl
  go_enter Try.func82, Try.ntmps82
  go_wp2_with fail
  refine g1.mono ?_
  rintro e w1 ⟨rfl, hB1, hb1, _⟩
  have HB1 : Hid _ := hB1
  have Hb1 : Hid _ := hb1
  clear g1 hB1 hb1
  go_wp2_with fail
  go_loopw [7, 15] (fun vn i wr => ∃ j : Nat, j ≤ an ∧ i = .int .i64 j ∧ vn = .int .i64 (onW N (N + 1) 3 2 j) ∧ Hid (Bld wr lo hi b 27 (ins, gs ++ [(1, 1, 0)] ++ (eqG (a.take j) (bb.take j) N (N + 1)).1, os)) ∧ Hid (Below lo w wr)) (fun _ i _ => an - (intOf i).toNat)
  case atStart =>
    refine ⟨0, by omega, rfl, rfl, ?_, Hb1⟩
    show Bld w1 lo hi b 27 (ins, gs ++ [(1, 1, 0)] ++ [], os)
    rw [List.append_nil]
    exact HB1.out
  case round =>
    obtain ⟨j, hj, rfl, rfl, HB, HBl⟩ := hrel
    clear HB1 Hb1
    by_cases hlt : j < an
    · have hal := HAL.out
      have hbl := HBL.out
      obtain ⟨x, hx⟩ : ∃ x, a[j]? = some x := ⟨a[j], List.getElem?_eq_getElem (by omega)⟩
      obtain ⟨y, hy⟩ : ∃ y, bb[j]? = some y := ⟨bb[j], List.getElem?_eq_getElem (by omega)⟩
      have hl1 : (a.take j).length = j := List.length_take_of_le (by omega)
      have hl2 : (bb.take j).length = j := List.length_take_of_le (by omega)
      have hsn := eqG_snoc (a.take j) (bb.take j) x y N (N + 1) (by rw [hl1, hl2])
      have hln := eqG_len (a.take j) (bb.take j) N (N + 1) (by rw [hl1, hl2])
      rw [hl1] at hsn hln
      have hta : a.take (j + 1) = a.take j ++ [x] := by rw [List.take_add_one, hx]; rfl
      have htb : bb.take (j + 1) = bb.take j ++ [y] := by rw [List.take_add_one, hy]; rfl
      rw [← hta, ← htb] at hsn
      obtain ⟨S0, hS⟩ : ∃ S0 : Int, N + 1 + 3 * (j : Int) = S0 := ⟨_, rfl⟩
      rw [hS] at hsn
      obtain ⟨C, hC⟩ : ∃ C : Int, onW N (N + 1) 3 2 j = C := ⟨_, rfl⟩
      rw [hC] at hsn ⊢
      obtain ⟨G, hG⟩ : ∃ G, gs ++ [(1, 1, 0)] ++ (eqG (a.take j) (bb.take j) N (N + 1)).1 = G := ⟨_, rfl⟩
      have hGl : ins + (G.length : Int) = S0 := by
        rw [← hG]
        simp only [List.length_append, hln, List.length_singleton]
        omega
      have hGn : G.length ≤ 900 := by omega
      obtain ⟨S1, hS1⟩ : ∃ S1 : Int, S0 + 1 = S1 := ⟨_, rfl⟩
      obtain ⟨S2, hS2⟩ : ∃ S2 : Int, S0 + 2 = S2 := ⟨_, rfl⟩
      have HNEW : Hid (gs ++ [(1, 1, 0)] ++ (eqG (a.take (j + 1)) (bb.take (j + 1)) N (N + 1)).1 = G ++ [(5, x, y)] ++ [(2, S0, 0)] ++ [(3, S1, C)]) := by
        show gs ++ [(1, 1, 0)] ++ (eqG (a.take (j + 1)) (bb.take (j + 1)) N (N + 1)).1 = _
        rw [hsn, ← hG]
        simp [eqOne, ← hS, ← hS1, ← hS2]
        try omega
      have HON : Hid (onW N (N + 1) 3 2 (j + 1) = S2) := by
        show (N + 1) + 3 * (j : Int) + 2 = S2
        omega
      rw [hG] at HB
      clear hsn hln hta htb hG hC hl1 hl2
      obtain ⟨ag, aoff, rfl, _, _⟩ := HA.out wr HBl.out j x hx
      obtain ⟨bg, boff, rfl, _, _⟩ := HBB.out wr HBl.out j y hy
      have HAC : Hid (∀ w', Below lo w w' → ag < w'.heap.size ∧ w'.cell? ⟨ag, aoff + j, none⟩ = some (.int .i64 x)) := fun w' hw => by
        obtain ⟨g, off, e, h1, h2⟩ := HA.out w' hw j x hx
        injection e with e1
        injection e1 with e2 e3
        subst e2 e3
        exact ⟨h1, h2⟩
      have HBC : Hid (∀ w', Below lo w w' → bg < w'.heap.size ∧ w'.cell? ⟨bg, boff + j, none⟩ = some (.int .i64 y)) := fun w' hw => by
        obtain ⟨g, off, e, h1, h2⟩ := HBB.out w' hw j y hy
        injection e with e1
        injection e1 with e2 e3
        subst e2 e3
        exact ⟨h1, h2⟩
      have hjA : (j : Int) < (an : Int) := by omega
      clear hx hy HA HBB
      obtain ⟨ax0, ac0⟩ := HAC.out _ HBl.out
      obtain ⟨bx0, bc0⟩ := HBC.out _ HBl.out
      go_wp2_with fail
      go_region_with (go_at_call 139; refine (lay_at lo hi b ins (G) os S0 5 x y (by first | omega | (simp only [List.length_append, List.length_singleton]; omega)) hI0 hI1 (by first | omega | (simp only [List.length_append, List.length_singleton]; omega)) _ ?_).mono ?_; (first | exact HB.out | exact HB.out.drew); rintro e w11 ⟨rfl, hB, hbl', hk'⟩; have HBw11 : Hid (Bld w11 lo hi b 27 (ins, G ++ [(5, x, y)], os)) := hB; have HBlw11 : Hid (Below lo w w11) := (by first | exact HBl.out.trans hbl' | exact HBl.out.drew.trans hbl'); clear hB hbl' hk')
      all_goals
        clear HB HBl
        go_wp2_with fail
        refine (lay_at lo hi b ins (G ++ [(5, x, y)]) os S1 2 S0 0 (by first | omega | (simp only [List.length_append, List.length_singleton]; omega)) hI0 hI1 (by first | omega | (simp only [List.length_append, List.length_singleton]; omega)) _ ?_).mono ?_
        · exact HBw11.out
        rintro e w12 ⟨rfl, hB, hbl', hk'⟩
        have HBw12 : Hid (Bld w12 lo hi b 27 (ins, G ++ [(5, x, y)] ++ [(2, S0, 0)], os)) := hB
        have HBlw12 : Hid (Below lo w w12) := HBlw11.out.trans hbl'
        clear hB hbl' hk' HBw11 HBlw11
        go_wp2_with fail
        refine (lay_at lo hi b ins (G ++ [(5, x, y)] ++ [(2, S0, 0)]) os S2 3 S1 C (by first | omega | (simp only [List.length_append, List.length_singleton]; omega)) hI0 hI1 (by first | omega | (simp only [List.length_append, List.length_singleton]; omega)) _ ?_).mono ?_
        · exact HBw12.out
        rintro e w13 ⟨rfl, hB, hbl', hk'⟩
        have HBw13 : Hid (Bld w13 lo hi b 27 (ins, G ++ [(5, x, y)] ++ [(2, S0, 0)] ++ [(3, S1, C)], os)) := hB
        have HBlw13 : Hid (Below lo w w13) := HBlw12.out.trans hbl'
        clear hB hbl' hk' HBw12 HBlw12
        have HBF : Hid (Bld _ lo hi b 27 (ins, gs ++ [(1, 1, 0)] ++ (eqG (a.take (j + 1)) (bb.take (j + 1)) N (N + 1)).1, os)) := (by have h1 := HBw13.out; rw [← HNEW.out] at h1; exact h1)
        clear HNEW HAC HBC HBw13
        go_wp2_with fail
        go_roundw
        case rel => exact ⟨j + 1, by omega, by go_num, by rw [HON.out], HBF, HBlw13⟩
        case measure => simp [intOf]; omega
    · obtain rfl : j = an := by omega
      have ha1 : a.take j = a := List.take_of_length_le (by have := HAL.out; omega)
      have hb1 : bb.take j = bb := List.take_of_length_le (by have := HBL.out; omega)
      rw [ha1, hb1] at HB
      clear HA HBB ha1 hb1
      go_wp2_with fail
      go_ret
      exact ⟨rfl, HB.out, HBl.out⟩
set_option maxRecDepth 100000 in
set_option maxHeartbeats 8000000 in
theorem iLess_any (lo hi b : Nat) (ins : Int) (gs : List Gt) (os : List Int) (av bv : Value) (a bb : List Int) (N : Int) (hN : ins + gs.length = N) (hI0 : 0 ≤ ins) (hI1 : ins ≤ 16) (hn : gs.length ≤ 300) (hl : a.length = bb.length) (hl16 : a.length ≤ 16) (w : World) (h : Bld w lo hi b 27 (ins, gs, os)) (hhi : hi ≤ w.heap.size)
    (ha : ∀ w', Below lo w w' → IntsAt w' av a) (hb : ∀ w', Below lo w w' → IntsAt w' bv bb) :
    Calls Try.prog 77 #[.pointer (some ⟨b, 0, none⟩), av, bv] w fun e w' => e = .returned (.int .i64 (onW N (N + 1) 6 5 a.length)) ∧ Bld w' lo hi b 27 (ins, gs ++ [(1, 0, 0)] ++ (lessG a bb N (N + 1)).1, os) ∧ Below lo w w' := by
  obtain ⟨aa, acap, hav, _⟩ := (ha w (Below.refl _ _)).opened
  obtain ⟨ba, bcap, hbv, _⟩ := (hb w (Below.refl _ _)).opened
  subst hav hbv
  have HA : Hid (∀ w', Below lo w w' → ∀ (i : Nat) (x : Int), a[i]? = some x → ∃ g off : Nat, aa = some ⟨g, off, none⟩ ∧ g < w'.heap.size ∧ w'.cell? ⟨g, off + i, none⟩ = some (.int .i64 x)) := fun w' hw i x hx => by
    obtain ⟨_, _, e, hc⟩ := (ha w' hw).opened
    injection e with e1 e2 e3
    subst e1
    exact hc i x hx
  have HBB : Hid (∀ w', Below lo w w' → ∀ (i : Nat) (x : Int), bb[i]? = some x → ∃ g off : Nat, ba = some ⟨g, off, none⟩ ∧ g < w'.heap.size ∧ w'.cell? ⟨g, off + i, none⟩ = some (.int .i64 x)) := fun w' hw i x hx => by
    obtain ⟨_, _, e, hc⟩ := (hb w' hw).opened
    injection e with e1 e2 e3
    subst e1
    exact hc i x hx
  have hlo := h.size
  have g1 := lay_at lo hi b ins gs os N 1 0 0 hN hI0 hI1 (by omega) w h
  clear ha hb h
  generalize hal : a.length = an at *
  rw [← hl]
  have HAL : Hid (a.length = an) := hal
  have HBL : Hid (bb.length = an) := hl.symm
  clear hal hl
  go_enter Try.func77, Try.ntmps77
  go_wp2_with fail
  refine g1.mono ?_
  rintro e w1 ⟨rfl, hB1, hb1, _⟩
  have HB1 : Hid _ := hB1
  have Hb1 : Hid _ := hb1
  clear g1 hB1 hb1
  go_wp2_with fail
  go_loopw [7, 18] (fun vn i wr => ∃ j : Nat, j ≤ an ∧ i = .int .i64 j ∧ vn = .int .i64 (onW N (N + 1) 6 5 j) ∧ Hid (Bld wr lo hi b 27 (ins, gs ++ [(1, 0, 0)] ++ (lessG (a.take j) (bb.take j) N (N + 1)).1, os)) ∧ Hid (Below lo w wr)) (fun _ i _ => an - (intOf i).toNat)
  case atStart =>
    refine ⟨0, by omega, rfl, rfl, ?_, Hb1⟩
    show Bld w1 lo hi b 27 (ins, gs ++ [(1, 0, 0)] ++ [], os)
    rw [List.append_nil]
    exact HB1.out
  case round =>
    obtain ⟨j, hj, rfl, rfl, HB, HBl⟩ := hrel
    clear HB1 Hb1
    by_cases hlt : j < an
    · have hal := HAL.out
      have hbl := HBL.out
      obtain ⟨x, hx⟩ : ∃ x, a[j]? = some x := ⟨a[j], List.getElem?_eq_getElem (by omega)⟩
      obtain ⟨y, hy⟩ : ∃ y, bb[j]? = some y := ⟨bb[j], List.getElem?_eq_getElem (by omega)⟩
      have hl1 : (a.take j).length = j := List.length_take_of_le (by omega)
      have hl2 : (bb.take j).length = j := List.length_take_of_le (by omega)
      have hsn := lessG_snoc (a.take j) (bb.take j) x y N (N + 1) (by rw [hl1, hl2])
      have hln := lessG_len (a.take j) (bb.take j) N (N + 1) (by rw [hl1, hl2])
      rw [hl1] at hsn hln
      have hta : a.take (j + 1) = a.take j ++ [x] := by rw [List.take_add_one, hx]; rfl
      have htb : bb.take (j + 1) = bb.take j ++ [y] := by rw [List.take_add_one, hy]; rfl
      rw [← hta, ← htb] at hsn
      obtain ⟨S0, hS⟩ : ∃ S0 : Int, N + 1 + 6 * (j : Int) = S0 := ⟨_, rfl⟩
      rw [hS] at hsn
      obtain ⟨C, hC⟩ : ∃ C : Int, onW N (N + 1) 6 5 j = C := ⟨_, rfl⟩
      rw [hC] at hsn ⊢
      obtain ⟨G, hG⟩ : ∃ G, gs ++ [(1, 0, 0)] ++ (lessG (a.take j) (bb.take j) N (N + 1)).1 = G := ⟨_, rfl⟩
      have hGl : ins + (G.length : Int) = S0 := by
        rw [← hG]
        simp only [List.length_append, hln, List.length_singleton]
        omega
      have hGn : G.length ≤ 900 := by omega
      obtain ⟨S1, hS1⟩ : ∃ S1 : Int, S0 + 1 = S1 := ⟨_, rfl⟩
      obtain ⟨S2, hS2⟩ : ∃ S2 : Int, S0 + 2 = S2 := ⟨_, rfl⟩
      obtain ⟨S3, hS3⟩ : ∃ S3 : Int, S0 + 3 = S3 := ⟨_, rfl⟩
      obtain ⟨S4, hS4⟩ : ∃ S4 : Int, S0 + 4 = S4 := ⟨_, rfl⟩
      obtain ⟨S5, hS5⟩ : ∃ S5 : Int, S0 + 5 = S5 := ⟨_, rfl⟩
      have HNEW : Hid (gs ++ [(1, 0, 0)] ++ (lessG (a.take (j + 1)) (bb.take (j + 1)) N (N + 1)).1 = G ++ [(5, x, y)] ++ [(2, S0, 0)] ++ [(3, S1, C)] ++ [(2, x, 0)] ++ [(3, S3, y)] ++ [(4, S2, S4)]) := by
        show gs ++ [(1, 0, 0)] ++ (lessG (a.take (j + 1)) (bb.take (j + 1)) N (N + 1)).1 = _
        rw [hsn, ← hG]
        simp [lessOne, ← hS, ← hS1, ← hS2, ← hS3, ← hS4, ← hS5]
        try omega
      have HON : Hid (onW N (N + 1) 6 5 (j + 1) = S5) := by
        show (N + 1) + 6 * (j : Int) + 5 = S5
        omega
      rw [hG] at HB
      clear hsn hln hta htb hG hC hl1 hl2
      obtain ⟨ag, aoff, rfl, _, _⟩ := HA.out wr HBl.out j x hx
      obtain ⟨bg, boff, rfl, _, _⟩ := HBB.out wr HBl.out j y hy
      have HAC : Hid (∀ w', Below lo w w' → ag < w'.heap.size ∧ w'.cell? ⟨ag, aoff + j, none⟩ = some (.int .i64 x)) := fun w' hw => by
        obtain ⟨g, off, e, h1, h2⟩ := HA.out w' hw j x hx
        injection e with e1
        injection e1 with e2 e3
        subst e2 e3
        exact ⟨h1, h2⟩
      have HBC : Hid (∀ w', Below lo w w' → bg < w'.heap.size ∧ w'.cell? ⟨bg, boff + j, none⟩ = some (.int .i64 y)) := fun w' hw => by
        obtain ⟨g, off, e, h1, h2⟩ := HBB.out w' hw j y hy
        injection e with e1
        injection e1 with e2 e3
        subst e2 e3
        exact ⟨h1, h2⟩
      have hjA : (j : Int) < (an : Int) := by omega
      clear hx hy HA HBB
      obtain ⟨ax0, ac0⟩ := HAC.out _ HBl.out
      obtain ⟨bx0, bc0⟩ := HBC.out _ HBl.out
      go_wp2_with fail
      go_region_with (go_at_call 139; refine (lay_at lo hi b ins (G) os S0 5 x y (by first | omega | (simp only [List.length_append, List.length_singleton]; omega)) hI0 hI1 (by first | omega | (simp only [List.length_append, List.length_singleton]; omega)) _ ?_).mono ?_; (first | exact HB.out | exact HB.out.drew); rintro e w11 ⟨rfl, hB, hbl', hk'⟩; have HBw11 : Hid (Bld w11 lo hi b 27 (ins, G ++ [(5, x, y)], os)) := hB; have HBlw11 : Hid (Below lo w w11) := (by first | exact HBl.out.trans hbl' | exact HBl.out.drew.trans hbl'); clear hB hbl' hk')
      all_goals
        clear HB HBl
        go_wp2_with fail
        refine (lay_at lo hi b ins (G ++ [(5, x, y)]) os S1 2 S0 0 (by first | omega | (simp only [List.length_append, List.length_singleton]; omega)) hI0 hI1 (by first | omega | (simp only [List.length_append, List.length_singleton]; omega)) _ ?_).mono ?_
        · exact HBw11.out
        rintro e w12 ⟨rfl, hB, hbl', hk'⟩
        have HBw12 : Hid (Bld w12 lo hi b 27 (ins, G ++ [(5, x, y)] ++ [(2, S0, 0)], os)) := hB
        have HBlw12 : Hid (Below lo w w12) := HBlw11.out.trans hbl'
        clear hB hbl' hk' HBw11 HBlw11
        go_wp2_with fail
        refine (lay_at lo hi b ins (G ++ [(5, x, y)] ++ [(2, S0, 0)]) os S2 3 S1 C (by first | omega | (simp only [List.length_append, List.length_singleton]; omega)) hI0 hI1 (by first | omega | (simp only [List.length_append, List.length_singleton]; omega)) _ ?_).mono ?_
        · exact HBw12.out
        rintro e w13 ⟨rfl, hB, hbl', hk'⟩
        have HBw13 : Hid (Bld w13 lo hi b 27 (ins, G ++ [(5, x, y)] ++ [(2, S0, 0)] ++ [(3, S1, C)], os)) := hB
        have HBlw13 : Hid (Below lo w w13) := HBlw12.out.trans hbl'
        clear hB hbl' hk' HBw12 HBlw12
        obtain ⟨ax3, ac3⟩ := HAC.out _ HBlw13.out
        go_wp2_with fail
        refine (lay_at lo hi b ins (G ++ [(5, x, y)] ++ [(2, S0, 0)] ++ [(3, S1, C)]) os S3 2 x 0 (by first | omega | (simp only [List.length_append, List.length_singleton]; omega)) hI0 hI1 (by first | omega | (simp only [List.length_append, List.length_singleton]; omega)) _ ?_).mono ?_
        · exact HBw13.out
        rintro e w14 ⟨rfl, hB, hbl', hk'⟩
        have HBw14 : Hid (Bld w14 lo hi b 27 (ins, G ++ [(5, x, y)] ++ [(2, S0, 0)] ++ [(3, S1, C)] ++ [(2, x, 0)], os)) := hB
        have HBlw14 : Hid (Below lo w w14) := HBlw13.out.trans hbl'
        clear hB hbl' hk' HBw13 HBlw13
        obtain ⟨bx4, bc4⟩ := HBC.out _ HBlw14.out
        go_wp2_with fail
        refine (lay_at lo hi b ins (G ++ [(5, x, y)] ++ [(2, S0, 0)] ++ [(3, S1, C)] ++ [(2, x, 0)]) os S4 3 S3 y (by first | omega | (simp only [List.length_append, List.length_singleton]; omega)) hI0 hI1 (by first | omega | (simp only [List.length_append, List.length_singleton]; omega)) _ ?_).mono ?_
        · exact HBw14.out
        rintro e w15 ⟨rfl, hB, hbl', hk'⟩
        have HBw15 : Hid (Bld w15 lo hi b 27 (ins, G ++ [(5, x, y)] ++ [(2, S0, 0)] ++ [(3, S1, C)] ++ [(2, x, 0)] ++ [(3, S3, y)], os)) := hB
        have HBlw15 : Hid (Below lo w w15) := HBlw14.out.trans hbl'
        clear hB hbl' hk' HBw14 HBlw14
        go_wp2_with fail
        refine (lay_at lo hi b ins (G ++ [(5, x, y)] ++ [(2, S0, 0)] ++ [(3, S1, C)] ++ [(2, x, 0)] ++ [(3, S3, y)]) os S5 4 S2 S4 (by first | omega | (simp only [List.length_append, List.length_singleton]; omega)) hI0 hI1 (by first | omega | (simp only [List.length_append, List.length_singleton]; omega)) _ ?_).mono ?_
        · exact HBw15.out
        rintro e w16 ⟨rfl, hB, hbl', hk'⟩
        have HBw16 : Hid (Bld w16 lo hi b 27 (ins, G ++ [(5, x, y)] ++ [(2, S0, 0)] ++ [(3, S1, C)] ++ [(2, x, 0)] ++ [(3, S3, y)] ++ [(4, S2, S4)], os)) := hB
        have HBlw16 : Hid (Below lo w w16) := HBlw15.out.trans hbl'
        clear hB hbl' hk' HBw15 HBlw15
        have HBF : Hid (Bld _ lo hi b 27 (ins, gs ++ [(1, 0, 0)] ++ (lessG (a.take (j + 1)) (bb.take (j + 1)) N (N + 1)).1, os)) := (by have h1 := HBw16.out; rw [← HNEW.out] at h1; exact h1)
        clear HNEW HAC HBC HBw16
        go_wp2_with fail
        go_roundw
        case rel => exact ⟨j + 1, by omega, by go_num, by rw [HON.out], HBF, HBlw16⟩
        case measure => simp [intOf]; omega
    · obtain rfl : j = an := by omega
      have ha1 : a.take j = a := List.take_of_length_le (by have := HAL.out; omega)
      have hb1 : bb.take j = bb := List.take_of_length_le (by have := HBL.out; omega)
      rw [ha1, hb1] at HB
      clear HA HBB ha1 hb1
      go_wp2_with fail
      go_ret
      exact ⟨rfl, HB.out, HBl.out⟩
set_option maxRecDepth 100000 in
set_option maxHeartbeats 8000000 in
theorem sEq_any (lo hi b : Nat) (ins : Int) (gs : List Gt) (os : List Int) (av bv : Value) (a bb : List Int) (N : Int) (hN : ins + gs.length = N) (hI0 : 0 ≤ ins) (hI1 : ins ≤ 16) (hn : gs.length ≤ 300) (hl : a.length = bb.length) (hl16 : a.length ≤ 16) (w : World) (h : Bld w lo hi b 105 (ins, gs, os)) (hhi : hi ≤ w.heap.size)
    (ha : ∀ w', Below lo w w' → IntsAt w' av a) (hb : ∀ w', Below lo w w' → IntsAt w' bv bb) :
    Calls Try.prog 83 #[.pointer (some ⟨b, 0, none⟩), av, bv] w fun e w' => e = .returned (.int .i64 (onW N (N + 1) 3 2 a.length)) ∧ Bld w' lo hi b 105 (ins, gs ++ [(1, 1, 0)] ++ (eqG a bb N (N + 1)).1, os) ∧ Below lo w w' := by
  obtain ⟨aa, acap, hav, _⟩ := (ha w (Below.refl _ _)).opened
  obtain ⟨ba, bcap, hbv, _⟩ := (hb w (Below.refl _ _)).opened
  subst hav hbv
  have HA : Hid (∀ w', Below lo w w' → ∀ (i : Nat) (x : Int), a[i]? = some x → ∃ g off : Nat, aa = some ⟨g, off, none⟩ ∧ g < w'.heap.size ∧ w'.cell? ⟨g, off + i, none⟩ = some (.int .i64 x)) := fun w' hw i x hx => by
    obtain ⟨_, _, e, hc⟩ := (ha w' hw).opened
    injection e with e1 e2 e3
    subst e1
    exact hc i x hx
  have HBB : Hid (∀ w', Below lo w w' → ∀ (i : Nat) (x : Int), bb[i]? = some x → ∃ g off : Nat, ba = some ⟨g, off, none⟩ ∧ g < w'.heap.size ∧ w'.cell? ⟨g, off + i, none⟩ = some (.int .i64 x)) := fun w' hw i x hx => by
    obtain ⟨_, _, e, hc⟩ := (hb w' hw).opened
    injection e with e1 e2 e3
    subst e1
    exact hc i x hx
  have hlo := h.size
  have g1 := gate_at lo hi b ins gs os N 1 1 0 hN hI0 hI1 (by omega) w h
  clear ha hb h
  generalize hal : a.length = an at *
  rw [← hl]
  have HAL : Hid (a.length = an) := hal
  have HBL : Hid (bb.length = an) := hl.symm
  clear hal hl
  go_enter Try.func83, Try.ntmps83
  go_wp2_with fail
  refine g1.mono ?_
  rintro e w1 ⟨rfl, hB1, hb1, _⟩
  have HB1 : Hid _ := hB1
  have Hb1 : Hid _ := hb1
  clear g1 hB1 hb1
  go_wp2_with fail
  go_loopw [7, 15] (fun vn i wr => ∃ j : Nat, j ≤ an ∧ i = .int .i64 j ∧ vn = .int .i64 (onW N (N + 1) 3 2 j) ∧ Hid (Bld wr lo hi b 105 (ins, gs ++ [(1, 1, 0)] ++ (eqG (a.take j) (bb.take j) N (N + 1)).1, os)) ∧ Hid (Below lo w wr)) (fun _ i _ => an - (intOf i).toNat)
  case atStart =>
    refine ⟨0, by omega, rfl, rfl, ?_, Hb1⟩
    show Bld w1 lo hi b 105 (ins, gs ++ [(1, 1, 0)] ++ [], os)
    rw [List.append_nil]
    exact HB1.out
  case round =>
    obtain ⟨j, hj, rfl, rfl, HB, HBl⟩ := hrel
    clear HB1 Hb1
    by_cases hlt : j < an
    · have hal := HAL.out
      have hbl := HBL.out
      obtain ⟨x, hx⟩ : ∃ x, a[j]? = some x := ⟨a[j], List.getElem?_eq_getElem (by omega)⟩
      obtain ⟨y, hy⟩ : ∃ y, bb[j]? = some y := ⟨bb[j], List.getElem?_eq_getElem (by omega)⟩
      have hl1 : (a.take j).length = j := List.length_take_of_le (by omega)
      have hl2 : (bb.take j).length = j := List.length_take_of_le (by omega)
      have hsn := eqG_snoc (a.take j) (bb.take j) x y N (N + 1) (by rw [hl1, hl2])
      have hln := eqG_len (a.take j) (bb.take j) N (N + 1) (by rw [hl1, hl2])
      rw [hl1] at hsn hln
      have hta : a.take (j + 1) = a.take j ++ [x] := by rw [List.take_add_one, hx]; rfl
      have htb : bb.take (j + 1) = bb.take j ++ [y] := by rw [List.take_add_one, hy]; rfl
      rw [← hta, ← htb] at hsn
      obtain ⟨S0, hS⟩ : ∃ S0 : Int, N + 1 + 3 * (j : Int) = S0 := ⟨_, rfl⟩
      rw [hS] at hsn
      obtain ⟨C, hC⟩ : ∃ C : Int, onW N (N + 1) 3 2 j = C := ⟨_, rfl⟩
      rw [hC] at hsn ⊢
      obtain ⟨G, hG⟩ : ∃ G, gs ++ [(1, 1, 0)] ++ (eqG (a.take j) (bb.take j) N (N + 1)).1 = G := ⟨_, rfl⟩
      have hGl : ins + (G.length : Int) = S0 := by
        rw [← hG]
        simp only [List.length_append, hln, List.length_singleton]
        omega
      have hGn : G.length ≤ 900 := by omega
      obtain ⟨S1, hS1⟩ : ∃ S1 : Int, S0 + 1 = S1 := ⟨_, rfl⟩
      obtain ⟨S2, hS2⟩ : ∃ S2 : Int, S0 + 2 = S2 := ⟨_, rfl⟩
      have HNEW : Hid (gs ++ [(1, 1, 0)] ++ (eqG (a.take (j + 1)) (bb.take (j + 1)) N (N + 1)).1 = G ++ [(5, x, y)] ++ [(2, S0, 0)] ++ [(3, S1, C)]) := by
        show gs ++ [(1, 1, 0)] ++ (eqG (a.take (j + 1)) (bb.take (j + 1)) N (N + 1)).1 = _
        rw [hsn, ← hG]
        simp [eqOne, ← hS, ← hS1, ← hS2]
        try omega
      have HON : Hid (onW N (N + 1) 3 2 (j + 1) = S2) := by
        show (N + 1) + 3 * (j : Int) + 2 = S2
        omega
      rw [hG] at HB
      clear hsn hln hta htb hG hC hl1 hl2
      obtain ⟨ag, aoff, rfl, _, _⟩ := HA.out wr HBl.out j x hx
      obtain ⟨bg, boff, rfl, _, _⟩ := HBB.out wr HBl.out j y hy
      have HAC : Hid (∀ w', Below lo w w' → ag < w'.heap.size ∧ w'.cell? ⟨ag, aoff + j, none⟩ = some (.int .i64 x)) := fun w' hw => by
        obtain ⟨g, off, e, h1, h2⟩ := HA.out w' hw j x hx
        injection e with e1
        injection e1 with e2 e3
        subst e2 e3
        exact ⟨h1, h2⟩
      have HBC : Hid (∀ w', Below lo w w' → bg < w'.heap.size ∧ w'.cell? ⟨bg, boff + j, none⟩ = some (.int .i64 y)) := fun w' hw => by
        obtain ⟨g, off, e, h1, h2⟩ := HBB.out w' hw j y hy
        injection e with e1
        injection e1 with e2 e3
        subst e2 e3
        exact ⟨h1, h2⟩
      have hjA : (j : Int) < (an : Int) := by omega
      clear hx hy HA HBB
      obtain ⟨ax0, ac0⟩ := HAC.out _ HBl.out
      obtain ⟨bx0, bc0⟩ := HBC.out _ HBl.out
      go_wp2_with fail
      go_region_with (go_at_call 142; refine (gate_at lo hi b ins (G) os S0 5 x y (by first | omega | (simp only [List.length_append, List.length_singleton]; omega)) hI0 hI1 (by first | omega | (simp only [List.length_append, List.length_singleton]; omega)) _ ?_).mono ?_; (first | exact HB.out | exact HB.out.drew); rintro e w11 ⟨rfl, hB, hbl', hk'⟩; have HBw11 : Hid (Bld w11 lo hi b 105 (ins, G ++ [(5, x, y)], os)) := hB; have HBlw11 : Hid (Below lo w w11) := (by first | exact HBl.out.trans hbl' | exact HBl.out.drew.trans hbl'); clear hB hbl' hk')
      all_goals
        clear HB HBl
        go_wp2_with fail
        refine (gate_at lo hi b ins (G ++ [(5, x, y)]) os S1 2 S0 0 (by first | omega | (simp only [List.length_append, List.length_singleton]; omega)) hI0 hI1 (by first | omega | (simp only [List.length_append, List.length_singleton]; omega)) _ ?_).mono ?_
        · exact HBw11.out
        rintro e w12 ⟨rfl, hB, hbl', hk'⟩
        have HBw12 : Hid (Bld w12 lo hi b 105 (ins, G ++ [(5, x, y)] ++ [(2, S0, 0)], os)) := hB
        have HBlw12 : Hid (Below lo w w12) := HBlw11.out.trans hbl'
        clear hB hbl' hk' HBw11 HBlw11
        go_wp2_with fail
        refine (gate_at lo hi b ins (G ++ [(5, x, y)] ++ [(2, S0, 0)]) os S2 3 S1 C (by first | omega | (simp only [List.length_append, List.length_singleton]; omega)) hI0 hI1 (by first | omega | (simp only [List.length_append, List.length_singleton]; omega)) _ ?_).mono ?_
        · exact HBw12.out
        rintro e w13 ⟨rfl, hB, hbl', hk'⟩
        have HBw13 : Hid (Bld w13 lo hi b 105 (ins, G ++ [(5, x, y)] ++ [(2, S0, 0)] ++ [(3, S1, C)], os)) := hB
        have HBlw13 : Hid (Below lo w w13) := HBlw12.out.trans hbl'
        clear hB hbl' hk' HBw12 HBlw12
        have HBF : Hid (Bld _ lo hi b 105 (ins, gs ++ [(1, 1, 0)] ++ (eqG (a.take (j + 1)) (bb.take (j + 1)) N (N + 1)).1, os)) := (by have h1 := HBw13.out; rw [← HNEW.out] at h1; exact h1)
        clear HNEW HAC HBC HBw13
        go_wp2_with fail
        go_roundw
        case rel => exact ⟨j + 1, by omega, by go_num, by rw [HON.out], HBF, HBlw13⟩
        case measure => simp [intOf]; omega
    · obtain rfl : j = an := by omega
      have ha1 : a.take j = a := List.take_of_length_le (by have := HAL.out; omega)
      have hb1 : bb.take j = bb := List.take_of_length_le (by have := HBL.out; omega)
      rw [ha1, hb1] at HB
      clear HA HBB ha1 hb1
      go_wp2_with fail
      go_ret
      exact ⟨rfl, HB.out, HBl.out⟩
set_option maxRecDepth 100000 in
set_option maxHeartbeats 8000000 in
theorem sLess_any (lo hi b : Nat) (ins : Int) (gs : List Gt) (os : List Int) (av bv : Value) (a bb : List Int) (N : Int) (hN : ins + gs.length = N) (hI0 : 0 ≤ ins) (hI1 : ins ≤ 16) (hn : gs.length ≤ 300) (hl : a.length = bb.length) (hl16 : a.length ≤ 16) (w : World) (h : Bld w lo hi b 105 (ins, gs, os)) (hhi : hi ≤ w.heap.size)
    (ha : ∀ w', Below lo w w' → IntsAt w' av a) (hb : ∀ w', Below lo w w' → IntsAt w' bv bb) :
    Calls Try.prog 80 #[.pointer (some ⟨b, 0, none⟩), av, bv] w fun e w' => e = .returned (.int .i64 (onW N (N + 1) 6 5 a.length)) ∧ Bld w' lo hi b 105 (ins, gs ++ [(1, 0, 0)] ++ (lessG a bb N (N + 1)).1, os) ∧ Below lo w w' := by
  obtain ⟨aa, acap, hav, _⟩ := (ha w (Below.refl _ _)).opened
  obtain ⟨ba, bcap, hbv, _⟩ := (hb w (Below.refl _ _)).opened
  subst hav hbv
  have HA : Hid (∀ w', Below lo w w' → ∀ (i : Nat) (x : Int), a[i]? = some x → ∃ g off : Nat, aa = some ⟨g, off, none⟩ ∧ g < w'.heap.size ∧ w'.cell? ⟨g, off + i, none⟩ = some (.int .i64 x)) := fun w' hw i x hx => by
    obtain ⟨_, _, e, hc⟩ := (ha w' hw).opened
    injection e with e1 e2 e3
    subst e1
    exact hc i x hx
  have HBB : Hid (∀ w', Below lo w w' → ∀ (i : Nat) (x : Int), bb[i]? = some x → ∃ g off : Nat, ba = some ⟨g, off, none⟩ ∧ g < w'.heap.size ∧ w'.cell? ⟨g, off + i, none⟩ = some (.int .i64 x)) := fun w' hw i x hx => by
    obtain ⟨_, _, e, hc⟩ := (hb w' hw).opened
    injection e with e1 e2 e3
    subst e1
    exact hc i x hx
  have hlo := h.size
  have g1 := gate_at lo hi b ins gs os N 1 0 0 hN hI0 hI1 (by omega) w h
  clear ha hb h
  generalize hal : a.length = an at *
  rw [← hl]
  have HAL : Hid (a.length = an) := hal
  have HBL : Hid (bb.length = an) := hl.symm
  clear hal hl
  go_enter Try.func80, Try.ntmps80
  go_wp2_with fail
  refine g1.mono ?_
  rintro e w1 ⟨rfl, hB1, hb1, _⟩
  have HB1 : Hid _ := hB1
  have Hb1 : Hid _ := hb1
  clear g1 hB1 hb1
  go_wp2_with fail
  go_loopw [7, 18] (fun vn i wr => ∃ j : Nat, j ≤ an ∧ i = .int .i64 j ∧ vn = .int .i64 (onW N (N + 1) 6 5 j) ∧ Hid (Bld wr lo hi b 105 (ins, gs ++ [(1, 0, 0)] ++ (lessG (a.take j) (bb.take j) N (N + 1)).1, os)) ∧ Hid (Below lo w wr)) (fun _ i _ => an - (intOf i).toNat)
  case atStart =>
    refine ⟨0, by omega, rfl, rfl, ?_, Hb1⟩
    show Bld w1 lo hi b 105 (ins, gs ++ [(1, 0, 0)] ++ [], os)
    rw [List.append_nil]
    exact HB1.out
  case round =>
    obtain ⟨j, hj, rfl, rfl, HB, HBl⟩ := hrel
    clear HB1 Hb1
    by_cases hlt : j < an
    · have hal := HAL.out
      have hbl := HBL.out
      obtain ⟨x, hx⟩ : ∃ x, a[j]? = some x := ⟨a[j], List.getElem?_eq_getElem (by omega)⟩
      obtain ⟨y, hy⟩ : ∃ y, bb[j]? = some y := ⟨bb[j], List.getElem?_eq_getElem (by omega)⟩
      have hl1 : (a.take j).length = j := List.length_take_of_le (by omega)
      have hl2 : (bb.take j).length = j := List.length_take_of_le (by omega)
      have hsn := lessG_snoc (a.take j) (bb.take j) x y N (N + 1) (by rw [hl1, hl2])
      have hln := lessG_len (a.take j) (bb.take j) N (N + 1) (by rw [hl1, hl2])
      rw [hl1] at hsn hln
      have hta : a.take (j + 1) = a.take j ++ [x] := by rw [List.take_add_one, hx]; rfl
      have htb : bb.take (j + 1) = bb.take j ++ [y] := by rw [List.take_add_one, hy]; rfl
      rw [← hta, ← htb] at hsn
      obtain ⟨S0, hS⟩ : ∃ S0 : Int, N + 1 + 6 * (j : Int) = S0 := ⟨_, rfl⟩
      rw [hS] at hsn
      obtain ⟨C, hC⟩ : ∃ C : Int, onW N (N + 1) 6 5 j = C := ⟨_, rfl⟩
      rw [hC] at hsn ⊢
      obtain ⟨G, hG⟩ : ∃ G, gs ++ [(1, 0, 0)] ++ (lessG (a.take j) (bb.take j) N (N + 1)).1 = G := ⟨_, rfl⟩
      have hGl : ins + (G.length : Int) = S0 := by
        rw [← hG]
        simp only [List.length_append, hln, List.length_singleton]
        omega
      have hGn : G.length ≤ 900 := by omega
      obtain ⟨S1, hS1⟩ : ∃ S1 : Int, S0 + 1 = S1 := ⟨_, rfl⟩
      obtain ⟨S2, hS2⟩ : ∃ S2 : Int, S0 + 2 = S2 := ⟨_, rfl⟩
      obtain ⟨S3, hS3⟩ : ∃ S3 : Int, S0 + 3 = S3 := ⟨_, rfl⟩
      obtain ⟨S4, hS4⟩ : ∃ S4 : Int, S0 + 4 = S4 := ⟨_, rfl⟩
      obtain ⟨S5, hS5⟩ : ∃ S5 : Int, S0 + 5 = S5 := ⟨_, rfl⟩
      have HNEW : Hid (gs ++ [(1, 0, 0)] ++ (lessG (a.take (j + 1)) (bb.take (j + 1)) N (N + 1)).1 = G ++ [(5, x, y)] ++ [(2, S0, 0)] ++ [(3, S1, C)] ++ [(2, x, 0)] ++ [(3, S3, y)] ++ [(4, S2, S4)]) := by
        show gs ++ [(1, 0, 0)] ++ (lessG (a.take (j + 1)) (bb.take (j + 1)) N (N + 1)).1 = _
        rw [hsn, ← hG]
        simp [lessOne, ← hS, ← hS1, ← hS2, ← hS3, ← hS4, ← hS5]
        try omega
      have HON : Hid (onW N (N + 1) 6 5 (j + 1) = S5) := by
        show (N + 1) + 6 * (j : Int) + 5 = S5
        omega
      rw [hG] at HB
      clear hsn hln hta htb hG hC hl1 hl2
      obtain ⟨ag, aoff, rfl, _, _⟩ := HA.out wr HBl.out j x hx
      obtain ⟨bg, boff, rfl, _, _⟩ := HBB.out wr HBl.out j y hy
      have HAC : Hid (∀ w', Below lo w w' → ag < w'.heap.size ∧ w'.cell? ⟨ag, aoff + j, none⟩ = some (.int .i64 x)) := fun w' hw => by
        obtain ⟨g, off, e, h1, h2⟩ := HA.out w' hw j x hx
        injection e with e1
        injection e1 with e2 e3
        subst e2 e3
        exact ⟨h1, h2⟩
      have HBC : Hid (∀ w', Below lo w w' → bg < w'.heap.size ∧ w'.cell? ⟨bg, boff + j, none⟩ = some (.int .i64 y)) := fun w' hw => by
        obtain ⟨g, off, e, h1, h2⟩ := HBB.out w' hw j y hy
        injection e with e1
        injection e1 with e2 e3
        subst e2 e3
        exact ⟨h1, h2⟩
      have hjA : (j : Int) < (an : Int) := by omega
      clear hx hy HA HBB
      obtain ⟨ax0, ac0⟩ := HAC.out _ HBl.out
      obtain ⟨bx0, bc0⟩ := HBC.out _ HBl.out
      go_wp2_with fail
      go_region_with (go_at_call 142; refine (gate_at lo hi b ins (G) os S0 5 x y (by first | omega | (simp only [List.length_append, List.length_singleton]; omega)) hI0 hI1 (by first | omega | (simp only [List.length_append, List.length_singleton]; omega)) _ ?_).mono ?_; (first | exact HB.out | exact HB.out.drew); rintro e w11 ⟨rfl, hB, hbl', hk'⟩; have HBw11 : Hid (Bld w11 lo hi b 105 (ins, G ++ [(5, x, y)], os)) := hB; have HBlw11 : Hid (Below lo w w11) := (by first | exact HBl.out.trans hbl' | exact HBl.out.drew.trans hbl'); clear hB hbl' hk')
      all_goals
        clear HB HBl
        go_wp2_with fail
        refine (gate_at lo hi b ins (G ++ [(5, x, y)]) os S1 2 S0 0 (by first | omega | (simp only [List.length_append, List.length_singleton]; omega)) hI0 hI1 (by first | omega | (simp only [List.length_append, List.length_singleton]; omega)) _ ?_).mono ?_
        · exact HBw11.out
        rintro e w12 ⟨rfl, hB, hbl', hk'⟩
        have HBw12 : Hid (Bld w12 lo hi b 105 (ins, G ++ [(5, x, y)] ++ [(2, S0, 0)], os)) := hB
        have HBlw12 : Hid (Below lo w w12) := HBlw11.out.trans hbl'
        clear hB hbl' hk' HBw11 HBlw11
        go_wp2_with fail
        refine (gate_at lo hi b ins (G ++ [(5, x, y)] ++ [(2, S0, 0)]) os S2 3 S1 C (by first | omega | (simp only [List.length_append, List.length_singleton]; omega)) hI0 hI1 (by first | omega | (simp only [List.length_append, List.length_singleton]; omega)) _ ?_).mono ?_
        · exact HBw12.out
        rintro e w13 ⟨rfl, hB, hbl', hk'⟩
        have HBw13 : Hid (Bld w13 lo hi b 105 (ins, G ++ [(5, x, y)] ++ [(2, S0, 0)] ++ [(3, S1, C)], os)) := hB
        have HBlw13 : Hid (Below lo w w13) := HBlw12.out.trans hbl'
        clear hB hbl' hk' HBw12 HBlw12
        obtain ⟨ax3, ac3⟩ := HAC.out _ HBlw13.out
        go_wp2_with fail
        refine (gate_at lo hi b ins (G ++ [(5, x, y)] ++ [(2, S0, 0)] ++ [(3, S1, C)]) os S3 2 x 0 (by first | omega | (simp only [List.length_append, List.length_singleton]; omega)) hI0 hI1 (by first | omega | (simp only [List.length_append, List.length_singleton]; omega)) _ ?_).mono ?_
        · exact HBw13.out
        rintro e w14 ⟨rfl, hB, hbl', hk'⟩
        have HBw14 : Hid (Bld w14 lo hi b 105 (ins, G ++ [(5, x, y)] ++ [(2, S0, 0)] ++ [(3, S1, C)] ++ [(2, x, 0)], os)) := hB
        have HBlw14 : Hid (Below lo w w14) := HBlw13.out.trans hbl'
        clear hB hbl' hk' HBw13 HBlw13
        obtain ⟨bx4, bc4⟩ := HBC.out _ HBlw14.out
        go_wp2_with fail
        refine (gate_at lo hi b ins (G ++ [(5, x, y)] ++ [(2, S0, 0)] ++ [(3, S1, C)] ++ [(2, x, 0)]) os S4 3 S3 y (by first | omega | (simp only [List.length_append, List.length_singleton]; omega)) hI0 hI1 (by first | omega | (simp only [List.length_append, List.length_singleton]; omega)) _ ?_).mono ?_
        · exact HBw14.out
        rintro e w15 ⟨rfl, hB, hbl', hk'⟩
        have HBw15 : Hid (Bld w15 lo hi b 105 (ins, G ++ [(5, x, y)] ++ [(2, S0, 0)] ++ [(3, S1, C)] ++ [(2, x, 0)] ++ [(3, S3, y)], os)) := hB
        have HBlw15 : Hid (Below lo w w15) := HBlw14.out.trans hbl'
        clear hB hbl' hk' HBw14 HBlw14
        go_wp2_with fail
        refine (gate_at lo hi b ins (G ++ [(5, x, y)] ++ [(2, S0, 0)] ++ [(3, S1, C)] ++ [(2, x, 0)] ++ [(3, S3, y)]) os S5 4 S2 S4 (by first | omega | (simp only [List.length_append, List.length_singleton]; omega)) hI0 hI1 (by first | omega | (simp only [List.length_append, List.length_singleton]; omega)) _ ?_).mono ?_
        · exact HBw15.out
        rintro e w16 ⟨rfl, hB, hbl', hk'⟩
        have HBw16 : Hid (Bld w16 lo hi b 105 (ins, G ++ [(5, x, y)] ++ [(2, S0, 0)] ++ [(3, S1, C)] ++ [(2, x, 0)] ++ [(3, S3, y)] ++ [(4, S2, S4)], os)) := hB
        have HBlw16 : Hid (Below lo w w16) := HBlw15.out.trans hbl'
        clear hB hbl' hk' HBw15 HBlw15
        have HBF : Hid (Bld _ lo hi b 105 (ins, gs ++ [(1, 0, 0)] ++ (lessG (a.take (j + 1)) (bb.take (j + 1)) N (N + 1)).1, os)) := (by have h1 := HBw16.out; rw [← HNEW.out] at h1; exact h1)
        clear HNEW HAC HBC HBw16
        go_wp2_with fail
        go_roundw
        case rel => exact ⟨j + 1, by omega, by go_num, by rw [HON.out], HBF, HBlw16⟩
        case measure => simp [intOf]; omega
    · obtain rfl : j = an := by omega
      have ha1 : a.take j = a := List.take_of_length_le (by have := HAL.out; omega)
      have hb1 : bb.take j = bb := List.take_of_length_le (by have := HBL.out; omega)
      rw [ha1, hb1] at HB
      clear HA HBB ha1 hb1
      go_wp2_with fail
      go_ret
      exact ⟨rfl, HB.out, HBl.out⟩
end Go.Proofs.Ytmjeaceabjinfaa
