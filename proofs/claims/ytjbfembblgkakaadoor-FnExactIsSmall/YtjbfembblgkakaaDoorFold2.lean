/-
  A folded tree with parts: the model's l2Fold at a node of one part.
-/
import Derived.Test.YtjbfembblgkakaaDoorFold
import Derived.Test.YtjbfembblgkakaaDoorJoin
namespace Go.Proofs.YtjbfembblgkakaaDoor
open Go Go.RowKit
open M
set_option linter.unusedVariables false

theorem OwnNodes.low {w : World} {B C : Nat} {v : Value} {t : List Nd} (h : OwnNodes w B v t) (hc : C ≤ B) : OwnNodes w C v t := by
  obtain ⟨h1, h2⟩ := h
  refine ⟨h1, ?_⟩
  rcases h2 with h2 | ⟨g, cp, cur, hv, hg, r⟩
  · exact Or.inl h2
  · exact Or.inr ⟨g, cp, cur, hv, Nat.le_trans hc hg, r⟩
theorem one_cells2 (w : World) (op n : Int) : ∀ (j : Nat) (u : Value), ([.int .i64 op, .int .u64 n] : List Value)[j]? = some u → (w.alloc (.cells #[.int .i64 op, .int .u64 n] 112)).cell? ((⟨w.heap.size, 0, none⟩ : Addr).add j) = some u := by
  intro j u hu
  match j, hu with
  | 0, hu => simp at hu; subst hu; simp [Addr.add]
  | 1, hu => simp at hu; subst hu; simp [Addr.add]
set_option maxRecDepth 100000 in
set_option maxHeartbeats 2000000 in
theorem l2Fold_one (b off len cap j at0 : Nat) (k : Nat) (op n : Int) (w : World) (hj : j < len) (hl : len ≤ 1048576) (hcap : len ≤ cap) (hcm : cap ≤ 9223372036854775807) (ha : at0 ≤ j)
    (c0 : w.cell? ⟨b, off + j * 2, none⟩ = some (.int .i64 op)) (c1 : w.cell? ⟨b, off + j * 2 + 1, none⟩ = some (.int .u64 n)) (hlt : b < w.heap.size)
    (g1 : Calls Tryd.prog 148 #[.slice (some ⟨b, off, none⟩) len cap, .int .i64 j] w fun e w' => e = .returned (.int .i64 at0) ∧ w' = w)
    (hj1 : 1 ≤ j) (hm : manyOf op = 1) (vl : Nat) (hvl : 1 ≤ vl) (hvl2 : vl ≤ 1048576) (g2 : Calls Tryd.prog 91 #[.slice (some ⟨b, off + at0 * 2, none⟩) (j + 1 - at0) (cap - at0)] w fun e w' => ∃ (va : Option Addr) (vc : Nat), e = .returned (.slice va vl vc) ∧ Below w.heap.size w w')
    (ps : List Nd) (hps : ps.length ≤ 1048576) (ih : ∀ (i : Int) (w1 : World), i.toNat = j - 1 → 0 ≤ i → Below w.heap.size w w1 → Calls Tryd.prog 87 #[.int .i64 k, .slice (some ⟨b, off, none⟩) len cap, .int .i64 i] w1 fun e w' => ∃ v, e = .returned v ∧ OwnNodes w' w1.heap.size v ps ∧ Below w1.heap.size w1 w') :
    Calls Tryd.prog 87 #[.int .i64 k, .slice (some ⟨b, off, none⟩) len cap, .int .i64 j] w fun e w' => ∃ v, e = .returned v ∧ OwnNodes w' w.heap.size v (ps ++ [(op, n)]) ∧ Below w.heap.size w w' := by
  have C0 : Hid (∀ w1, Below w.heap.size w w1 → w1.cell? ⟨b, off + j * 2, none⟩ = some (.int .i64 op)) := fun w1 hb => by rw [hb.cell (p := ⟨b, off + j * 2, none⟩) hlt]; exact c0
  have C1 : Hid (∀ w1, Below w.heap.size w w1 → w1.cell? ⟨b, off + j * 2 + 1, none⟩ = some (.int .u64 n)) := fun w1 hb => by rw [hb.cell (p := ⟨b, off + j * 2 + 1, none⟩) hlt]; exact c1
  have hvz : ((vl : Int) == 0) = false := beq_eq_false_iff_ne.2 (by omega)
  have GN : Hid (∀ w1 : World, Calls Tryd.prog 145 #[.int .i64 op] w1 fun e w' => e = .returned (.tuple #[.int .i64 1, .int .i64 (partOf op), .int .i64 (ownOf op)]) ∧ w' = w1) := fun w1 => by
    have g := l2Need_any op w1
    rw [hm] at g
    exact g
  have G4 : Hid _ := ih
  obtain ⟨i0, hi, hz0, hz1, hz2⟩ := info_parts infoNode
  clear hm ih
  generalize partOf op = q at *
  generalize ownOf op = o at *
  go_enter Tryd.func87, Tryd.ntmps87
  go_wp2_with fail
  refine g1.mono ?_
  rintro e w1 ⟨rfl, rfl⟩
  clear g1
  go_wp2_with fail
  refine g2.mono ?_
  rintro e w2 ⟨va, vc, rfl, hb2⟩
  clear g2
  have d0 := C0.out w2 hb2
  have d1 := C1.out w2 hb2
  go_wp2_with fail
  refine (GN.out _).mono ?_
  rintro e w3 ⟨rfl, rfl⟩
  go_wp2_with fail
  refine (G4.out _ _ ?_ ?_ hb2).mono ?_
  · omega
  · omega
  rintro e w4 ⟨v4, rfl, ho4, hb4'⟩
  have hb4 : Below w1.heap.size w1 w4 := hb2.trans (hb4'.mono hb2.size)
  have own4 : w4.ownsRow w1.heap.size 112 2 v4 ps.length (flat ps) := ho4.low hb2.size
  have e0 := C0.out w4 hb4
  have e1 := C1.out w4 hb4
  have own5 := own4.alloc (.cells #[.int .i64 op, .int .u64 n] 112)
  have HBb : Hid (Below w1.heap.size w1 (w4.alloc (.cells #[.int .i64 op, .int .u64 n] 112))) := hb4.alloc hb4.size _
  clear G4 ho4 hb4' hb4 hb2 GN C0 C1 d0 d1 c0 c1
  go_wp2_with (at_builtin; refine wpList_append_own _ rfl _ _ 24 rfl w1.heap.size 112 i0 (.agg #[.int .i64 0, .int .u64 0]) 2 16 Tryd.underlying24 hi hz0 hz1 hz2 rfl (by decide) _ _ _ rfl own5 ⟨w4.heap.size, 0, none⟩ 1 1 [.int .i64 op, .int .u64 n] rfl rfl (one_cells2 w4 op n) (flat_one [(op, n)]) (by unfold maxLen; omega) (by omega) (by have := HBb.out.size; omega) ?_)
  intro v5 w5 own6 grow6 _
  have HO : Hid (OwnNodes w5 w1.heap.size v5 (ps ++ [(op, n)])) := by
    show OwnNodes w5 w1.heap.size v5 (ps ++ [(op, n)])
    unfold OwnNodes
    rw [flat_append, List.length_append]
    exact own6
  have HB5 : Hid (Below w1.heap.size w1 w5) := HBb.out.grown grow6 HBb.out.size (fun kk hkk => by
    rcases own4.2 with ⟨h, _⟩ | ⟨g, cap3, cur, h, hg, _⟩
    · rw [h] at hkk
      cases hkk
    · rw [h] at hkk
      cases hkk
      exact hg)
  clear own6 grow6 own5 own4
  go_wp2_with fail
  go_ret
  exact ⟨_, rfl, HO.out, HB5.out⟩
set_option maxRecDepth 100000 in
set_option maxHeartbeats 2000000 in
theorem l2Fold_two (b off len cap j at0 : Nat) (k : Nat) (op n : Int) (w : World) (hj : j < len) (hl : len ≤ 1048576) (hcap : len ≤ cap) (hcm : cap ≤ 9223372036854775807) (ha : at0 ≤ j)
    (c0 : w.cell? ⟨b, off + j * 2, none⟩ = some (.int .i64 op)) (c1 : w.cell? ⟨b, off + j * 2 + 1, none⟩ = some (.int .u64 n)) (hlt : b < w.heap.size)
    (g1 : Calls Tryd.prog 148 #[.slice (some ⟨b, off, none⟩) len cap, .int .i64 j] w fun e w' => e = .returned (.int .i64 at0) ∧ w' = w)
    (hj1 : 1 ≤ j) (at1 : Nat) (ha1 : 1 ≤ at1) (ha2 : at1 ≤ j - 1) (hm : manyOf op = 2) (vl : Nat) (hvl : 1 ≤ vl) (hvl2 : vl ≤ 1048576) (g2 : Calls Tryd.prog 91 #[.slice (some ⟨b, off + at0 * 2, none⟩) (j + 1 - at0) (cap - at0)] w fun e w' => ∃ (va : Option Addr) (vc : Nat), e = .returned (.slice va vl vc) ∧ Below w.heap.size w w')
    (ps qs : List Nd) (hps : ps.length ≤ 1048576) (hqs : qs.length ≤ 1048576) (hp : ps ≠ []) (hokp : ∀ x ∈ ps, NdOk x) (ih : ∀ (i : Int) (w1 : World), i.toNat = j - 1 → 0 ≤ i → Below w.heap.size w w1 → Calls Tryd.prog 87 #[.int .i64 k, .slice (some ⟨b, off, none⟩) len cap, .int .i64 i] w1 fun e w' => ∃ v, e = .returned v ∧ OwnNodes w' w1.heap.size v ps ∧ Below w1.heap.size w1 w')
    (gf : ∀ (i : Int) (w1 : World), i.toNat = j - 1 → 0 ≤ i → Below w.heap.size w w1 → Calls Tryd.prog 148 #[.slice (some ⟨b, off, none⟩) len cap, .int .i64 i] w1 fun e w' => e = .returned (.int .i64 at1) ∧ w' = w1)
    (ih2 : ∀ (i : Int) (w1 : World), i.toNat = at1 - 1 → 0 ≤ i → Below w.heap.size w w1 → Calls Tryd.prog 87 #[.int .i64 k, .slice (some ⟨b, off, none⟩) len cap, .int .i64 i] w1 fun e w' => ∃ v, e = .returned v ∧ OwnNodes w' w1.heap.size v qs ∧ Below w1.heap.size w1 w') :
    Calls Tryd.prog 87 #[.int .i64 k, .slice (some ⟨b, off, none⟩) len cap, .int .i64 j] w fun e w' => ∃ v, e = .returned v ∧ OwnNodes w' w.heap.size v (qs ++ ps ++ [(op, n)]) ∧ Below w.heap.size w w' := by
  have C0 : Hid (∀ w1, Below w.heap.size w w1 → w1.cell? ⟨b, off + j * 2, none⟩ = some (.int .i64 op)) := fun w1 hb => by rw [hb.cell (p := ⟨b, off + j * 2, none⟩) hlt]; exact c0
  have C1 : Hid (∀ w1, Below w.heap.size w w1 → w1.cell? ⟨b, off + j * 2 + 1, none⟩ = some (.int .u64 n)) := fun w1 hb => by rw [hb.cell (p := ⟨b, off + j * 2 + 1, none⟩) hlt]; exact c1
  have hvz : ((vl : Int) == 0) = false := beq_eq_false_iff_ne.2 (by omega)
  have GN : Hid (∀ w1 : World, Calls Tryd.prog 145 #[.int .i64 op] w1 fun e w' => e = .returned (.tuple #[.int .i64 2, .int .i64 (partOf op), .int .i64 (ownOf op)]) ∧ w' = w1) := fun w1 => by
    have g := l2Need_any op w1
    rw [hm] at g
    exact g
  have G4 : Hid _ := ih
  have G5 : Hid _ := gf
  have G6 : Hid _ := ih2
  have HP : Hid (∀ (w1 : World) (B : Nat) (v1 : Value), OwnNodes w1 B v1 ps → NodesAt w1 v1 ps) := fun w1 B v1 ho => nodes_of_own hokp (by omega) ho
  obtain ⟨i0, hi, hz0, hz1, hz2⟩ := info_parts infoNode
  clear hm ih gf ih2 hokp
  generalize partOf op = q at *
  generalize ownOf op = o at *
  go_enter Tryd.func87, Tryd.ntmps87
  go_wp2_with fail
  refine g1.mono ?_
  rintro e w1 ⟨rfl, rfl⟩
  clear g1
  go_wp2_with fail
  refine g2.mono ?_
  rintro e w2 ⟨va, vc, rfl, hb2⟩
  clear g2
  have d0 := C0.out w2 hb2
  have d1 := C1.out w2 hb2
  go_wp2_with fail
  refine (GN.out _).mono ?_
  rintro e w3 ⟨rfl, rfl⟩
  go_wp2_with fail
  refine (G4.out _ _ ?_ ?_ hb2).mono ?_
  · omega
  · omega
  rintro e w4 ⟨v4, rfl, ho4, hb4'⟩
  have hb4 : Below w1.heap.size w1 w4 := hb2.trans (hb4'.mono hb2.size)
  have N4 := HP.out w4 _ v4 ho4
  clear ho4 hb4' hb2 d0 d1
  go_wp2_with fail
  refine (G5.out _ _ ?_ ?_ hb4).mono ?_
  · omega
  · omega
  rintro e w5 ⟨rfl, rfl⟩
  go_wp2_with fail
  refine (G6.out _ _ ?_ ?_ hb4).mono ?_
  · omega
  · omega
  rintro e w6 ⟨v6, rfl, ho6, hb6'⟩
  have hb6 : Below w1.heap.size w1 w6 := hb4.trans (hb6'.mono hb4.size)
  have own6 : w6.ownsRow w1.heap.size 112 2 v6 qs.length (flat qs) := ho6.low hb4.size
  have N6 := N4.below hb6'
  rcases N6 with ⟨-, -, N6⟩
  rcases N6 with ⟨h, -⟩ | ⟨pb, po, pc, rfl, hplt, hpc⟩
  · exact absurd h hp
  have cells6 : ∀ (j : Nat) (u : Value), (flat ps)[j]? = some u → w6.cell? ((⟨pb, po, none⟩ : Addr).add j) = some u := by
    apply flat_from
    intro i x hx
    exact hpc i x hx
  have HB6 : Hid (Below w1.heap.size w1 w6) := hb6
  clear G4 G5 G6 HP GN ho6 hb6' hb6 hb4 N4 hpc c0 c1
  go_wp2_with (at_builtin; refine wpList_append_own _ rfl _ _ 24 rfl w1.heap.size 112 i0 (.agg #[.int .i64 0, .int .u64 0]) 2 16 Tryd.underlying24 hi hz0 hz1 hz2 rfl (by decide) _ _ _ rfl own6 ⟨pb, po, none⟩ ps.length pc (flat ps) rfl (flat_len ps) cells6 (flat_one ps) (by unfold maxLen; omega) (by omega) (by have := HB6.out.size; omega) ?_)
  intro v7 w4 own7 grow7 _
  have HB7 : Hid (Below w1.heap.size w1 w4) := HB6.out.grown grow7 HB6.out.size (fun kk hkk => by
    rcases own6.2 with ⟨h, _⟩ | ⟨g, cap3, cur, h, hg, _⟩
    · rw [h] at hkk
      cases hkk
    · rw [h] at hkk
      cases hkk
      exact hg)
  have own4 : w4.ownsRow w1.heap.size 112 2 v7 (qs ++ ps).length (flat (qs ++ ps)) := by
    rw [flat_append, List.length_append]
    exact own7
  have e0 := C0.out w4 HB7.out
  have e1 := C1.out w4 HB7.out
  have own5 := own4.alloc (.cells #[.int .i64 op, .int .u64 n] 112)
  have HBb : Hid (Below w1.heap.size w1 (w4.alloc (.cells #[.int .i64 op, .int .u64 n] 112))) := HB7.out.alloc HB7.out.size _
  have hlen : (qs ++ ps).length ≤ 2097152 := by rw [List.length_append]; omega
  clear C0 C1 own7 grow7 own6 cells6
  generalize hrs : qs ++ ps = rs at *
  go_wp2_with (at_builtin; refine wpList_append_own _ rfl _ _ 24 rfl w1.heap.size 112 i0 (.agg #[.int .i64 0, .int .u64 0]) 2 16 Tryd.underlying24 hi hz0 hz1 hz2 rfl (by decide) _ _ _ rfl own5 ⟨w4.heap.size, 0, none⟩ 1 1 [.int .i64 op, .int .u64 n] rfl rfl (one_cells2 w4 op n) (flat_one [(op, n)]) (by unfold maxLen; omega) (by omega) (by have := HBb.out.size; omega) ?_)
  intro v5 w5 own6 grow6 _
  have HO : Hid (OwnNodes w5 w1.heap.size v5 (rs ++ [(op, n)])) := by
    show OwnNodes w5 w1.heap.size v5 (rs ++ [(op, n)])
    unfold OwnNodes
    rw [flat_append, List.length_append]
    exact own6
  have HB5 : Hid (Below w1.heap.size w1 w5) := HBb.out.grown grow6 HBb.out.size (fun kk hkk => by
    rcases own4.2 with ⟨h, _⟩ | ⟨g, cap3, cur, h, hg, _⟩
    · rw [h] at hkk
      cases hkk
    · rw [h] at hkk
      cases hkk
      exact hg)
  clear own6 grow6 own5 own4
  go_wp2_with fail
  go_ret
  subst hrs
  exact ⟨_, rfl, HO.out, HB5.out⟩
end Go.Proofs.YtjbfembblgkakaaDoor
