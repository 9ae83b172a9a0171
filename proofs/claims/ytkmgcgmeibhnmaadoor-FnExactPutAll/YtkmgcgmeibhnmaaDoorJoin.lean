/-
  Terms that are joined: the model's JoinTerms.
-/
import Derived.Test.YtkmgcgmeibhnmaaDoorTurn
namespace Go.Proofs.YtkmgcgmeibhnmaaDoor
open Go Go.RowKit
open M
set_option linter.unusedVariables false

def saidJoin (wide vars op : Int) (a b : List Nd) : Bool := decide (manyOf op = 2 ∧ kindL wide vars a = partOf op ∧ kindL wide vars b = partOf op ∧ 0 < kindL wide vars (a ++ b ++ [(op, 0)]))
set_option maxRecDepth 100000 in
set_option maxHeartbeats 2000000 in
theorem joinTerms_yes (wide vars op : Int) (ho0 : -9223372036854775808 ≤ op) (ho1 : op ≤ 9223372036854775807) (c1 off1 cap1 c2 off2 cap2 : Nat) (a b : List Nd) (hok : ∀ x ∈ a, NdOk x) (hokb : ∀ x ∈ b, NdOk x) (hl : a.length ≤ 1048576) (hlb : b.length ≤ 1048576)
    (hm : manyOf op = 2) (hka : kindL wide vars a = partOf op) (hkb : kindL wide vars b = partOf op) (w : World) (hlt1 : c1 < w.heap.size) (hlt2 : c2 < w.heap.size)
    (hc1 : ∀ (i : Nat) (x : Nd), a[i]? = some x → w.cell? ⟨c1, off1 + i * 2, none⟩ = some (.int .i64 x.1) ∧ w.cell? ⟨c1, off1 + i * 2 + 1, none⟩ = some (.int .u64 x.2))
    (hc2 : ∀ (i : Nat) (x : Nd), b[i]? = some x → w.cell? ⟨c2, off2 + i * 2, none⟩ = some (.int .i64 x.1) ∧ w.cell? ⟨c2, off2 + i * 2 + 1, none⟩ = some (.int .u64 x.2)) :
    Calls Tryd.prog 35 #[.int .i64 wide, .int .i64 vars, .int .i64 op, .slice (some ⟨c1, off1, none⟩) a.length cap1, .slice (some ⟨c2, off2, none⟩) b.length cap2] w fun e w' => ∃ v, e = .returned (.tuple #[v, .bool (decide (0 < kindL wide vars (a ++ b ++ [(op, 0)])))]) ∧ OwnNodes w' w.heap.size v (madeL wide vars (a ++ b ++ [(op, 0)])) ∧ Below w.heap.size w w' := by
  have g1 := l2Need_any op w
  rw [hm] at g1
  have g2 := l2Kind_any wide vars (.slice (some ⟨c1, off1, none⟩) a.length cap1) a w ⟨hok, by omega, Or.inr ⟨c1, off1, cap1, rfl, hlt1, hc1⟩⟩
  rw [hka] at g2
  have hNb : NodesAt w (.slice (some ⟨c2, off2, none⟩) b.length cap2) b := ⟨hokb, by omega, Or.inr ⟨c2, off2, cap2, rfl, hlt2, hc2⟩⟩
  have G3 : Hid (∀ w1 : World, Below w.heap.size w w1 → Calls Tryd.prog 64 #[.int .i64 wide, .int .i64 vars, .slice (some ⟨c2, off2, none⟩) b.length cap2] w1 fun e w' => e = .returned (.int .i64 (partOf op)) ∧ Below w1.heap.size w1 w') := by
    intro w1 hb
    have g := l2Kind_any wide vars _ b w1 (hNb.below hb)
    rw [hkb] at g
    exact g
  have hok2 : ∀ x ∈ a ++ b ++ [(op, (0 : Int))], NdOk x := by
    intro x hx
    rcases List.mem_append.1 hx with h | h
    · rcases List.mem_append.1 h with h | h
      · exact hok x h
      · exact hokb x h
    · simp at h
      subst h
      exact ⟨ho0, ho1, by simp, by simp⟩
  have GM : Hid (∀ (v : Value) (w1 : World), OwnNodes w1 w.heap.size v (a ++ b ++ [(op, 0)]) → Calls Tryd.prog 65 #[.int .i64 wide, .int .i64 vars, v] w1 fun e w' => ∃ v', e = .returned (.tuple #[v', .bool (decide (0 < kindL wide vars (a ++ b ++ [(op, 0)])))]) ∧ OwnNodes w' w.heap.size v' (madeL wide vars (a ++ b ++ [(op, 0)])) ∧ Below w1.heap.size w1 w') := fun v w1 ho => l2Made_any wide vars v _ _ hok2 (by simp; omega) w1 ho
  have HC1 : Hid (∀ w1 : World, Below w.heap.size w w1 → ∀ (j : Nat) (u : Value), (flat a)[j]? = some u → w1.cell? ((⟨c1, off1, none⟩ : Addr).add j) = some u) := by
    intro w1 hb
    apply flat_from
    intro i x hx
    rw [hb.cell (p := ⟨c1, off1 + i * 2, none⟩) hlt1, hb.cell (p := ⟨c1, off1 + i * 2 + 1, none⟩) hlt1]
    exact hc1 i x hx
  have HC2 : Hid (∀ w1 : World, Below w.heap.size w w1 → ∀ (j : Nat) (u : Value), (flat b)[j]? = some u → w1.cell? ((⟨c2, off2, none⟩ : Addr).add j) = some u) := by
    intro w1 hb
    apply flat_from
    intro i x hx
    rw [hb.cell (p := ⟨c2, off2 + i * 2, none⟩) hlt2, hb.cell (p := ⟨c2, off2 + i * 2 + 1, none⟩) hlt2]
    exact hc2 i x hx
  obtain ⟨i0, hi, hz0, hz1, hz2⟩ := info_parts infoNode
  generalize decide (0 < kindL wide vars (a ++ b ++ [(op, 0)])) = Z at *
  generalize madeL wide vars (a ++ b ++ [(op, 0)]) = M at *
  clear hok hokb hok2 hc1 hc2 hm hka hkb hNb
  generalize partOf op = q at *
  generalize ownOf op = o at *
  go_enter Tryd.func35, Tryd.ntmps35
  go_wp2_with fail
  refine g1.mono ?_
  rintro e w1 ⟨rfl, rfl⟩
  clear g1
  go_wp2_with fail
  refine g2.mono ?_
  rintro e w2' ⟨rfl, hb2'⟩
  clear g2
  have g3 := G3.out _ hb2'
  go_wp2_with fail
  refine g3.mono ?_
  rintro e w2 ⟨rfl, hb2''⟩
  have hb2 : Below w1.heap.size w1 w2 := hb2'.trans (hb2''.mono hb2'.size)
  clear g3 hb2' hb2'' G3
  have HB2 : Hid (Below w1.heap.size w1 w2) := hb2
  have own0 : (w2.alloc (.cells #[] 91)).ownsRow w1.heap.size 91 2 (.slice (some ⟨w2.heap.size, 0, none⟩) 0 0) 0 (flat []) := by
    obtain ⟨h1, h2⟩ := own_empty w2
    refine ⟨h1, ?_⟩
    rcases h2 with h2 | ⟨g, cp, cur, hv, hg, r⟩
    · exact Or.inl h2
    · exact Or.inr ⟨g, cp, cur, hv, Nat.le_trans hb2.size hg, r⟩
  have cells1 := HC1.out (w2.alloc (.cells #[] 91)) (hb2.alloc hb2.size _)
  have HBa : Hid (Below w1.heap.size w1 (w2.alloc (.cells #[] 91))) := hb2.alloc hb2.size _
  clear hb2
  go_wp2_with (at_builtin; refine wpList_append_own _ rfl _ _ 24 rfl w1.heap.size 91 i0 (.agg #[.int .i64 0, .int .u64 0]) 2 16 Tryd.underlying24 hi hz0 hz1 hz2 rfl (by decide) _ _ _ rfl own0 ⟨c1, off1, none⟩ a.length cap1 (flat a) rfl (flat_len a) cells1 (flat_one a) (by unfold maxLen; omega) (by omega) (by have := HBa.out.size; omega) ?_)
  intro v3 w3 own3 grow3 _
  have own3' : w3.ownsRow w1.heap.size 91 2 v3 a.length (flat a) := own3
  have HB3 : Hid (Below w1.heap.size w1 w3) := HBa.out.grown grow3 HBa.out.size (fun kk hkk => by
    cases hkk
    exact HB2.out.size)
  have cells2 := HC2.out w3 HB3.out
  clear own3 grow3 own0 cells1 HC1 HC2 HBa
  go_wp2_with (at_builtin; refine wpList_append_own _ rfl _ _ 24 rfl w1.heap.size 91 i0 (.agg #[.int .i64 0, .int .u64 0]) 2 16 Tryd.underlying24 hi hz0 hz1 hz2 rfl (by decide) _ _ _ rfl own3' ⟨c2, off2, none⟩ b.length cap2 (flat b) rfl (flat_len b) cells2 (flat_one b) (by unfold maxLen; omega) (by omega) (by have := HB3.out.size; omega) ?_)
  intro v4 w4 own4 grow4 _
  have HB4 : Hid (Below w1.heap.size w1 w4) := HB3.out.grown grow4 HB3.out.size (fun kk hkk => by
    rcases own3'.2 with ⟨h, _⟩ | ⟨g, cap3, cur, h, hg, _⟩
    · rw [h] at hkk
      cases hkk
    · rw [h] at hkk
      cases hkk
      exact hg)
  have own4' : w4.ownsRow w1.heap.size 91 2 v4 (a.length + b.length) (flat a ++ flat b) := own4
  have own5 := own4'.alloc (.cells #[.int .i64 op, .int .u64 0] 91)
  have HBb : Hid (Below w1.heap.size w1 (w4.alloc (.cells #[.int .i64 op, .int .u64 0] 91))) := HB4.out.alloc HB4.out.size _
  clear own4 grow4 own3' cells2
  go_wp2_with (at_builtin; refine wpList_append_own _ rfl _ _ 24 rfl w1.heap.size 91 i0 (.agg #[.int .i64 0, .int .u64 0]) 2 16 Tryd.underlying24 hi hz0 hz1 hz2 rfl (by decide) _ _ _ rfl own5 ⟨w4.heap.size, 0, none⟩ 1 1 [.int .i64 op, .int .u64 0] rfl rfl (one_cells w4 op) (flat_one [(op, 0)]) (by unfold maxLen; omega) (by omega) (by have := HBb.out.size; omega) ?_)
  intro v5 w5 own6 grow6 _
  have own7 : OwnNodes w5 w1.heap.size v5 (a ++ b ++ [(op, 0)]) := by
    unfold OwnNodes
    rw [flat_append, flat_append, List.length_append, List.length_append, List.append_assoc]
    exact own6
  have HB5 : Hid (Below w1.heap.size w1 w5) := HBb.out.grown grow6 HBb.out.size (fun kk hkk => by
    rcases own4'.2 with ⟨h, _⟩ | ⟨g, cap3, cur, h, hg, _⟩
    · rw [h] at hkk
      cases hkk
    · rw [h] at hkk
      cases hkk
      exact hg)
  have g6 := GM.out v5 w5 own7
  clear own6 grow6 own5 own4' own7 GM
  go_wp2_with fail
  refine g6.mono ?_
  rintro e w7 ⟨v7, rfl, ho7, hb7⟩
  have HO : Hid (OwnNodes w7 w1.heap.size v7 M) := ho7
  have HB7 : Hid (Below w1.heap.size w1 w7) := HB5.out.trans (hb7.mono HB5.out.size)
  clear g6 ho7 hb7
  go_wp2_with fail
  go_ret2
  exact ⟨_, rfl, HO.out, HB7.out⟩
set_option maxRecDepth 100000 in
theorem joinTerms_many (wide vars op : Int) (v u : Value) (hm : manyOf op ≠ 2) (w : World) :
    Calls Tryd.prog 35 #[.int .i64 wide, .int .i64 vars, .int .i64 op, v, u] w fun e w' => e = .returned (.tuple #[.slice none 0 0, .bool false]) ∧ Below w.heap.size w w' := by
  have g1 := l2Need_any op w
  have hml := manyOf_le op
  have hne : ((manyOf op : Int) != 2) = true := bne_iff_ne.2 (by omega)
  clear hm
  generalize manyOf op = m at *
  generalize partOf op = q at *
  generalize ownOf op = o at *
  go_enter Tryd.func35, Tryd.ntmps35
  go_wp2_with fail
  refine g1.mono ?_
  rintro e w1 ⟨rfl, rfl⟩
  clear g1
  go_wp2_with fail
  go_ret2
  exact ⟨rfl, Below.refl _ _⟩
set_option maxRecDepth 100000 in
theorem joinTerms_kind (wide vars op : Int) (v u : Value) (a b : List Nd) (hm : manyOf op = 2) (hkd : ¬ (kindL wide vars a = partOf op ∧ kindL wide vars b = partOf op)) (w : World) (hN : NodesAt w v a) (hU : NodesAt w u b) :
    Calls Tryd.prog 35 #[.int .i64 wide, .int .i64 vars, .int .i64 op, v, u] w fun e w' => e = .returned (.tuple #[.slice none 0 0, .bool false]) ∧ Below w.heap.size w w' := by
  have g1 := l2Need_any op w
  rw [hm] at g1
  have g2 := l2Kind_any wide vars v a w hN
  have G3 : Hid (∀ w1 : World, Below w.heap.size w w1 → Calls Tryd.prog 64 #[.int .i64 wide, .int .i64 vars, u] w1 fun e w' => e = .returned (.int .i64 (kindL wide vars b)) ∧ Below w1.heap.size w1 w') := fun w1 hb => l2Kind_any wide vars u b w1 (hU.below hb)
  clear hm hN hU
  generalize kindL wide vars a = ka at *
  generalize kindL wide vars b = kb at *
  generalize partOf op = q at *
  generalize ownOf op = o at *
  by_cases h1 : ka = q
  · subst h1
    have hne : (kb != ka) = true := bne_iff_ne.2 (fun e => hkd ⟨rfl, e⟩)
    clear hkd
    go_enter Tryd.func35, Tryd.ntmps35
    go_wp2_with fail
    refine g1.mono ?_
    rintro e w1 ⟨rfl, rfl⟩
    clear g1
    go_wp2_with fail
    refine g2.mono ?_
    rintro e w2 ⟨rfl, hb2⟩
    clear g2
    have g3 := G3.out _ hb2
    go_wp2_with fail
    refine g3.mono ?_
    rintro e w3 ⟨rfl, hb3⟩
    have HB : Hid (Below w1.heap.size w1 w3) := hb2.trans (hb3.mono hb2.size)
    clear g3 hb2 hb3 G3
    go_wp2_with fail
    go_ret2
    exact ⟨rfl, HB.out⟩
  · have hne : (ka != q) = true := bne_iff_ne.2 h1
    clear hkd h1 G3
    go_enter Tryd.func35, Tryd.ntmps35
    go_wp2_with fail
    refine g1.mono ?_
    rintro e w1 ⟨rfl, rfl⟩
    clear g1
    go_wp2_with fail
    refine g2.mono ?_
    rintro e w2 ⟨rfl, hb2⟩
    have HB : Hid (Below w1.heap.size w1 w2) := hb2
    clear g2 hb2
    go_wp2_with fail
    go_ret2
    exact ⟨rfl, HB.out⟩
theorem joinTerms_any (wide vars op : Int) (ho0 : -9223372036854775808 ≤ op) (ho1 : op ≤ 9223372036854775807) (v u : Value) (a b : List Nd) (hl : a.length ≤ 1048576) (hlb : b.length ≤ 1048576) (w : World) (hN : NodesAt w v a) (hU : NodesAt w u b) :
    Calls Tryd.prog 35 #[.int .i64 wide, .int .i64 vars, .int .i64 op, v, u] w fun e w' => ∃ v', e = .returned (.tuple #[v', .bool (saidJoin wide vars op a b)]) ∧ OwnNodes w' w.heap.size v' (joinL wide vars op a b) ∧ Below w.heap.size w w' := by
  unfold saidJoin joinL
  by_cases hm : manyOf op = 2
  · by_cases hkd : kindL wide vars a = partOf op ∧ kindL wide vars b = partOf op
    · rw [if_pos ⟨hm, hkd.1, hkd.2⟩]
      have hl1 := kind_pos hkd.1 (Or.inr hm)
      have hl2 := kind_pos hkd.2 (Or.inr hm)
      obtain ⟨hok, _, hN⟩ := hN
      obtain ⟨hokb, _, hU⟩ := hU
      rcases hN with ⟨rfl, _⟩ | ⟨c1, off1, cap1, rfl, hlt1, hc1⟩
      · simp at hl1
      rcases hU with ⟨rfl, _⟩ | ⟨c2, off2, cap2, rfl, hlt2, hc2⟩
      · simp at hl2
      have e1 : decide (manyOf op = 2 ∧ kindL wide vars a = partOf op ∧ kindL wide vars b = partOf op ∧ 0 < kindL wide vars (a ++ b ++ [(op, 0)])) = decide (0 < kindL wide vars (a ++ b ++ [(op, 0)])) := by
        simp [hm, hkd.1, hkd.2]
      rw [e1]
      exact joinTerms_yes wide vars op ho0 ho1 c1 off1 cap1 c2 off2 cap2 a b hok hokb hl hlb hm hkd.1 hkd.2 w hlt1 hlt2 hc1 hc2
    · rw [if_neg (fun h => hkd h.2), decide_eq_false (fun h => hkd ⟨h.2.1, h.2.2.1⟩)]
      refine (joinTerms_kind wide vars op v u a b hm hkd w hN hU).mono ?_
      rintro e w' ⟨rfl, hb⟩
      exact ⟨_, rfl, World.ownsRow_nil _ _ _ _, hb⟩
  · rw [if_neg (fun h => hm h.1), decide_eq_false (fun h => hm h.1)]
    refine (joinTerms_many wide vars op v u hm w).mono ?_
    rintro e w' ⟨rfl, hb⟩
    exact ⟨_, rfl, World.ownsRow_nil _ _ _ _, hb⟩
end Go.Proofs.YtkmgcgmeibhnmaaDoor
