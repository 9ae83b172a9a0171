/-
  Terms that are turned or joined: the model's l2Made, TurnTerm and JoinTerms.
-/
import Derived.Test.YtkmgcgmeibhnmaaDoorMarks
namespace Go.Proofs.YtkmgcgmeibhnmaaDoor
open Go Go.RowKit
open M
set_option linter.unusedVariables false

/-- an answer that owns its memory: these nodes, from block B on -/
def OwnNodes (w : World) (B : Nat) (v : Value) (t : List Nd) : Prop := w.ownsRow B 91 2 v t.length (flat t)
def madeL (wide vars : Int) (t : List Nd) : List Nd := if 0 < kindL wide vars t then t else []
def turnL (wide vars op : Int) (a : List Nd) : List Nd := if manyOf op = 1 ∧ kindL wide vars a = partOf op then madeL wide vars (a ++ [(op, 0)]) else []
def joinL (wide vars op : Int) (a b : List Nd) : List Nd := if manyOf op = 2 ∧ kindL wide vars a = partOf op ∧ kindL wide vars b = partOf op then madeL wide vars (a ++ b ++ [(op, 0)]) else []
theorem l2Made_any (wide vars : Int) (v : Value) (t : List Nd) (B : Nat) (hok : ∀ x ∈ t, NdOk x) (hl : t.length ≤ 9223372036854775807) (w : World) (ho : OwnNodes w B v t) :
    Calls Tryd.prog 65 #[.int .i64 wide, .int .i64 vars, v] w fun e w' => ∃ v', e = .returned (.tuple #[v', .bool (decide (0 < kindL wide vars t))]) ∧ OwnNodes w' B v' (madeL wide vars t) ∧ Below w.heap.size w w' := by
  have g := goodTerm_any wide vars v t w (nodes_of_own hok hl ho)
  unfold madeL
  by_cases h : 0 < kindL wide vars t
  · rw [if_pos h, decide_eq_true h]
    rw [decide_eq_true h] at g
    clear h
    go_enter Tryd.func65, Tryd.ntmps65
    go_wp2_with fail
    refine g.mono ?_
    rintro e w1 ⟨rfl, hb⟩
    have HO : Hid (OwnNodes w1 B v t) := owns_below ho hb
    have HB : Hid (Below w.heap.size w w1) := hb
    clear g ho hb
    go_wp2_with fail
    go_ret2
    exact ⟨_, rfl, HO.out, HB.out⟩
  · rw [if_neg h, decide_eq_false h]
    rw [decide_eq_false h] at g
    clear h
    go_enter Tryd.func65, Tryd.ntmps65
    go_wp2_with fail
    refine g.mono ?_
    rintro e w1 ⟨rfl, hb⟩
    have HB : Hid (Below w.heap.size w w1) := hb
    clear g ho hb
    go_wp2_with fail
    go_ret2
    exact ⟨_, rfl, World.ownsRow_nil _ _ _ _, HB.out⟩
theorem own_empty (w : World) : OwnNodes (w.alloc (.cells #[] 91)) w.heap.size (.slice (some ⟨w.heap.size, 0, none⟩) 0 0) [] := by
  refine ⟨rfl, Or.inr ⟨w.heap.size, 0, #[], rfl, Nat.le_refl _, ?_, Nat.le_refl _, by unfold maxLen; omega, rfl, rfl⟩⟩
  show (w.heap.push _)[w.heap.size]? = _
  simp
theorem flat_one (t : List Nd) : ∀ u ∈ flat t, u.oneCell' = true := by
  induction t with
  | nil => intro u hu; cases hu
  | cons x t ih =>
    intro u hu
    simp only [flat, List.mem_cons] at hu
    rcases hu with rfl | rfl | hu
    · rfl
    · rfl
    · exact ih u hu
theorem flat_from {w : World} {b off : Nat} {t : List Nd} (hc : ∀ (i : Nat) (x : Nd), t[i]? = some x → w.cell? ⟨b, off + i * 2, none⟩ = some (.int .i64 x.1) ∧ w.cell? ⟨b, off + i * 2 + 1, none⟩ = some (.int .u64 x.2)) :
    ∀ (j : Nat) (u : Value), (flat t)[j]? = some u → w.cell? ((⟨b, off, none⟩ : Addr).add j) = some u := by
  intro j u hu
  have hj : j < t.length * 2 := by
    have h := (List.getElem?_eq_some_iff.1 hu).1
    rw [flat_len] at h
    exact h
  obtain ⟨x, hx⟩ : ∃ x, t[j / 2]? = some x := ⟨t[j / 2]'(by omega), List.getElem?_eq_getElem (by omega)⟩
  obtain ⟨c0, c1⟩ := hc (j / 2) x hx
  have ea : (⟨b, off, none⟩ : Addr).add j = ⟨b, off + j, none⟩ := by
    unfold Addr.add
    by_cases h0 : j = 0
    · subst h0
      simp
    · simp [h0]
  rw [ea]
  rcases Nat.mod_two_eq_zero_or_one j with h | h
  · have e : j / 2 * 2 = j := by omega
    have f0 := flat_at0 t (j / 2) x hx
    rw [e] at f0 c0
    rw [f0] at hu
    rw [c0]
    exact hu
  · have e : j / 2 * 2 + 1 = j := by omega
    have f1 := flat_at1 t (j / 2) x hx
    rw [e] at f1
    rw [f1] at hu
    rw [Nat.add_assoc, e] at c1
    rw [c1]
    exact hu
theorem one_cells (w : World) (op : Int) : ∀ (j : Nat) (u : Value), ([.int .i64 op, .int .u64 0] : List Value)[j]? = some u → (w.alloc (.cells #[.int .i64 op, .int .u64 0] 91)).cell? ((⟨w.heap.size, 0, none⟩ : Addr).add j) = some u := by
  intro j u hu
  match j, hu with
  | 0, hu => simp at hu; subst hu; simp [Addr.add]
  | 1, hu => simp at hu; subst hu; simp [Addr.add]
set_option maxRecDepth 100000 in
set_option maxHeartbeats 2000000 in
theorem turnTerm_yes (wide vars op : Int) (ho0 : -9223372036854775808 ≤ op) (ho1 : op ≤ 9223372036854775807) (b off cap : Nat) (a : List Nd) (hok : ∀ x ∈ a, NdOk x) (hl : a.length ≤ 1048576) (hm : manyOf op = 1) (hkd : kindL wide vars a = partOf op) (w : World) (hlt : b < w.heap.size)
    (hc : ∀ (i : Nat) (x : Nd), a[i]? = some x → w.cell? ⟨b, off + i * 2, none⟩ = some (.int .i64 x.1) ∧ w.cell? ⟨b, off + i * 2 + 1, none⟩ = some (.int .u64 x.2)) :
    Calls Tryd.prog 40 #[.int .i64 wide, .int .i64 vars, .int .i64 op, .slice (some ⟨b, off, none⟩) a.length cap] w fun e w' => ∃ v, e = .returned (.tuple #[v, .bool (decide (0 < kindL wide vars (a ++ [(op, 0)])))]) ∧ OwnNodes w' w.heap.size v (madeL wide vars (a ++ [(op, 0)])) ∧ Below w.heap.size w w' := by
  have g1 := l2Need_any op w
  rw [hm] at g1
  have g2 := l2Kind_any wide vars (.slice (some ⟨b, off, none⟩) a.length cap) a w ⟨hok, by omega, Or.inr ⟨b, off, cap, rfl, hlt, hc⟩⟩
  rw [hkd] at g2
  have hok2 : ∀ x ∈ a ++ [(op, (0 : Int))], NdOk x := by
    intro x hx
    rcases List.mem_append.1 hx with h | h
    · exact hok x h
    · simp at h
      subst h
      exact ⟨ho0, ho1, by simp, by simp⟩
  have GM : Hid (∀ (v : Value) (w1 : World), OwnNodes w1 w.heap.size v (a ++ [(op, 0)]) → Calls Tryd.prog 65 #[.int .i64 wide, .int .i64 vars, v] w1 fun e w' => ∃ v', e = .returned (.tuple #[v', .bool (decide (0 < kindL wide vars (a ++ [(op, 0)])))]) ∧ OwnNodes w' w.heap.size v' (madeL wide vars (a ++ [(op, 0)])) ∧ Below w1.heap.size w1 w') := fun v w1 ho => l2Made_any wide vars v _ _ hok2 (by simp; omega) w1 ho
  have HC : Hid (∀ w1 : World, Below w.heap.size w w1 → ∀ (j : Nat) (u : Value), (flat a)[j]? = some u → w1.cell? ((⟨b, off, none⟩ : Addr).add j) = some u) := by
    intro w1 hb
    apply flat_from
    intro i x hx
    rw [hb.cell (p := ⟨b, off + i * 2, none⟩) hlt, hb.cell (p := ⟨b, off + i * 2 + 1, none⟩) hlt]
    exact hc i x hx
  obtain ⟨i0, hi, hz0, hz1, hz2⟩ := info_parts infoNode
  generalize decide (0 < kindL wide vars (a ++ [(op, 0)])) = Z at *
  generalize madeL wide vars (a ++ [(op, 0)]) = M at *
  clear hok hok2 hc hm hkd
  generalize partOf op = q at *
  generalize ownOf op = o at *
  go_enter Tryd.func40, Tryd.ntmps40
  go_wp2_with fail
  refine g1.mono ?_
  rintro e w1 ⟨rfl, rfl⟩
  clear g1
  go_wp2_with fail
  refine g2.mono ?_
  rintro e w2 ⟨rfl, hb2⟩
  clear g2
  have HB2 : Hid (Below w1.heap.size w1 w2) := hb2
  have own0 : (w2.alloc (.cells #[] 91)).ownsRow w1.heap.size 91 2 (.slice (some ⟨w2.heap.size, 0, none⟩) 0 0) 0 (flat []) := by
    obtain ⟨h1, h2⟩ := own_empty w2
    refine ⟨h1, ?_⟩
    rcases h2 with h2 | ⟨g, cp, cur, hv, hg, r⟩
    · exact Or.inl h2
    · exact Or.inr ⟨g, cp, cur, hv, Nat.le_trans hb2.size hg, r⟩
  have cells1 := HC.out (w2.alloc (.cells #[] 91)) (hb2.alloc hb2.size _)
  have HBa : Hid (Below w1.heap.size w1 (w2.alloc (.cells #[] 91))) := hb2.alloc hb2.size _
  clear hb2
  go_wp2_with (at_builtin; refine wpList_append_own _ rfl _ _ 24 rfl w1.heap.size 91 i0 (.agg #[.int .i64 0, .int .u64 0]) 2 16 Tryd.underlying24 hi hz0 hz1 hz2 rfl (by decide) _ _ _ rfl own0 ⟨b, off, none⟩ a.length cap (flat a) rfl (flat_len a) cells1 (flat_one a) (by unfold maxLen; omega) (by omega) (by have := HBa.out.size; omega) ?_)
  intro v3 w3 own3 grow3 _
  have own3' : w3.ownsRow w1.heap.size 91 2 v3 a.length (flat a) := own3
  have HB3 : Hid (Below w1.heap.size w1 w3) := HBa.out.grown grow3 HBa.out.size (fun kk hkk => by
    cases hkk
    exact HB2.out.size)
  have own4 := own3'.alloc (.cells #[.int .i64 op, .int .u64 0] 91)
  have HBb : Hid (Below w1.heap.size w1 (w3.alloc (.cells #[.int .i64 op, .int .u64 0] 91))) := HB3.out.alloc HB3.out.size _
  clear own3 grow3 own0 cells1 HC HBa
  go_wp2_with (at_builtin; refine wpList_append_own _ rfl _ _ 24 rfl w1.heap.size 91 i0 (.agg #[.int .i64 0, .int .u64 0]) 2 16 Tryd.underlying24 hi hz0 hz1 hz2 rfl (by decide) _ _ _ rfl own4 ⟨w3.heap.size, 0, none⟩ 1 1 [.int .i64 op, .int .u64 0] rfl rfl (one_cells w3 op) (flat_one [(op, 0)]) (by unfold maxLen; omega) (by omega) (by have := HBb.out.size; omega) ?_)
  intro v5 w5 own5 grow5 _
  have own6 : OwnNodes w5 w1.heap.size v5 (a ++ [(op, 0)]) := by
    unfold OwnNodes
    rw [flat_append, List.length_append]
    exact own5
  have HB5 : Hid (Below w1.heap.size w1 w5) := HBb.out.grown grow5 HBb.out.size (fun kk hkk => by
    rcases own3'.2 with ⟨h, _⟩ | ⟨g, cap3, cur, h, hg, _⟩
    · rw [h] at hkk
      cases hkk
    · rw [h] at hkk
      cases hkk
      exact hg)
  have g6 := GM.out v5 w5 own6
  clear own5 grow5 own4 own3' own6 GM
  go_wp2_with fail
  refine g6.mono ?_
  rintro e w7 ⟨v7, rfl, ho7, hb7⟩
  have HO : Hid (OwnNodes w7 w1.heap.size v7 M) := ho7
  have HB7 : Hid (Below w1.heap.size w1 w7) := HB5.out.trans (hb7.mono HB5.out.size)
  clear g6 ho7 hb7
  go_wp2_with fail
  go_ret2
  exact ⟨_, rfl, HO.out, HB7.out⟩
set_option maxRecDepth 100000 in
theorem turnTerm_many (wide vars op : Int) (v : Value) (hm : manyOf op ≠ 1) (w : World) :
    Calls Tryd.prog 40 #[.int .i64 wide, .int .i64 vars, .int .i64 op, v] w fun e w' => e = .returned (.tuple #[.slice none 0 0, .bool false]) ∧ Below w.heap.size w w' := by
  have g1 := l2Need_any op w
  have hml := manyOf_le op
  have hne : ((manyOf op : Int) != 1) = true := bne_iff_ne.2 (by omega)
  clear hm
  generalize manyOf op = m at *
  generalize partOf op = q at *
  generalize ownOf op = o at *
  go_enter Tryd.func40, Tryd.ntmps40
  go_wp2_with fail
  refine g1.mono ?_
  rintro e w1 ⟨rfl, rfl⟩
  clear g1
  go_wp2_with fail
  go_ret2
  exact ⟨rfl, Below.refl _ _⟩
set_option maxRecDepth 100000 in
theorem turnTerm_kind (wide vars op : Int) (v : Value) (a : List Nd) (hm : manyOf op = 1) (hkd : kindL wide vars a ≠ partOf op) (w : World) (hN : NodesAt w v a) :
    Calls Tryd.prog 40 #[.int .i64 wide, .int .i64 vars, .int .i64 op, v] w fun e w' => e = .returned (.tuple #[.slice none 0 0, .bool false]) ∧ Below w.heap.size w w' := by
  have g1 := l2Need_any op w
  rw [hm] at g1
  have g2 := l2Kind_any wide vars v a w hN
  have hne : (kindL wide vars a != partOf op) = true := bne_iff_ne.2 hkd
  clear hm hkd hN
  generalize kindL wide vars a = kk at *
  generalize partOf op = q at *
  generalize ownOf op = o at *
  go_enter Tryd.func40, Tryd.ntmps40
  go_wp2_with fail
  refine g1.mono ?_
  rintro e w1 ⟨rfl, rfl⟩
  clear g1
  go_wp2_with fail
  refine g2.mono ?_
  rintro e w2 ⟨rfl, hb2⟩
  have HB : Hid (Below w1.heap.size w1 w2) := hb2
  clear g2 hb2
  go_wp2_with fail
  go_ret2
  exact ⟨rfl, HB.out⟩
theorem kind_pos {wide vars op : Int} {a : List Nd} (h : kindL wide vars a = partOf op) (hm : manyOf op = 1 ∨ manyOf op = 2) : 1 ≤ a.length := by
  by_cases h0 : 1 ≤ a.length
  · exact h0
  · have h1 : kindL wide vars a = 0 := kind_out (fun hh => h0 hh.2.2.2.1)
    rw [h1] at h
    have h2 : partOf op = 1 ∨ partOf op = 2 := by
      unfold manyOf at hm
      unfold partOf
      (repeat' split at hm) <;> (repeat' split) <;> omega
    omega
def saidTurn (wide vars op : Int) (a : List Nd) : Bool := decide (manyOf op = 1 ∧ kindL wide vars a = partOf op ∧ 0 < kindL wide vars (a ++ [(op, 0)]))
theorem turnTerm_any (wide vars op : Int) (ho0 : -9223372036854775808 ≤ op) (ho1 : op ≤ 9223372036854775807) (v : Value) (a : List Nd) (hl : a.length ≤ 1048576) (w : World) (hN : NodesAt w v a) :
    Calls Tryd.prog 40 #[.int .i64 wide, .int .i64 vars, .int .i64 op, v] w fun e w' => ∃ v', e = .returned (.tuple #[v', .bool (saidTurn wide vars op a)]) ∧ OwnNodes w' w.heap.size v' (turnL wide vars op a) ∧ Below w.heap.size w w' := by
  unfold saidTurn turnL
  by_cases hm : manyOf op = 1
  · by_cases hkd : kindL wide vars a = partOf op
    · rw [if_pos ⟨hm, hkd⟩]
      have hl1 := kind_pos hkd (Or.inl hm)
      obtain ⟨hok, _, hN⟩ := hN
      rcases hN with ⟨rfl, _⟩ | ⟨b, off, cap, rfl, hlt, hc⟩
      · simp at hl1
      · have e1 : decide (manyOf op = 1 ∧ kindL wide vars a = partOf op ∧ 0 < kindL wide vars (a ++ [(op, 0)])) = decide (0 < kindL wide vars (a ++ [(op, 0)])) := by
          simp [hm, hkd]
        rw [e1]
        exact turnTerm_yes wide vars op ho0 ho1 b off cap a hok hl hm hkd w hlt hc
    · rw [if_neg (fun h => hkd h.2), decide_eq_false (fun h => hkd h.2.1)]
      refine (turnTerm_kind wide vars op v a hm hkd w hN).mono ?_
      rintro e w' ⟨rfl, hb⟩
      exact ⟨_, rfl, World.ownsRow_nil _ _ _ _, hb⟩
  · rw [if_neg (fun h => hm h.1), decide_eq_false (fun h => hm h.1)]
    refine (turnTerm_many wide vars op v hm w).mono ?_
    rintro e w' ⟨rfl, hb⟩
    exact ⟨_, rfl, World.ownsRow_nil _ _ _ _, hb⟩
end Go.Proofs.YtkmgcgmeibhnmaaDoor
