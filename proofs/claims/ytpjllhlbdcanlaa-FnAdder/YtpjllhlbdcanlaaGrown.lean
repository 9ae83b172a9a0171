/-
  A copy behind which gates can be laid: grown of the program, l4Own of the model.
-/
import Derived.Test.YtpjllhlbdcanlaaSides
namespace Go.Proofs.Ytpjllhlbdcanlaa
open Go Go.RowKit
open M
set_option linter.unusedVariables false
set_option linter.unusedSimpArgs false

theorem gates_from {w : World} {g : Nat} {t : List Gt} (hc : ∀ (i : Nat) (x : Gt), t[i]? = some x → GateAt w g (0 + i * 3) x) : ∀ (j : Nat) (u : Value), (flat3 t)[j]? = some u → w.cell? ((⟨g, 0, none⟩ : Addr).add j) = some u := by
  intro j u hu
  have hj : j < (flat3 t).length := (List.getElem?_eq_some_iff.1 hu).1
  rw [flat3_len] at hj
  have hi : j / 3 < t.length := by omega
  obtain ⟨x, hx⟩ : ∃ x, t[j / 3]? = some x := ⟨t[j / 3], List.getElem?_eq_getElem hi⟩
  obtain ⟨e0, e1, e2⟩ := flat3_at t (j / 3) x hx
  obtain ⟨d0, d1, d2⟩ := hc (j / 3) x hx
  have ea : (⟨g, 0, none⟩ : Addr).add j = ⟨g, j, none⟩ := by
    unfold Addr.add
    by_cases h0 : j = 0
    · subst h0
      simp
    · simp [h0]
  rw [ea]
  rw [Nat.zero_add] at d0 d1 d2
  have hr : j % 3 = 0 ∨ j % 3 = 1 ∨ j % 3 = 2 := by omega
  rcases hr with h | h | h
  · rw [show j / 3 * 3 = j from by omega] at e0 d0
    rw [hu] at e0
    rw [d0, e0]
  · rw [show j / 3 * 3 + 1 = j from by omega] at e1 d1
    rw [hu] at e1
    rw [d1, e1]
  · rw [show j / 3 * 3 + 2 = j from by omega] at e2 d2
    rw [hu] at e2
    rw [d2, e2]
/-- what is appended to a list of one's own: nothing, or a row -/
def Src (w : World) (v : Value) (n : Nat) (xs : List Value) : Prop := (n = 0 ∧ xs = [] ∧ v = .slice none 0 0) ∨ ∃ g cap : Nat, v = .slice (some ⟨g, 0, none⟩) n cap ∧ g < w.heap.size ∧ ∀ (j : Nat) (u : Value), xs[j]? = some u → w.cell? ((⟨g, 0, none⟩ : Addr).add j) = some u
theorem src_gates {w : World} {v : Value} {t : List Gt} (h1 : GatesAt w v t) (h2 : Strong w v t.length) : Src w v t.length (flat3 t) := by
  rcases strong_gates h1 h2 with ⟨e, hv⟩ | ⟨g, cap, hv, hg, _, hc⟩
  · subst e
    exact Or.inl ⟨rfl, rfl, hv⟩
  · exact Or.inr ⟨g, cap, hv, hg, gates_from hc⟩
theorem src_ints {w : World} {v : Value} {t : List Int} (h1 : IntsAt w v t) (h2 : Strong w v t.length) : Src w v t.length (cellsI t) := by
  rcases strong_ints h1 h2 with ⟨e, hv⟩ | ⟨g, cap, hv, hg, _, hc⟩
  · subst e
    exact Or.inl ⟨rfl, rfl, hv⟩
  · exact Or.inr ⟨g, cap, hv, hg, ints_from hc⟩
theorem Src.below {w w' : World} {v : Value} {n : Nat} {xs : List Value} (h : Src w v n xs) (hb : Below w.heap.size w w') : Src w' v n xs := by
  rcases h with h | ⟨g, cap, hv, hg, hc⟩
  · exact Or.inl h
  · refine Or.inr ⟨g, cap, hv, Nat.lt_of_lt_of_le hg hb.size, fun j u hu => ?_⟩
    have h1 := hc j u hu
    have hsp : ((⟨g, 0, none⟩ : Addr).add j).block = g := by unfold Addr.add; split <;> rfl
    rw [hb.cell (p := (⟨g, 0, none⟩ : Addr).add j) (by rw [hsp]; exact hg)]
    exact h1
theorem wp_append_src {P : Program} {o : Oper} {a : Act} {w : World} {K : Act → World → Prop} {Q : Exit → Act → World → Prop} (s x : Operand) (t : TypeId)
    (ho : o.op = .call { callee := .builtin .append, args := #[s, x], argTypes := #[t, t] })
    (base : Nat) (e : TypeId) (i : TypeInfo) (z : Value) (size bytes : Nat) (ht : P.underlying t = some (.slice e)) (hi : P.info? e = some i) (hz : i.zero = some z)
    (hsize : i.size = size) (hby : i.bytes = bytes) (hzs : z.cells.size = size) (hsz : 0 < size)
    (v : Value) (n : Nat) (xs : List Value) (hs : a.eval s = v) (hown : w.ownsRow base e size v n xs)
    (u : Value) (m : Nat) (news : List Value) (hx : a.eval x = u) (hsrc : Src w u m news) (hl : news.length = m * size) (h1 : ∀ u ∈ news, u.oneCell' = true)
    (h63 : n + m ≤ maxLen) (hbytes : (n + m) * bytes ≤ 140737488355328) (hbase : base ≤ w.heap.size)
    (h : ∀ v' w', w'.ownsRow base e size v' (n + m) (xs ++ news) → w.grownBy w' v.ownBlock → K (a.put o.dst v') w') : o.wp P a w K Q := by
  rcases hsrc with ⟨rfl, rfl, rfl⟩ | ⟨g, cap, rfl, _, hc⟩
  · have hrun := run_append_owned_none (P := P) (w := w) base t o.type e i size ht hi v n xs hown
    unfold Oper.wp
    simp [execOp, ho, resolve, invoke, builtin, hs, hx, hrun, Result.andThen]
    refine h v w ?_ (grown_refl _ _)
    rw [List.append_nil]
    exact hown
  · exact wp_append_own w s x t ho base e i z size bytes ht hi hz hsize hby hzs hsz v n xs hs hown ⟨g, 0, none⟩ m cap news hx hl hc h1 h63 hbytes hbase (fun v' w' h2 h3 _ => h v' w' h2 h3)
theorem step_append_src {P : Program} {ops : Array Oper} {o : Oper} {a : Act} {w : World} {K : Act → World → Prop} {Q : Exit → Act → World → Prop} {E : Prop} (hgd : o.guard = none) (s x : Operand) (t : TypeId)
    (ho : o.op = .call { callee := .builtin .append, args := #[s, x], argTypes := #[t, t] })
    (base : Nat) (e : TypeId) (i : TypeInfo) (z : Value) (size bytes : Nat) (ht : P.underlying t = some (.slice e)) (hi : P.info? e = some i) (hz : i.zero = some z)
    (hsize : i.size = size) (hby : i.bytes = bytes) (hzs : z.cells.size = size) (hsz : 0 < size)
    (v : Value) (n : Nat) (xs : List Value) (hs : a.eval s = v) (hown : w.ownsRow base e size v n xs)
    (u : Value) (m : Nat) (news : List Value) (hx : a.eval x = u) (hsrc : Src w u m news) (hl : news.length = m * size) (h1 : ∀ u ∈ news, u.oneCell' = true)
    (h63 : n + m ≤ maxLen) (hbytes : (n + m) * bytes ≤ 140737488355328) (hbase : base ≤ w.heap.size)
    (h : ∀ v' w', w'.ownsRow base e size v' (n + m) (xs ++ news) → w.grownBy w' v.ownBlock → K (a.put o.dst v') w') :
    if Region.wanted o (yielded ops a.tmps) = true then Oper.wp P o a w K Q else E := by
  have hw : Region.wanted o (yielded ops a.tmps) = true := by simp [Region.wanted, hgd]
  rw [if_pos hw]
  exact wp_append_src s x t ho base e i z size bytes ht hi hz hsize hby hzs hsz v n xs hs hown u m news hx hsrc hl h1 h63 hbytes hbase h
theorem wpList_append_src {P : Program} {ops : Array Oper} {rest : List Oper} {o : Oper} {a : Act} {w : World} {Q : Exit → Act → World → Prop} (hgd : o.guard = none) (s x : Operand) (t : TypeId)
    (ho : o.op = .call { callee := .builtin .append, args := #[s, x], argTypes := #[t, t] })
    (base : Nat) (e : TypeId) (i : TypeInfo) (z : Value) (size bytes : Nat) (ht : P.underlying t = some (.slice e)) (hi : P.info? e = some i) (hz : i.zero = some z)
    (hsize : i.size = size) (hby : i.bytes = bytes) (hzs : z.cells.size = size) (hsz : 0 < size)
    (v : Value) (n : Nat) (xs : List Value) (hs : a.eval s = v) (hown : w.ownsRow base e size v n xs)
    (u : Value) (m : Nat) (news : List Value) (hx : a.eval x = u) (hsrc : Src w u m news) (hl : news.length = m * size) (h1 : ∀ u ∈ news, u.oneCell' = true)
    (h63 : n + m ≤ maxLen) (hbytes : (n + m) * bytes ≤ 140737488355328) (hbase : base ≤ w.heap.size)
    (h : ∀ v' w', w'.ownsRow base e size v' (n + m) (xs ++ news) → w.grownBy w' v.ownBlock → wpList P ops Q rest (a.put o.dst v') w') : wpList P ops Q (o :: rest) a w :=
  wpList_plain hgd fun _ hK => wp_append_src s x t ho base e i z size bytes ht hi hz hsize hby hzs hsz v n xs hs hown u m news hx hsrc hl h1 h63 hbytes hbase (fun v' w' h2 h3 => hK _ _ (h v' w' h2 h3))
theorem Src.grown {w w' : World} {v : Value} {n : Nat} {xs : List Value} (h : Src w v n xs) (g : w.grownBy w' none) : Src w' v n xs := h.below ((Below.refl _ _).grown g (Nat.le_refl _) (fun k hk => by cases hk))
theorem Src.drew {w : World} {v : Value} {n : Nat} {xs : List Value} (h : Src w v n xs) : Src w.drew v n xs := h
set_option maxRecDepth 100000 in
set_option maxHeartbeats 4000000 in
theorem grown_any (v : Value) (c : Ci) (hI0 : 0 ≤ c.1) (hI1 : c.1 ≤ 16) (hG : c.2.1.length ≤ 300) (hO : c.2.2.length ≤ 16) (w : World) (h : AtC w v c) :
    Calls Try.prog 97 #[v] w fun e w' => ∃ b, e = .returned (.pointer (some ⟨b, 0, none⟩)) ∧ Bld w' w.heap.size w'.heap.size b 27 c ∧ Below w.heap.size w w' := by
  obtain ⟨_, gw, ov, hv, h1, h2, h3, h4⟩ := h
  obtain ⟨ga, gc, hgw⟩ := h1.shape
  obtain ⟨oa, oc, ho⟩ := h2.shape
  have sg := src_gates h1 h3
  have so := src_ints h2 h4
  clear h1 h2 h3 h4
  subst hgw ho hv
  obtain ⟨ins, gs, os⟩ := c
  simp only at *
  obtain ⟨i0, hif, hz0, hz1, hz2⟩ := info_parts infoInt
  obtain ⟨j0, hjf, hy0, hy1, hy2⟩ := info_parts infoGate
  have hb0 : Below w.heap.size w (w.alloc (.cells #[.int .i64 ins, .slice ga gs.length gc, .slice oa os.length oc] 27)) := (Below.refl _ _).alloc (Nat.le_refl _) _
  have x0 := box3_alloc w 27 (.int .i64 ins) (.slice ga gs.length gc) (.slice oa os.length oc)
  have hs0 := x0.lt
  have sg0 := (sg.below hb0).drew
  have so0 := (so.below hb0).drew
  clear sg so
  obtain ⟨c0, c1, c2⟩ := x0.cells
  have hh := x0.heap
  have hs1 : (w.alloc (.cells #[.int .i64 ins, .slice ga gs.length gc, .slice oa os.length oc] 27)).heap.size = w.heap.size + 1 := by simp only [World.size_alloc]
  have hsb : w.heap.size ≤ (w.alloc (.cells #[.int .i64 ins, .slice ga gs.length gc, .slice oa os.length oc] 27)).drew.heap.size := by
    show w.heap.size ≤ (w.alloc (.cells #[.int .i64 ins, .slice ga gs.length gc, .slice oa os.length oc] 27)).heap.size
    omega
  have HK : Hid (∀ w5 : World, ((w.alloc (.cells #[.int .i64 ins, .slice ga gs.length gc, .slice oa os.length oc] 27)).drew).grownBy w5 none → Box3 w5 w.heap.size 27 (.int .i64 ins) (.slice ga gs.length gc) (.slice oa os.length oc) ∧ Src w5 (.slice oa os.length oc) os.length (cellsI os) ∧ w.heap.size ≤ w5.heap.size ∧ Below w.heap.size w w5) := by
    intro w5 g5
    have hx5 : Box3 w5 w.heap.size 27 (.int .i64 ins) (.slice ga gs.length gc) (.slice oa os.length oc) := Box3.grown (w := (w.alloc (.cells #[.int .i64 ins, .slice ga gs.length gc, .slice oa os.length oc] 27)).drew) ⟨x0.heap⟩ g5 (fun e => by cases e)
    exact ⟨hx5, so0.grown g5, Nat.le_trans hsb g5.size, hb0.drew.grown g5 hsb (fun k hk => by cases hk)⟩
  have HE : Hid (∀ (w5 : World) (v5 : Value) (w6 : World) (v6 : Value), ((w.alloc (.cells #[.int .i64 ins, .slice ga gs.length gc, .slice oa os.length oc] 27)).drew).grownBy w5 none → w5.ownsRow w.heap.size 128 3 v5 gs.length (flat3 gs) → w5.grownBy w6 none → w6.ownsRow w.heap.size 3 1 v6 os.length (cellsI os) → Box3 w6 w.heap.size 27 (.int .i64 ins) (.slice ga gs.length gc) (.slice oa os.length oc) ∧ Hid (Bld (w6.alloc (.cells #[.int .i64 ins, v5, v6] 27)) w.heap.size (w6.alloc (.cells #[.int .i64 ins, v5, v6] 27)).heap.size w6.heap.size 27 (ins, gs, os) ∧ Below w.heap.size w (w6.alloc (.cells #[.int .i64 ins, v5, v6] 27)))) := by
    intro w5 v5 w6 v6 g5 o5 g6 o6
    obtain ⟨k1, k2, k3, k4⟩ := HK.out w5 g5
    have hb6 : Below w.heap.size w w6 := k4.grown g6 k3 (fun k hk => by cases hk)
    have o5' : w6.ownsRow w.heap.size 128 3 v5 gs.length (flat3 gs) := owns_below o5 ((Below.refl _ _).grown g6 (Nat.le_refl _) (fun k hk => by cases hk))
    refine ⟨k1.grown g6 (fun e => by cases e), ⟨hb6.size, v5, v6, box3_alloc _ _ _ _ _, o5'.alloc _, o6.alloc _, fun k hk => ?_⟩, hb6.alloc hb6.size _⟩
    have := (own_block o6 hk).2
    rw [World.size_alloc]
    omega
  have sgl : (flat3 gs).length = gs.length * 3 := flat3_len gs
  have sol : (cellsI os).length = os.length * 1 := by simp [cellsI]
  clear x0
  go_enter Try.func97, Try.ntmps97
  go_wp2_with fail
  go_region_law (first | (refine step_append_src rfl _ _ 24 rfl w.heap.size 128 j0 (.agg #[.int .i64 0, .int .i64 0, .int .i64 0]) 3 24 Try.underlying24 hjf hy0 hy1 hy2 rfl (by decide) (.slice none 0 0) 0 [] (by simp [Act.eval, Act.put]) (World.ownsRow_nil _ _ _ _) (.slice ga gs.length gc) gs.length (flat3 gs) (by simp [Act.eval, Act.put]) sg0 sgl (flat3_one gs) (by unfold maxLen; omega) (by omega) hsb ?_; intro v5 w5 own5 grow5; rw [Nat.zero_add, List.nil_append] at own5; obtain ⟨k1, k2, k3, k4⟩ := HK.out w5 grow5; obtain ⟨ka0, ka1, ka2⟩ := k1.cells; have kh := k1.heap; have klt := k1.lt; obtain ⟨va5, vc5, hv5⟩ := own_shape own5; subst hv5; have OW5 : Hid _ := own5; have GR5 : Hid _ := grow5; clear k1 k4 own5 grow5) | (refine step_append_src rfl _ _ 25 rfl w.heap.size 3 i0 (.int .i64 0) 1 8 Try.underlying25 hif hz0 hz1 hz2 rfl (by decide) (.slice none 0 0) 0 [] (by simp [Act.eval, Act.put]) (World.ownsRow_nil _ _ _ _) (.slice oa os.length oc) os.length (cellsI os) (by simp [Act.eval, Act.put]) k2 sol (ints_one os) (by unfold maxLen; omega) (by omega) k3 ?_; intro v6 w6 own6 grow6; rw [Nat.zero_add, List.nil_append] at own6; obtain ⟨l1, l2⟩ := HE.out w5 _ w6 v6 GR5.out OW5.out grow6 own6; obtain ⟨la0, la1, la2⟩ := l1.cells; have lh := l1.heap; have llt := l1.lt; obtain ⟨va6, vc6, hv6⟩ := own_shape own6; subst hv6; clear own6 grow6 l1))
  all_goals
    go_wp2_with fail
    go_ret
    exact ⟨_, rfl, l2.out.1, l2.out.2⟩
end Go.Proofs.Ytpjllhlbdcanlaa
