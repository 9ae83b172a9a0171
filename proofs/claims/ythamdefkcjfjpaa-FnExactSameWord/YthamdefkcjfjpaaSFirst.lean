/-
  The model's cuts of a word: l9First, l1Own.
-/
import Derived.Test.YthamdefkcjfjpaaSLasso
import Derived.Test.YthamdefkcjfjpaaPut
import Derived.Test.YthamdefkcjfjpaaIntSS
namespace Go.Proofs.Ythamdefkcjfjpaa
open Go Go.RowKit
open M
set_option linter.unusedVariables false
set_option linter.unusedSimpArgs false

theorem own2_lt {w : World} {B : Nat} {v : Value} {t : List Int} (h : OwnInts2 w B v t) (k : Nat) (hk : v.ownBlock = some k) : B ≤ k ∧ k < w.heap.size := own_block h hk
set_option maxRecDepth 100000 in
set_option maxHeartbeats 4000000 in
theorem l9First_any (v : Value) (l : La) (hg : goodLa l = true) (a n : Nat) (ha : a + n ≤ 2000) (w : World) (h : AtLa w v l) :
    Calls Try.prog 52 #[v, .int .i64 a, .int .i64 n] w fun e w' => ∃ u, e = .returned u ∧ OwnInts2 w' w.heap.size u (unrL l a n) ∧ Below w.heap.size w w' := by
  have HAT : Hid (∀ j : Nat, a + j ≤ 2000 → ∀ w1 : World, Below w.heap.size w w1 → Calls Try.prog 61 #[v, .int .i64 ((a : Int) + (j : Int))] w1 fun e w' => e = .returned (.int .i64 (letL l (a + j))) ∧ Below w1.heap.size w1 w') := fun j hj w1 hb => l9At_any v l hg (a + j) hj w1 (h.below hb)
  obtain ⟨ga, gn, gc, oa, on, oc, rfl⟩ := h.shape
  have HB0 : Hid (Below w.heap.size w (w.alloc (.cells #[.slice ga gn gc, .slice oa on oc] 26))) := (Below.refl _ _).alloc (Nat.le_refl _) _
  have x0 := box2_alloc w 26 (.slice ga gn gc) (.slice oa on oc)
  have hw0z : (w.alloc (.cells #[.slice ga gn gc, .slice oa on oc] 26)).heap.size = w.heap.size + 1 := World.size_alloc _ _
  have HXP : Hid (∀ w3, Below (w.heap.size + 1) (w.alloc (.cells #[.slice ga gn gc, .slice oa on oc] 26)) w3 → Box2 w3 w.heap.size 26 (.slice ga gn gc) (.slice oa on oc)) := fun w3 hb3 => x0.below hb3 (by omega)
  have HBX0 : Hid (Below (w.heap.size + 1) (w.alloc (.cells #[.slice ga gn gc, .slice oa on oc] 26)) (w.alloc (.cells #[.slice ga gn gc, .slice oa on oc] 26))) := Below.refl _ _
  obtain ⟨i0, hi, hz0, hz1, hz2⟩ := info_parts infoInt
  clear h x0 hg
  go_enter Try.func52, Try.ntmps52
  go_wp2_with fail
  generalize w.alloc (.cells #[.slice ga gn gc, .slice oa on oc] 26) = w0 at *
  go_loopw [7, 8] (fun v i wr => ∃ j : Nat, j ≤ n ∧ i = .int .i64 ((a : Int) + (j : Int)) ∧ Hid (OwnInts2 wr (w.heap.size + 1) v (unrL l a j)) ∧ Hid (Below w.heap.size w wr) ∧ Hid (Below (w.heap.size + 1) w0 wr)) (fun _ i _ => a + n - (intOf i).toNat)
  case atStart => exact ⟨0, by omega, by simp, World.ownsRow_nil _ _ _ _, HB0, HBX0⟩
  case round =>
    obtain ⟨j, hj, rfl, HO, HB, HBX⟩ := hrel
    clear HB0 HBX0
    obtain ⟨a0, a1⟩ := (HXP.out _ HBX.out).cells
    have ah := (HXP.out _ HBX.out).heap
    have al := (HXP.out _ HBX.out).lt
    by_cases hlt : j < n
    · have g0 := HAT.out j (by omega) wr HB.out
      obtain ⟨q, hq⟩ : ∃ q : Int, (a : Int) + (j : Int) = q := ⟨_, rfl⟩
      have hq0 : 0 ≤ q := by omega
      have hq1 : q < (a : Int) + (n : Int) := by omega
      have HQ : Hid (q = (a : Int) + (j : Int)) := hq.symm
      have HS : Hid (unrL l a (j + 1) = unrL l a j ++ [letL l (a + j)]) := unrL_snoc l a j
      have hll : (unrL l a j).length = j := unrL_len l a j
      rw [hq] at g0 ⊢
      clear hq
      generalize letL l (a + j) = X at *
      go_wp2_with fail
      refine g0.mono ?_
      rintro e w5 ⟨rfl, hs⟩
      have HB5 : Hid (Below w.heap.size w w5) := HB.out.trans (hs.mono HB.out.size)
      have HBX5 : Hid (Below (w.heap.size + 1) w0 w5) := HBX.out.trans (hs.mono (by have := HBX.out.size; omega))
      have HW5 : Hid (OwnInts2 w5 (w.heap.size + 1) u7 (unrL l a j)) := owns_below HO.out hs
      have own1 : (w5.alloc (.cells #[.int .i64 X] 3)).ownsRow (w.heap.size + 1) 3 1 u7 (unrL l a j).length (cellsI (unrL l a j)) := World.ownsRow.alloc HW5.out _
      have cellsN := oneI_cells w5 X
      have hsz5 := HB5.out.size
      have hszx5 := HBX5.out.size
      clear g0 hs a0 a1 ah al HO HB HBX HAT
      go_wp2_with (at_builtin; refine wpList_append_own _ rfl _ _ 24 rfl (w.heap.size + 1) 3 i0 (.int .i64 0) 1 8 Try.underlying24 hi hz0 hz1 hz2 rfl (by decide) _ _ _ rfl own1 ⟨w5.heap.size, 0, none⟩ 1 1 [.int .i64 X] rfl rfl cellsN (ints_one [X]) (by unfold maxLen; omega) (by omega) (by simp; omega) ?_)
      intro v7 w7 own7 grow7 _
      have HB7 : Hid (Below w.heap.size w w7) := (HB5.out.alloc HB5.out.size _).grown grow7 (by simp; omega) (fun k hk => by have := (own2_lt HW5.out k hk).1; omega)
      have HBX7 : Hid (Below (w.heap.size + 1) w0 w7) := (HBX5.out.alloc (by omega) _).grown grow7 (by simp; omega) (fun k hk => (own2_lt HW5.out k hk).1)
      have HO7 : Hid (OwnInts2 w7 (w.heap.size + 1) v7 (unrL l a (j + 1))) := by
        show OwnInts2 _ _ _ _
        rw [HS.out]
        have e1 : (unrL l a j ++ [X]).length = j + 1 := by
          rw [List.length_append, hll]
          rfl
        have e2 : cellsI (unrL l a j ++ [X]) = cellsI (unrL l a j) ++ [.int .i64 X] := by simp [cellsI]
        unfold OwnInts2
        rw [e1, e2]
        exact own7
      clear own1 own7 grow7 cellsN
      have hq2 : q ≤ 2000 := by omega
      have HQ1 : Hid (q + 1 = (a : Int) + ((j + 1 : Nat) : Int)) := by
        have := HQ.out
        show q + 1 = _
        omega
      go_wp2_with fail
      go_roundw
      case rel => exact ⟨j + 1, by omega, by rw [HQ1.out], HO7, HB7, HBX7⟩
      case measure => have := HQ.out; simp [intOf]; omega
    · obtain rfl : j = n := by omega
      clear HAT
      go_wp2_with fail
      go_ret
      exact ⟨_, rfl, HO.out.low (Nat.le_succ _), HB.out⟩
/-- what is appended to a list of one's own: nothing, or a row from anywhere in a block -/
def SrcO (w : World) (v : Value) (n : Nat) (xs : List Value) : Prop := (n = 0 ∧ xs = [] ∧ v = .slice none 0 0) ∨ ∃ (g off cap : Nat), v = .slice (some ⟨g, off, none⟩) n cap ∧ (0 < n → g < w.heap.size) ∧ ∀ (j : Nat) (u : Value), xs[j]? = some u → w.cell? ((⟨g, off, none⟩ : Addr).add j) = some u
theorem add_eq (g off j : Nat) : (⟨g, off, none⟩ : Addr).add j = ⟨g, off + j, none⟩ := by
  unfold Addr.add
  by_cases h0 : j = 0
  · subst h0
    simp
  · simp [h0]
theorem srcO_ints {w : World} {v : Value} {t : List Int} (h1 : IntsAt w v t) (h2 : Sol v) : SrcO w v t.length (cellsI t) := by
  rcases h1.2 with ⟨rfl, a, cap, hv⟩ | ⟨b, off, cap, hv, hlt, hc⟩
  · obtain ⟨a', n', c', e, hz, hb, _⟩ := h2
    rw [hv] at e
    injection e with e1 e2 e3
    subst e1 e2 e3
    cases a with
    | none => exact Or.inl ⟨rfl, rfl, by rw [hv, (hz rfl).2]⟩
    | some ad =>
      obtain ⟨b, off, s⟩ := ad
      have hs := hb _ rfl
      simp only at hs
      subst hs
      exact Or.inr ⟨b, off, cap, hv, fun h0 => absurd h0 (by simp), fun j u hu => by simp [cellsI] at hu⟩
  · refine Or.inr ⟨b, off, cap, hv, fun _ => hlt, fun j u hu => ?_⟩
    rw [add_eq]
    unfold cellsI at hu
    rw [List.getElem?_map, Option.map_eq_some_iff] at hu
    obtain ⟨x, hx, rfl⟩ := hu
    exact hc j x hx
theorem SrcO.below {w w' : World} {v : Value} {n : Nat} {xs : List Value} (h : SrcO w v n xs) (hn : xs.length = n) (hb : Below w.heap.size w w') : SrcO w' v n xs := by
  rcases h with h | ⟨g, off, cap, hv, hg, hc⟩
  · exact Or.inl h
  · refine Or.inr ⟨g, off, cap, hv, fun h0 => Nat.lt_of_lt_of_le (hg h0) hb.size, fun j u hu => ?_⟩
    have hj := (List.getElem?_eq_some_iff.1 hu).1
    have h1 := hc j u hu
    rw [add_eq] at h1 ⊢
    rw [hb.cell (p := ⟨g, off + j, none⟩) (hg (by omega))]
    exact h1
theorem SrcO.drew {w : World} {v : Value} {n : Nat} {xs : List Value} (h : SrcO w v n xs) : SrcO w.drew v n xs := h
theorem wp_append_srcO {P : Program} {o : Oper} {a : Act} {w : World} {K : Act → World → Prop} {Q : Exit → Act → World → Prop} (s x : Operand) (t : TypeId)
    (ho : o.op = .call { callee := .builtin .append, args := #[s, x], argTypes := #[t, t] })
    (base : Nat) (e : TypeId) (i : TypeInfo) (z : Value) (size bytes : Nat) (ht : P.underlying t = some (.slice e)) (hi : P.info? e = some i) (hz : i.zero = some z)
    (hsize : i.size = size) (hby : i.bytes = bytes) (hzs : z.cells.size = size) (hsz : 0 < size)
    (v : Value) (n : Nat) (xs : List Value) (hs : a.eval s = v) (hown : w.ownsRow base e size v n xs)
    (u : Value) (m : Nat) (news : List Value) (hx : a.eval x = u) (hsrc : SrcO w u m news) (hl : news.length = m * size) (h1 : ∀ u ∈ news, u.oneCell' = true)
    (h63 : n + m ≤ maxLen) (hbytes : (n + m) * bytes ≤ 140737488355328) (hbase : base ≤ w.heap.size)
    (h : ∀ v' w', w'.ownsRow base e size v' (n + m) (xs ++ news) → w.grownBy w' v.ownBlock → K (a.put o.dst v') w') : o.wp P a w K Q := by
  rcases hsrc with ⟨rfl, rfl, rfl⟩ | ⟨g, off, cap, rfl, _, hc⟩
  · have hrun := run_append_owned_none (P := P) (w := w) base t o.type e i size ht hi v n xs hown
    unfold Oper.wp
    simp [execOp, ho, resolve, invoke, builtin, hs, hx, hrun, Result.andThen]
    refine h v w ?_ (grown_refl _ _)
    rw [List.append_nil]
    exact hown
  · exact wp_append_own w s x t ho base e i z size bytes ht hi hz hsize hby hzs hsz v n xs hs hown ⟨g, off, none⟩ m cap news hx hl hc h1 h63 hbytes hbase (fun v' w' h2 h3 _ => h v' w' h2 h3)
theorem wpList_append_srcO {P : Program} {ops : Array Oper} {rest : List Oper} {o : Oper} {a : Act} {w : World} {Q : Exit → Act → World → Prop} (hgd : o.guard = none) (s x : Operand) (t : TypeId)
    (ho : o.op = .call { callee := .builtin .append, args := #[s, x], argTypes := #[t, t] })
    (base : Nat) (e : TypeId) (i : TypeInfo) (z : Value) (size bytes : Nat) (ht : P.underlying t = some (.slice e)) (hi : P.info? e = some i) (hz : i.zero = some z)
    (hsize : i.size = size) (hby : i.bytes = bytes) (hzs : z.cells.size = size) (hsz : 0 < size)
    (v : Value) (n : Nat) (xs : List Value) (hs : a.eval s = v) (hown : w.ownsRow base e size v n xs)
    (u : Value) (m : Nat) (news : List Value) (hx : a.eval x = u) (hsrc : SrcO w u m news) (hl : news.length = m * size) (h1 : ∀ u ∈ news, u.oneCell' = true)
    (h63 : n + m ≤ maxLen) (hbytes : (n + m) * bytes ≤ 140737488355328) (hbase : base ≤ w.heap.size)
    (h : ∀ v' w', w'.ownsRow base e size v' (n + m) (xs ++ news) → w.grownBy w' v.ownBlock → wpList P ops Q rest (a.put o.dst v') w') : wpList P ops Q (o :: rest) a w :=
  wpList_plain hgd fun _ hK => wp_append_srcO s x t ho base e i z size bytes ht hi hz hsize hby hzs hsz v n xs hs hown u m news hx hsrc hl h1 h63 hbytes hbase (fun v' w' h2 h3 => hK _ _ (h v' w' h2 h3))
set_option maxRecDepth 100000 in
theorem l1OwnO_any (a : Option Addr) (n cap : Nat) (os : List Int) (hn : os.length = n) (hO : n ≤ 100000) (w : World) (h : SrcO w (.slice a n cap) n (cellsI os)) :
    Calls Try.prog 53 #[.slice a n cap] w fun e w' => ∃ r, e = .returned r ∧ OwnInts2 w' w.heap.size r os ∧ Below w.heap.size w w' := by
  obtain ⟨i0, hif, hz0, hz1, hz2⟩ := info_parts infoInt
  have own0 := own_emptyI w w.heap.size (Nat.le_refl _)
  have hb0 : Below w.heap.size w (w.alloc (.cells #[] 3)) := (Below.refl _ _).alloc (Nat.le_refl _) _
  have sol : (cellsI os).length = n * 1 := by simp [cellsI, hn]
  have h0 := h.below (by omega) hb0
  have HN : Hid (os.length = n) := hn
  clear h hn
  go_enter Try.func53, Try.ntmps53
  go_wp2_with (at_builtin; refine wpList_append_srcO rfl _ _ 24 rfl w.heap.size 3 i0 (.int .i64 0) 1 8 Try.underlying24 hif hz0 hz1 hz2 rfl (by decide) _ _ _ rfl own0 (.slice a n cap) n (cellsI os) rfl h0 sol (ints_one os) (by unfold maxLen; omega) (by omega) hb0.size ?_)
  intro v5 w5 own5 grow5
  have HO : Hid (OwnInts2 w5 w.heap.size v5 os) := by
    show OwnInts2 _ _ _ _
    unfold OwnInts2
    rw [HN.out]
    exact own5
  have HB : Hid (Below w.heap.size w w5) := hb0.grown grow5 hb0.size (fun k hk => (own_block own0 hk).1)
  clear own5 grow5 own0 h0
  go_wp2_with fail
  go_ret
  exact ⟨_, rfl, HO.out, HB.out⟩
end Go.Proofs.Ythamdefkcjfjpaa
