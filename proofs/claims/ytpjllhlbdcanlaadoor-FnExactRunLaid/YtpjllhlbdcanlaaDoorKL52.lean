/-
  What only lays new blocks leaves all as it was; append at a slice that is full.
  Loops of laid gates: sums and comparisons, of the program and of the model.
  Whether two lists of wires can be reckoned with: goodSides of the program, l4Lists of the model.
  A copy behind which gates can be laid: grown of the program, l4Own of the model.
  The model's copy of a circuit: l1Own, l4Own.
  The model's comparison of signed numbers by gates: what two does with OpLessS.
  The program's product of wires.
  The model's product of wires.
  What the model's two lays for an op of two parts, op by op.
  What the model's two lays for an op of two parts, op by op.
  What the model's two lays for OpLessS.
  What the model's two lays for any op of two parts that can be laid out.
  The program's terms as they lie in memory: nodes that are pointed to, each with a row of pointers to its parts; S holds of all blocks that a tree uses.
  A region whose operations come up in whatever order, by an invariant; the program's nodeLayer.
-/
import Derived.Test.YtpjllhlbdcanlaaDoorKL51
import Derived.ArgAppend
import Derived.Deep.RegionHeldLaw
import Derived.Handy
import Derived.Test.YtpjllhlbdcanlaaDoorBut
import Derived.Deep.AppendLies
import Derived.Test.YtpjllhlbdcanlaaDoorKind
namespace Go.Proofs.YtpjllhlbdcanlaaDoor
open Go Go.RowKit
open M
set_option linter.unusedVariables false
set_option linter.unusedSimpArgs false

/-- append at a slice that is full: a new row -/
theorem wp_append_full {P : Program} {o : Oper} {a : Act} {w : World} {K : Act → World → Prop} {Q : Exit → Act → World → Prop} (s x : Operand) (t : TypeId)
    (ho : o.op = .call { callee := .builtin .append, args := #[s, x], argTypes := #[t, t] })
    (e : TypeId) (i : TypeInfo) (z : Value) (size bytes : Nat) (ht : P.underlying t = some (.slice e)) (hi : P.info? e = some i) (hz : i.zero = some z)
    (hsize : i.size = size) (hby : i.bytes = bytes) (hzs : z.cells.size = size) (hsz : 0 < size)
    (b : Addr) (n cap : Nat) (olds : List Value) (hs : a.eval s = .slice (some b) n cap) (hlo : olds.length = n * size) (holds : ∀ j u, olds[j]? = some u → w.cell? (b.add j) = some u)
    (ad : Addr) (m c : Nat) (news : List Value) (hx : a.eval x = .slice (some ad) m c) (hl : news.length = m * size) (hnews : ∀ j u, news[j]? = some u → w.cell? (ad.add j) = some u)
    (hg : cap < n + m) (h63 : n + m ≤ maxLen) (hbytes : (n + m) * bytes ≤ 140737488355328)
    (h : ∀ v' w', w'.ownsRow w.heap.size e size v' (n + m) (olds ++ news) → w.grownBy w' none → K (a.put o.dst v') w') : o.wp P a w K Q := by
  obtain ⟨v', w', hr, h2, h3⟩ := run_append_arg_grows (P := P) w t o.type e i z size bytes ht hi hz hsize hby hzs hsz b n cap olds hlo holds ad m c news hl hnews hg h63 hbytes
  unfold Oper.wp execOp
  simp only [ho, resolve, invoke, builtin, Sem.run_bind, Sem.run_pure, Result.andThen_ok, List.map_toArray, List.map_cons, List.map_nil, hs, hx, hr]
  exact h v' w' h2 h3
theorem step_append_full {P : Program} {ops : Array Oper} {o : Oper} {a : Act} {w : World} {K : Act → World → Prop} {Q : Exit → Act → World → Prop} {E : Prop} (hgd : o.guard = none) (s x : Operand) (t : TypeId)
    (ho : o.op = .call { callee := .builtin .append, args := #[s, x], argTypes := #[t, t] })
    (e : TypeId) (i : TypeInfo) (z : Value) (size bytes : Nat) (ht : P.underlying t = some (.slice e)) (hi : P.info? e = some i) (hz : i.zero = some z)
    (hsize : i.size = size) (hby : i.bytes = bytes) (hzs : z.cells.size = size) (hsz : 0 < size)
    (b : Addr) (n cap : Nat) (olds : List Value) (hs : a.eval s = .slice (some b) n cap) (hlo : olds.length = n * size) (holds : ∀ j u, olds[j]? = some u → w.cell? (b.add j) = some u)
    (ad : Addr) (m c : Nat) (news : List Value) (hx : a.eval x = .slice (some ad) m c) (hl : news.length = m * size) (hnews : ∀ j u, news[j]? = some u → w.cell? (ad.add j) = some u)
    (hg : cap < n + m) (h63 : n + m ≤ maxLen) (hbytes : (n + m) * bytes ≤ 140737488355328)
    (h : ∀ v' w', w'.ownsRow w.heap.size e size v' (n + m) (olds ++ news) → w.grownBy w' none → K (a.put o.dst v') w') :
    if Region.wanted o (yielded ops a.tmps) = true then Oper.wp P o a w K Q else E := by
  have hw : Region.wanted o (yielded ops a.tmps) = true := by simp [Region.wanted, hgd]
  rw [if_pos hw]
  exact wp_append_full s x t ho e i z size bytes ht hi hz hsize hby hzs hsz b n cap olds hs hlo holds ad m c news hx hl hnews hg h63 hbytes h
/-- of what was there nothing has turned -/
abbrev Bel (w w' : World) : Prop := Below w.heap.size w w'
theorem Bel.refl (w : World) : Bel w w := Below.refl _ _
theorem Bel.drew {u w : World} (h : Bel u w) : Bel u w.drew := Below.drew h
theorem Bel.alloc {u w : World} (h : Bel u w) (o : Obj) : Bel u (w.alloc o) := Below.alloc h (Below.size h) o
theorem Bel.grown {u w w' : World} (h : Bel u w) (g : w.grownBy w' none) : Bel u w' := Below.grown h g (Below.size h) (fun k hk => by cases hk)
theorem CellT.news {w : World} {g : Nat} {v : Value} (h : CellT w g 3 v) : ∀ (j : Nat) (u : Value), [v][j]? = some u → w.cell? ((⟨g, 0, none⟩ : Addr).add j) = some u := by
  intro j u hj
  match j, hj with
  | 0, hj =>
    simp at hj
    subst hj
    exact h.cell.2
  | j + 1, hj => simp at hj
/-- a row of two numbers that was laid -/
def CellT2 (w : World) (g : Nat) (x y : Int) : Prop := w.heap[g]? = some (.cells #[.int .i64 x, .int .i64 y] 3 (0, 0))
theorem CellT2.ints {w w' : World} {g : Nat} {x y : Int} (h : CellT2 w g x y) (hk : KeepC w w') : IntsAt w' (.slice (some ⟨g, 0, none⟩) 2 2) [x, y] := by
  have e := hk.block g _ _ _ h (by decide) (by decide) (by decide)
  refine ints_of_own (base := 0) (by simp) ⟨by simp [cellsI], Or.inr ⟨g, 2, _, rfl, by omega, e, by simp, by unfold maxLen; omega, by simp, by simp [cellsI]⟩⟩
theorem cellT2_alloc (w : World) (x y : Int) : CellT2 (w.alloc (.cells #[.int .i64 x, .int .i64 y] 3)) w.heap.size x y := by
  show (w.heap.push _)[w.heap.size]? = _
  simp
theorem cellT_alloc2 (w : World) (o : Obj) (t : TypeId) (v : Value) : CellT ((w.alloc o).alloc (.cells #[v] t)) (w.heap.size + 1) t v := by
  have h := cellT_alloc (w.alloc o) t v
  rw [World.size_alloc] at h
  exact h
theorem Bld.bel {w w' : World} {lo hi b : Nat} {e : TypeId} {c : Ci} (h : Bld w lo hi b e c) (k : Bel w w') : Bld w' lo hi b e c := by
  obtain ⟨q0, q1, q2, q3, q4, q5, q6⟩ := h
  exact ⟨q0, q1, q2, q3.below k q3.lt, owns_below q4 k, owns_below q5 k, q6⟩
end Go.Proofs.YtpjllhlbdcanlaaDoor

namespace Go.Proofs.YtpjllhlbdcanlaaDoor
open Go Go.RowKit
open M
set_option linter.unusedVariables false
set_option linter.unusedSimpArgs false

theorem lay_at (lo hi b : Nat) (ins : Int) (G : List Gt) (os : List Int) (S k x y : Int) (hS : ins + G.length = S) (hI0 : 0 ≤ ins) (hI1 : ins ≤ 16) (hn : G.length ≤ 1000) (w : World) (h : Bld w lo hi b 41 (ins, G, os)) :
    Calls Tryd.prog 117 #[.pointer (some ⟨b, 0, none⟩), .int .i64 k, .int .i64 x, .int .i64 y] w fun e w' => e = .returned (.int .i64 S) ∧ Bld w' lo hi b 41 (ins, G ++ [(k, x, y)], os) ∧ Below lo w w' ∧ KeepT 3 w w' := by
  have g := lay_any lo hi b (ins, G, os) k x y hI0 hI1 hn w h
  simp only at g
  rw [hS] at g
  exact g
theorem gate_at (lo hi b : Nat) (ins : Int) (G : List Gt) (os : List Int) (S k x y : Int) (hS : ins + G.length = S) (hI0 : 0 ≤ ins) (hI1 : ins ≤ 16) (hn : G.length ≤ 1000) (w : World) (h : Bld w lo hi b 99 (ins, G, os)) :
    Calls Tryd.prog 95 #[.pointer (some ⟨b, 0, none⟩), .int .i64 k, .int .i64 x, .int .i64 y] w fun e w' => e = .returned (.int .i64 S) ∧ Bld w' lo hi b 99 (ins, G ++ [(k, x, y)], os) ∧ Below lo w w' ∧ KeepT 3 w w' := by
  have g := gate_any lo hi b (ins, G, os) k x y hI0 hI1 hn w h
  simp only at g
  rw [hS] at g
  exact g
set_option maxRecDepth 100000 in
set_option maxHeartbeats 8000000 in
theorem iEq_any (lo hi b : Nat) (ins : Int) (gs : List Gt) (os : List Int) (av bv : Value) (a bb : List Int) (N : Int) (hN : ins + gs.length = N) (hI0 : 0 ≤ ins) (hI1 : ins ≤ 16) (hn : gs.length ≤ 300) (hl : a.length = bb.length) (hl16 : a.length ≤ 16) (w : World) (h : Bld w lo hi b 41 (ins, gs, os)) (hhi : hi ≤ w.heap.size)
    (ha : ∀ w', Below lo w w' → IntsAt w' av a) (hb : ∀ w', Below lo w w' → IntsAt w' bv bb) :
    Calls Tryd.prog 110 #[.pointer (some ⟨b, 0, none⟩), av, bv] w fun e w' => e = .returned (.int .i64 (onW N (N + 1) 3 2 a.length)) ∧ Bld w' lo hi b 41 (ins, gs ++ [(1, 1, 0)] ++ (eqG a bb N (N + 1)).1, os) ∧ Below lo w w' := by
  obtain ⟨aa, acap, hav, _⟩ := (ha w (Below.refl _ _)).opened
  obtain ⟨ba, bcap, hbv, _⟩ := (hb w (Below.refl _ _)).opened
  subst hav hbv
  have HA : Hid (∀ w', Below lo w w' → ∀ (i : Nat) (x : Int), a[i]? = some x → ∃ g off : Nat, aa = some ⟨g, off, none⟩ ∧ g < w'.heap.size ∧ w'.cell? ⟨g, off + i, none⟩ = some (.int .i64 x)) := fun w' hw i x hx => by
    obtain ⟨_, _, e, hc⟩ := (ha w' hw).opened
    injection e with e1 e2 e3
    subst e1
    exact hc i x hx
  have HBB : Hid (∀ w', Below lo w w' → ∀ (i : Nat) (x : Int), bb[i]? = some x → ∃ g off : Nat, ba = some ⟨g, off, none⟩ ∧ g < w'.heap.size ∧ w'.cell? ⟨g, off + i, none⟩ = some (.int .i64 x)) := fun w' hw i x hx => by
    obtain ⟨_, _, e, hc⟩ := (hb w' hw).opened
    injection e with e1 e2 e3
    subst e1
    exact hc i x hx
  have hlo := h.size
  have g1 := lay_at lo hi b ins gs os N 1 1 0 hN hI0 hI1 (by omega) w h
  clear ha hb h
  generalize hal : a.length = an at *
  rw [← hl]
  have HAL : Hid (a.length = an) := hal
  have HBL : Hid (bb.length = an) := hl.symm
  clear hal hl
  go_enter Tryd.func110, Tryd.ntmps110
  go_wp2_with fail
  refine g1.mono ?_
  rintro e w1 ⟨rfl, hB1, hb1, _⟩
  have HB1 : Hid _ := hB1
  have Hb1 : Hid _ := hb1
  clear g1 hB1 hb1
  go_wp2_with fail
  go_loopw [7, 15] (fun vn i wr => ∃ j : Nat, j ≤ an ∧ i = .int .i64 j ∧ vn = .int .i64 (onW N (N + 1) 3 2 j) ∧ Hid (Bld wr lo hi b 41 (ins, gs ++ [(1, 1, 0)] ++ (eqG (a.take j) (bb.take j) N (N + 1)).1, os)) ∧ Hid (Below lo w wr)) (fun _ i _ => an - (intOf i).toNat)
  case atStart =>
    refine ⟨0, by omega, rfl, rfl, ?_, Hb1⟩
    show Bld w1 lo hi b 41 (ins, gs ++ [(1, 1, 0)] ++ [], os)
    rw [List.append_nil]
    exact HB1.out
  case round =>
    obtain ⟨j, hj, rfl, rfl, HB, HBl⟩ := hrel
    clear HB1 Hb1
    by_cases hlt : j < an
    · have hal := HAL.out
      have hbl := HBL.out
      obtain ⟨x, hx⟩ : ∃ x, a[j]? = some x := ⟨a[j], List.getElem?_eq_getElem (by omega)⟩
      obtain ⟨y, hy⟩ : ∃ y, bb[j]? = some y := ⟨bb[j], List.getElem?_eq_getElem (by omega)⟩
      have hl1 : (a.take j).length = j := List.length_take_of_le (by omega)
      have hl2 : (bb.take j).length = j := List.length_take_of_le (by omega)
      have hsn := eqG_snoc (a.take j) (bb.take j) x y N (N + 1) (by rw [hl1, hl2])
      have hln := eqG_len (a.take j) (bb.take j) N (N + 1) (by rw [hl1, hl2])
      rw [hl1] at hsn hln
      have hta : a.take (j + 1) = a.take j ++ [x] := by rw [List.take_add_one, hx]; rfl
      have htb : bb.take (j + 1) = bb.take j ++ [y] := by rw [List.take_add_one, hy]; rfl
      rw [← hta, ← htb] at hsn
      obtain ⟨S0, hS⟩ : ∃ S0 : Int, N + 1 + 3 * (j : Int) = S0 := ⟨_, rfl⟩
      rw [hS] at hsn
      obtain ⟨C, hC⟩ : ∃ C : Int, onW N (N + 1) 3 2 j = C := ⟨_, rfl⟩
      rw [hC] at hsn ⊢
      obtain ⟨G, hG⟩ : ∃ G, gs ++ [(1, 1, 0)] ++ (eqG (a.take j) (bb.take j) N (N + 1)).1 = G := ⟨_, rfl⟩
      have hGl : ins + (G.length : Int) = S0 := by
        rw [← hG]
        simp only [List.length_append, hln, List.length_singleton]
        omega
      have hGn : G.length ≤ 900 := by omega
      obtain ⟨S1, hS1⟩ : ∃ S1 : Int, S0 + 1 = S1 := ⟨_, rfl⟩
      obtain ⟨S2, hS2⟩ : ∃ S2 : Int, S0 + 2 = S2 := ⟨_, rfl⟩
      have HNEW : Hid (gs ++ [(1, 1, 0)] ++ (eqG (a.take (j + 1)) (bb.take (j + 1)) N (N + 1)).1 = G ++ [(5, x, y)] ++ [(2, S0, 0)] ++ [(3, S1, C)]) := by
        show gs ++ [(1, 1, 0)] ++ (eqG (a.take (j + 1)) (bb.take (j + 1)) N (N + 1)).1 = _
        rw [hsn, ← hG]
        simp [eqOne, ← hS, ← hS1, ← hS2]
        try omega
      have HON : Hid (onW N (N + 1) 3 2 (j + 1) = S2) := by
        show (N + 1) + 3 * (j : Int) + 2 = S2
        omega
      rw [hG] at HB
      clear hsn hln hta htb hG hC hl1 hl2
      obtain ⟨ag, aoff, rfl, _, _⟩ := HA.out wr HBl.out j x hx
      obtain ⟨bg, boff, rfl, _, _⟩ := HBB.out wr HBl.out j y hy
      have HAC : Hid (∀ w', Below lo w w' → ag < w'.heap.size ∧ w'.cell? ⟨ag, aoff + j, none⟩ = some (.int .i64 x)) := fun w' hw => by
        obtain ⟨g, off, e, h1, h2⟩ := HA.out w' hw j x hx
        injection e with e1
        injection e1 with e2 e3
        subst e2 e3
        exact ⟨h1, h2⟩
      have HBC : Hid (∀ w', Below lo w w' → bg < w'.heap.size ∧ w'.cell? ⟨bg, boff + j, none⟩ = some (.int .i64 y)) := fun w' hw => by
        obtain ⟨g, off, e, h1, h2⟩ := HBB.out w' hw j y hy
        injection e with e1
        injection e1 with e2 e3
        subst e2 e3
        exact ⟨h1, h2⟩
      have hjA : (j : Int) < (an : Int) := by omega
      clear hx hy HA HBB
      obtain ⟨ax0, ac0⟩ := HAC.out _ HBl.out
      obtain ⟨bx0, bc0⟩ := HBC.out _ HBl.out
      go_wp2_with fail
      go_region_with (go_at_call 117; refine (lay_at lo hi b ins (G) os S0 5 x y (by first | omega | (simp only [List.length_append, List.length_singleton]; omega)) hI0 hI1 (by first | omega | (simp only [List.length_append, List.length_singleton]; omega)) _ ?_).mono ?_; (first | exact HB.out | exact HB.out.drew); rintro e w11 ⟨rfl, hB, hbl', hk'⟩; have HBw11 : Hid (Bld w11 lo hi b 41 (ins, G ++ [(5, x, y)], os)) := hB; have HBlw11 : Hid (Below lo w w11) := (by first | exact HBl.out.trans hbl' | exact HBl.out.drew.trans hbl'); clear hB hbl' hk')
      all_goals
        clear HB HBl
        go_wp2_with fail
        refine (lay_at lo hi b ins (G ++ [(5, x, y)]) os S1 2 S0 0 (by first | omega | (simp only [List.length_append, List.length_singleton]; omega)) hI0 hI1 (by first | omega | (simp only [List.length_append, List.length_singleton]; omega)) _ ?_).mono ?_
        · exact HBw11.out
        rintro e w12 ⟨rfl, hB, hbl', hk'⟩
        have HBw12 : Hid (Bld w12 lo hi b 41 (ins, G ++ [(5, x, y)] ++ [(2, S0, 0)], os)) := hB
        have HBlw12 : Hid (Below lo w w12) := HBlw11.out.trans hbl'
        clear hB hbl' hk' HBw11 HBlw11
        go_wp2_with fail
        refine (lay_at lo hi b ins (G ++ [(5, x, y)] ++ [(2, S0, 0)]) os S2 3 S1 C (by first | omega | (simp only [List.length_append, List.length_singleton]; omega)) hI0 hI1 (by first | omega | (simp only [List.length_append, List.length_singleton]; omega)) _ ?_).mono ?_
        · exact HBw12.out
        rintro e w13 ⟨rfl, hB, hbl', hk'⟩
        have HBw13 : Hid (Bld w13 lo hi b 41 (ins, G ++ [(5, x, y)] ++ [(2, S0, 0)] ++ [(3, S1, C)], os)) := hB
        have HBlw13 : Hid (Below lo w w13) := HBlw12.out.trans hbl'
        clear hB hbl' hk' HBw12 HBlw12
        have HBF : Hid (Bld _ lo hi b 41 (ins, gs ++ [(1, 1, 0)] ++ (eqG (a.take (j + 1)) (bb.take (j + 1)) N (N + 1)).1, os)) := (by have h1 := HBw13.out; rw [← HNEW.out] at h1; exact h1)
        clear HNEW HAC HBC HBw13
        go_wp2_with fail
        go_roundw
        case rel => exact ⟨j + 1, by omega, by go_num, by rw [HON.out], HBF, HBlw13⟩
        case measure => simp [intOf]; omega
    · obtain rfl : j = an := by omega
      have ha1 : a.take j = a := List.take_of_length_le (by have := HAL.out; omega)
      have hb1 : bb.take j = bb := List.take_of_length_le (by have := HBL.out; omega)
      rw [ha1, hb1] at HB
      clear HA HBB ha1 hb1
      go_wp2_with fail
      go_ret
      exact ⟨rfl, HB.out, HBl.out⟩
set_option maxRecDepth 100000 in
set_option maxHeartbeats 8000000 in
theorem iLess_any (lo hi b : Nat) (ins : Int) (gs : List Gt) (os : List Int) (av bv : Value) (a bb : List Int) (N : Int) (hN : ins + gs.length = N) (hI0 : 0 ≤ ins) (hI1 : ins ≤ 16) (hn : gs.length ≤ 300) (hl : a.length = bb.length) (hl16 : a.length ≤ 16) (w : World) (h : Bld w lo hi b 41 (ins, gs, os)) (hhi : hi ≤ w.heap.size)
    (ha : ∀ w', Below lo w w' → IntsAt w' av a) (hb : ∀ w', Below lo w w' → IntsAt w' bv bb) :
    Calls Tryd.prog 111 #[.pointer (some ⟨b, 0, none⟩), av, bv] w fun e w' => e = .returned (.int .i64 (onW N (N + 1) 6 5 a.length)) ∧ Bld w' lo hi b 41 (ins, gs ++ [(1, 0, 0)] ++ (lessG a bb N (N + 1)).1, os) ∧ Below lo w w' := by
  obtain ⟨aa, acap, hav, _⟩ := (ha w (Below.refl _ _)).opened
  obtain ⟨ba, bcap, hbv, _⟩ := (hb w (Below.refl _ _)).opened
  subst hav hbv
  have HA : Hid (∀ w', Below lo w w' → ∀ (i : Nat) (x : Int), a[i]? = some x → ∃ g off : Nat, aa = some ⟨g, off, none⟩ ∧ g < w'.heap.size ∧ w'.cell? ⟨g, off + i, none⟩ = some (.int .i64 x)) := fun w' hw i x hx => by
    obtain ⟨_, _, e, hc⟩ := (ha w' hw).opened
    injection e with e1 e2 e3
    subst e1
    exact hc i x hx
  have HBB : Hid (∀ w', Below lo w w' → ∀ (i : Nat) (x : Int), bb[i]? = some x → ∃ g off : Nat, ba = some ⟨g, off, none⟩ ∧ g < w'.heap.size ∧ w'.cell? ⟨g, off + i, none⟩ = some (.int .i64 x)) := fun w' hw i x hx => by
    obtain ⟨_, _, e, hc⟩ := (hb w' hw).opened
    injection e with e1 e2 e3
    subst e1
    exact hc i x hx
  have hlo := h.size
  have g1 := lay_at lo hi b ins gs os N 1 0 0 hN hI0 hI1 (by omega) w h
  clear ha hb h
  generalize hal : a.length = an at *
  rw [← hl]
  have HAL : Hid (a.length = an) := hal
  have HBL : Hid (bb.length = an) := hl.symm
  clear hal hl
  go_enter Tryd.func111, Tryd.ntmps111
  go_wp2_with fail
  refine g1.mono ?_
  rintro e w1 ⟨rfl, hB1, hb1, _⟩
  have HB1 : Hid _ := hB1
  have Hb1 : Hid _ := hb1
  clear g1 hB1 hb1
  go_wp2_with fail
  go_loopw [7, 18] (fun vn i wr => ∃ j : Nat, j ≤ an ∧ i = .int .i64 j ∧ vn = .int .i64 (onW N (N + 1) 6 5 j) ∧ Hid (Bld wr lo hi b 41 (ins, gs ++ [(1, 0, 0)] ++ (lessG (a.take j) (bb.take j) N (N + 1)).1, os)) ∧ Hid (Below lo w wr)) (fun _ i _ => an - (intOf i).toNat)
  case atStart =>
    refine ⟨0, by omega, rfl, rfl, ?_, Hb1⟩
    show Bld w1 lo hi b 41 (ins, gs ++ [(1, 0, 0)] ++ [], os)
    rw [List.append_nil]
    exact HB1.out
  case round =>
    obtain ⟨j, hj, rfl, rfl, HB, HBl⟩ := hrel
    clear HB1 Hb1
    by_cases hlt : j < an
    · have hal := HAL.out
      have hbl := HBL.out
      obtain ⟨x, hx⟩ : ∃ x, a[j]? = some x := ⟨a[j], List.getElem?_eq_getElem (by omega)⟩
      obtain ⟨y, hy⟩ : ∃ y, bb[j]? = some y := ⟨bb[j], List.getElem?_eq_getElem (by omega)⟩
      have hl1 : (a.take j).length = j := List.length_take_of_le (by omega)
      have hl2 : (bb.take j).length = j := List.length_take_of_le (by omega)
      have hsn := lessG_snoc (a.take j) (bb.take j) x y N (N + 1) (by rw [hl1, hl2])
      have hln := lessG_len (a.take j) (bb.take j) N (N + 1) (by rw [hl1, hl2])
      rw [hl1] at hsn hln
      have hta : a.take (j + 1) = a.take j ++ [x] := by rw [List.take_add_one, hx]; rfl
      have htb : bb.take (j + 1) = bb.take j ++ [y] := by rw [List.take_add_one, hy]; rfl
      rw [← hta, ← htb] at hsn
      obtain ⟨S0, hS⟩ : ∃ S0 : Int, N + 1 + 6 * (j : Int) = S0 := ⟨_, rfl⟩
      rw [hS] at hsn
      obtain ⟨C, hC⟩ : ∃ C : Int, onW N (N + 1) 6 5 j = C := ⟨_, rfl⟩
      rw [hC] at hsn ⊢
      obtain ⟨G, hG⟩ : ∃ G, gs ++ [(1, 0, 0)] ++ (lessG (a.take j) (bb.take j) N (N + 1)).1 = G := ⟨_, rfl⟩
      have hGl : ins + (G.length : Int) = S0 := by
        rw [← hG]
        simp only [List.length_append, hln, List.length_singleton]
        omega
      have hGn : G.length ≤ 900 := by omega
      obtain ⟨S1, hS1⟩ : ∃ S1 : Int, S0 + 1 = S1 := ⟨_, rfl⟩
      obtain ⟨S2, hS2⟩ : ∃ S2 : Int, S0 + 2 = S2 := ⟨_, rfl⟩
      obtain ⟨S3, hS3⟩ : ∃ S3 : Int, S0 + 3 = S3 := ⟨_, rfl⟩
      obtain ⟨S4, hS4⟩ : ∃ S4 : Int, S0 + 4 = S4 := ⟨_, rfl⟩
      obtain ⟨S5, hS5⟩ : ∃ S5 : Int, S0 + 5 = S5 := ⟨_, rfl⟩
      have HNEW : Hid (gs ++ [(1, 0, 0)] ++ (lessG (a.take (j + 1)) (bb.take (j + 1)) N (N + 1)).1 = G ++ [(5, x, y)] ++ [(2, S0, 0)] ++ [(3, S1, C)] ++ [(2, x, 0)] ++ [(3, S3, y)] ++ [(4, S2, S4)]) := by
        show gs ++ [(1, 0, 0)] ++ (lessG (a.take (j + 1)) (bb.take (j + 1)) N (N + 1)).1 = _
        rw [hsn, ← hG]
        simp [lessOne, ← hS, ← hS1, ← hS2, ← hS3, ← hS4, ← hS5]
        try omega
      have HON : Hid (onW N (N + 1) 6 5 (j + 1) = S5) := by
        show (N + 1) + 6 * (j : Int) + 5 = S5
        omega
      rw [hG] at HB
      clear hsn hln hta htb hG hC hl1 hl2
      obtain ⟨ag, aoff, rfl, _, _⟩ := HA.out wr HBl.out j x hx
      obtain ⟨bg, boff, rfl, _, _⟩ := HBB.out wr HBl.out j y hy
      have HAC : Hid (∀ w', Below lo w w' → ag < w'.heap.size ∧ w'.cell? ⟨ag, aoff + j, none⟩ = some (.int .i64 x)) := fun w' hw => by
        obtain ⟨g, off, e, h1, h2⟩ := HA.out w' hw j x hx
        injection e with e1
        injection e1 with e2 e3
        subst e2 e3
        exact ⟨h1, h2⟩
      have HBC : Hid (∀ w', Below lo w w' → bg < w'.heap.size ∧ w'.cell? ⟨bg, boff + j, none⟩ = some (.int .i64 y)) := fun w' hw => by
        obtain ⟨g, off, e, h1, h2⟩ := HBB.out w' hw j y hy
        injection e with e1
        injection e1 with e2 e3
        subst e2 e3
        exact ⟨h1, h2⟩
      have hjA : (j : Int) < (an : Int) := by omega
      clear hx hy HA HBB
      obtain ⟨ax0, ac0⟩ := HAC.out _ HBl.out
      obtain ⟨bx0, bc0⟩ := HBC.out _ HBl.out
      go_wp2_with fail
      go_region_with (go_at_call 117; refine (lay_at lo hi b ins (G) os S0 5 x y (by first | omega | (simp only [List.length_append, List.length_singleton]; omega)) hI0 hI1 (by first | omega | (simp only [List.length_append, List.length_singleton]; omega)) _ ?_).mono ?_; (first | exact HB.out | exact HB.out.drew); rintro e w11 ⟨rfl, hB, hbl', hk'⟩; have HBw11 : Hid (Bld w11 lo hi b 41 (ins, G ++ [(5, x, y)], os)) := hB; have HBlw11 : Hid (Below lo w w11) := (by first | exact HBl.out.trans hbl' | exact HBl.out.drew.trans hbl'); clear hB hbl' hk')
      all_goals
        clear HB HBl
        go_wp2_with fail
        refine (lay_at lo hi b ins (G ++ [(5, x, y)]) os S1 2 S0 0 (by first | omega | (simp only [List.length_append, List.length_singleton]; omega)) hI0 hI1 (by first | omega | (simp only [List.length_append, List.length_singleton]; omega)) _ ?_).mono ?_
        · exact HBw11.out
        rintro e w12 ⟨rfl, hB, hbl', hk'⟩
        have HBw12 : Hid (Bld w12 lo hi b 41 (ins, G ++ [(5, x, y)] ++ [(2, S0, 0)], os)) := hB
        have HBlw12 : Hid (Below lo w w12) := HBlw11.out.trans hbl'
        clear hB hbl' hk' HBw11 HBlw11
        go_wp2_with fail
        refine (lay_at lo hi b ins (G ++ [(5, x, y)] ++ [(2, S0, 0)]) os S2 3 S1 C (by first | omega | (simp only [List.length_append, List.length_singleton]; omega)) hI0 hI1 (by first | omega | (simp only [List.length_append, List.length_singleton]; omega)) _ ?_).mono ?_
        · exact HBw12.out
        rintro e w13 ⟨rfl, hB, hbl', hk'⟩
        have HBw13 : Hid (Bld w13 lo hi b 41 (ins, G ++ [(5, x, y)] ++ [(2, S0, 0)] ++ [(3, S1, C)], os)) := hB
        have HBlw13 : Hid (Below lo w w13) := HBlw12.out.trans hbl'
        clear hB hbl' hk' HBw12 HBlw12
        obtain ⟨ax3, ac3⟩ := HAC.out _ HBlw13.out
        go_wp2_with fail
        refine (lay_at lo hi b ins (G ++ [(5, x, y)] ++ [(2, S0, 0)] ++ [(3, S1, C)]) os S3 2 x 0 (by first | omega | (simp only [List.length_append, List.length_singleton]; omega)) hI0 hI1 (by first | omega | (simp only [List.length_append, List.length_singleton]; omega)) _ ?_).mono ?_
        · exact HBw13.out
        rintro e w14 ⟨rfl, hB, hbl', hk'⟩
        have HBw14 : Hid (Bld w14 lo hi b 41 (ins, G ++ [(5, x, y)] ++ [(2, S0, 0)] ++ [(3, S1, C)] ++ [(2, x, 0)], os)) := hB
        have HBlw14 : Hid (Below lo w w14) := HBlw13.out.trans hbl'
        clear hB hbl' hk' HBw13 HBlw13
        obtain ⟨bx4, bc4⟩ := HBC.out _ HBlw14.out
        go_wp2_with fail
        refine (lay_at lo hi b ins (G ++ [(5, x, y)] ++ [(2, S0, 0)] ++ [(3, S1, C)] ++ [(2, x, 0)]) os S4 3 S3 y (by first | omega | (simp only [List.length_append, List.length_singleton]; omega)) hI0 hI1 (by first | omega | (simp only [List.length_append, List.length_singleton]; omega)) _ ?_).mono ?_
        · exact HBw14.out
        rintro e w15 ⟨rfl, hB, hbl', hk'⟩
        have HBw15 : Hid (Bld w15 lo hi b 41 (ins, G ++ [(5, x, y)] ++ [(2, S0, 0)] ++ [(3, S1, C)] ++ [(2, x, 0)] ++ [(3, S3, y)], os)) := hB
        have HBlw15 : Hid (Below lo w w15) := HBlw14.out.trans hbl'
        clear hB hbl' hk' HBw14 HBlw14
        go_wp2_with fail
        refine (lay_at lo hi b ins (G ++ [(5, x, y)] ++ [(2, S0, 0)] ++ [(3, S1, C)] ++ [(2, x, 0)] ++ [(3, S3, y)]) os S5 4 S2 S4 (by first | omega | (simp only [List.length_append, List.length_singleton]; omega)) hI0 hI1 (by first | omega | (simp only [List.length_append, List.length_singleton]; omega)) _ ?_).mono ?_
        · exact HBw15.out
        rintro e w16 ⟨rfl, hB, hbl', hk'⟩
        have HBw16 : Hid (Bld w16 lo hi b 41 (ins, G ++ [(5, x, y)] ++ [(2, S0, 0)] ++ [(3, S1, C)] ++ [(2, x, 0)] ++ [(3, S3, y)] ++ [(4, S2, S4)], os)) := hB
        have HBlw16 : Hid (Below lo w w16) := HBlw15.out.trans hbl'
        clear hB hbl' hk' HBw15 HBlw15
        have HBF : Hid (Bld _ lo hi b 41 (ins, gs ++ [(1, 0, 0)] ++ (lessG (a.take (j + 1)) (bb.take (j + 1)) N (N + 1)).1, os)) := (by have h1 := HBw16.out; rw [← HNEW.out] at h1; exact h1)
        clear HNEW HAC HBC HBw16
        go_wp2_with fail
        go_roundw
        case rel => exact ⟨j + 1, by omega, by go_num, by rw [HON.out], HBF, HBlw16⟩
        case measure => simp [intOf]; omega
    · obtain rfl : j = an := by omega
      have ha1 : a.take j = a := List.take_of_length_le (by have := HAL.out; omega)
      have hb1 : bb.take j = bb := List.take_of_length_le (by have := HBL.out; omega)
      rw [ha1, hb1] at HB
      clear HA HBB ha1 hb1
      go_wp2_with fail
      go_ret
      exact ⟨rfl, HB.out, HBl.out⟩
set_option maxRecDepth 100000 in
set_option maxHeartbeats 8000000 in
theorem iAdd_any (lo hi b : Nat) (ins : Int) (gs : List Gt) (os : List Int) (av bv : Value) (a bb : List Int) (carry : Int) (N : Int) (hN : ins + gs.length = N) (hI0 : 0 ≤ ins) (hI1 : ins ≤ 16) (hn : gs.length ≤ 300) (hl : a.length = bb.length) (hl16 : a.length ≤ 16) (w : World) (h : Bld w lo hi b 41 (ins, gs, os)) (hhi : hi ≤ w.heap.size)
    (ha : ∀ w', Below lo w w' → IntsAt w' av a) (hb : ∀ w', Below lo w w' → IntsAt w' bv bb) :
    Calls Tryd.prog 109 #[.pointer (some ⟨b, 0, none⟩), av, bv, .int .i64 carry] w fun e w' => ∃ r, e = .returned r ∧ w'.ownsRow w.heap.size 3 1 r (addG a bb carry N).2.length (cellsI (addG a bb carry N).2) ∧ Bld w' lo hi b 41 (ins, gs ++ (addG a bb carry N).1, os) ∧ Below lo w w' := by
  obtain ⟨aa, acap, hav, _⟩ := (ha w (Below.refl _ _)).opened
  obtain ⟨ba, bcap, hbv, _⟩ := (hb w (Below.refl _ _)).opened
  subst hav hbv
  have HA : Hid (∀ w', Below lo w w' → ∀ (i : Nat) (x : Int), a[i]? = some x → ∃ g off : Nat, aa = some ⟨g, off, none⟩ ∧ g < w'.heap.size ∧ w'.cell? ⟨g, off + i, none⟩ = some (.int .i64 x)) := fun w' hw i x hx => by
    obtain ⟨_, _, e, hc⟩ := (ha w' hw).opened
    injection e with e1 e2 e3
    subst e1
    exact hc i x hx
  have HBB : Hid (∀ w', Below lo w w' → ∀ (i : Nat) (x : Int), bb[i]? = some x → ∃ g off : Nat, ba = some ⟨g, off, none⟩ ∧ g < w'.heap.size ∧ w'.cell? ⟨g, off + i, none⟩ = some (.int .i64 x)) := fun w' hw i x hx => by
    obtain ⟨_, _, e, hc⟩ := (hb w' hw).opened
    injection e with e1 e2 e3
    subst e1
    exact hc i x hx
  have hlo := h.size
  have HB1 : Hid _ := h
  obtain ⟨i0, hif, hz0, hz1, hz2⟩ := info_parts infoInt
  clear ha hb h
  generalize hal : a.length = an at *
  rw [← hl]
  have HAL : Hid (a.length = an) := hal
  have HBL : Hid (bb.length = an) := hl.symm
  clear hal hl
  go_enter Tryd.func109, Tryd.ntmps109
  go_wp2_with fail
  go_loopw [3, 9, 16] (fun vn vs i wr => ∃ j : Nat, j ≤ an ∧ i = .int .i64 j ∧ vn = .int .i64 (onW carry N 5 4 j) ∧ Hid (wr.ownsRow w.heap.size 3 1 vs (addG (a.take j) (bb.take j) carry N).2.length (cellsI (addG (a.take j) (bb.take j) carry N).2)) ∧ Hid (Bld wr lo hi b 41 (ins, gs ++ (addG (a.take j) (bb.take j) carry N).1, os)) ∧ Hid (Below lo w wr)) (fun _ _ i _ => an - (intOf i).toNat)
  case atStart =>
    refine ⟨0, by omega, rfl, rfl, World.ownsRow_nil _ _ _ _, ?_, Below.refl _ _⟩
    show Bld w lo hi b 41 (ins, gs ++ [], os)
    rw [List.append_nil]
    exact HB1.out
  case round =>
    obtain ⟨j, hj, rfl, rfl, HSU, HB, HBl⟩ := hrel
    clear HB1
    by_cases hlt : j < an
    · have hal := HAL.out
      have hbl := HBL.out
      obtain ⟨x, hx⟩ : ∃ x, a[j]? = some x := ⟨a[j], List.getElem?_eq_getElem (by omega)⟩
      obtain ⟨y, hy⟩ : ∃ y, bb[j]? = some y := ⟨bb[j], List.getElem?_eq_getElem (by omega)⟩
      have hl1 : (a.take j).length = j := List.length_take_of_le (by omega)
      have hl2 : (bb.take j).length = j := List.length_take_of_le (by omega)
      have hsn := addG_snoc (a.take j) (bb.take j) x y carry N (by rw [hl1, hl2])
      have hln := addG_len (a.take j) (bb.take j) carry N (by rw [hl1, hl2])
      rw [hl1] at hsn hln
      have hta : a.take (j + 1) = a.take j ++ [x] := by rw [List.take_add_one, hx]; rfl
      have htb : bb.take (j + 1) = bb.take j ++ [y] := by rw [List.take_add_one, hy]; rfl
      rw [← hta, ← htb] at hsn
      obtain ⟨S0, hS⟩ : ∃ S0 : Int, N + 5 * (j : Int) = S0 := ⟨_, rfl⟩
      rw [hS] at hsn
      obtain ⟨C, hC⟩ : ∃ C : Int, onW carry N 5 4 j = C := ⟨_, rfl⟩
      rw [hC] at hsn ⊢
      obtain ⟨G, hG⟩ : ∃ G, gs ++ (addG (a.take j) (bb.take j) carry N).1 = G := ⟨_, rfl⟩
      have hGl : ins + (G.length : Int) = S0 := by
        rw [← hG]
        simp only [List.length_append, hln.1, List.length_singleton]
        omega
      have hGn : G.length ≤ 900 := by omega
      obtain ⟨S1, hS1⟩ : ∃ S1 : Int, S0 + 1 = S1 := ⟨_, rfl⟩
      obtain ⟨S2, hS2⟩ : ∃ S2 : Int, S0 + 2 = S2 := ⟨_, rfl⟩
      obtain ⟨S3, hS3⟩ : ∃ S3 : Int, S0 + 3 = S3 := ⟨_, rfl⟩
      obtain ⟨S4, hS4⟩ : ∃ S4 : Int, S0 + 4 = S4 := ⟨_, rfl⟩
      have HNEW : Hid (gs ++ (addG (a.take (j + 1)) (bb.take (j + 1)) carry N).1 = G ++ [(5, x, y)] ++ [(5, S0, C)] ++ [(3, x, y)] ++ [(3, S0, C)] ++ [(4, S2, S3)]) := by
        show gs ++ (addG (a.take (j + 1)) (bb.take (j + 1)) carry N).1 = _
        rw [hsn, ← hG]
        simp [addOne, ← hS, ← hS1, ← hS2, ← hS3, ← hS4]
        try omega
      have HON : Hid (onW carry N 5 4 (j + 1) = S4) := by
        show N + 5 * (j : Int) + 4 = S4
        omega
      have HNS : Hid ((addG (a.take (j + 1)) (bb.take (j + 1)) carry N).2 = (addG (a.take j) (bb.take j) carry N).2 ++ [S1]) := by
        show (addG (a.take (j + 1)) (bb.take (j + 1)) carry N).2 = _
        rw [hsn, ← hS1]
      have hsl : (addG (a.take j) (bb.take j) carry N).2.length = j := hln.2
      obtain ⟨SL, hSL⟩ : ∃ SL, (addG (a.take j) (bb.take j) carry N).2 = SL := ⟨_, rfl⟩
      rw [hSL] at HSU HNS hsl
      rw [hsl] at HSU
      clear hSL
      obtain ⟨va0, vc0, hv0⟩ := own_shape HSU.out
      subst hv0
      rw [hG] at HB
      clear hsn hln hta htb hG hC hl1 hl2
      obtain ⟨ag, aoff, rfl, _, _⟩ := HA.out wr HBl.out j x hx
      obtain ⟨bg, boff, rfl, _, _⟩ := HBB.out wr HBl.out j y hy
      have HAC : Hid (∀ w', Below lo w w' → ag < w'.heap.size ∧ w'.cell? ⟨ag, aoff + j, none⟩ = some (.int .i64 x)) := fun w' hw => by
        obtain ⟨g, off, e, h1, h2⟩ := HA.out w' hw j x hx
        injection e with e1
        injection e1 with e2 e3
        subst e2 e3
        exact ⟨h1, h2⟩
      have HBC : Hid (∀ w', Below lo w w' → bg < w'.heap.size ∧ w'.cell? ⟨bg, boff + j, none⟩ = some (.int .i64 y)) := fun w' hw => by
        obtain ⟨g, off, e, h1, h2⟩ := HBB.out w' hw j y hy
        injection e with e1
        injection e1 with e2 e3
        subst e2 e3
        exact ⟨h1, h2⟩
      have hjA : (j : Int) < (an : Int) := by omega
      clear hx hy HA HBB
      obtain ⟨ax0, ac0⟩ := HAC.out _ HBl.out
      obtain ⟨bx0, bc0⟩ := HBC.out _ HBl.out
      go_wp2_with fail
      go_region_with (go_at_call 117; refine (lay_at lo hi b ins (G) os S0 5 x y (by first | omega | (simp only [List.length_append, List.length_singleton]; omega)) hI0 hI1 (by first | omega | (simp only [List.length_append, List.length_singleton]; omega)) _ ?_).mono ?_; (first | exact HB.out | exact HB.out.drew); rintro e w11 ⟨rfl, hB, hbl', hk'⟩; have HBw11 : Hid (Bld w11 lo hi b 41 (ins, G ++ [(5, x, y)], os)) := hB; have HBlw11 : Hid (Below lo w w11) := (by first | exact HBl.out.trans hbl' | exact HBl.out.drew.trans hbl'); have HSw11 : Hid (w11.ownsRow w.heap.size 3 1 (.slice va0 j vc0) j (cellsI SL)) := own_keepT HSU.out (by first | exact hk' | exact ⟨hk'.block⟩); clear hB hbl' hk')
      all_goals
        clear HB HBl HSU
        go_wp2_with fail
        refine (lay_at lo hi b ins (G ++ [(5, x, y)]) os S1 5 S0 C (by first | omega | (simp only [List.length_append, List.length_singleton]; omega)) hI0 hI1 (by first | omega | (simp only [List.length_append, List.length_singleton]; omega)) _ ?_).mono ?_
        · exact HBw11.out
        rintro e w12 ⟨rfl, hB, hbl', hk'⟩
        have HBw12 : Hid (Bld w12 lo hi b 41 (ins, G ++ [(5, x, y)] ++ [(5, S0, C)], os)) := hB
        have HBlw12 : Hid (Below lo w w12) := HBlw11.out.trans hbl'
        have HSw12 : Hid (w12.ownsRow w.heap.size 3 1 (.slice va0 j vc0) j (cellsI SL)) := own_keepT HSw11.out hk'
        clear hB hbl' hk' HBw11 HBlw11 HSw11
        have own6 := World.ownsRow.alloc HSw12.out (.cells #[.int .i64 S1] 3)
        have hb6 : Hid (Below lo w (w12.alloc (.cells #[.int .i64 S1] 3))) := HBlw12.out.alloc (by have := HBlw12.out.size; omega) _
        have hB6 : Hid (Bld (w12.alloc (.cells #[.int .i64 S1] 3)) lo hi b 41 (ins, G ++ [(5, x, y)] ++ [(5, S0, C)], os)) := by
          obtain ⟨q0, q1, q2, q3, q4, q5, q6⟩ := HBw12.out
          exact ⟨q0, q1, q2, q3.alloc _, q4.alloc _, q5.alloc _, q6⟩
        have hs6 : w.heap.size ≤ (w12.alloc (.cells #[.int .i64 S1] 3)).heap.size := hb6.out.size
        go_wp2_with (at_builtin; refine wpList_append_own _ rfl _ _ 39 rfl w.heap.size 3 i0 (.int .i64 0) 1 8 Tryd.underlying39 hif hz0 hz1 hz2 rfl (by decide) _ _ _ rfl own6 ⟨w12.heap.size, 0, none⟩ 1 1 [.int .i64 S1] rfl rfl (oneI_cells w12 S1) (ints_one [S1]) (by unfold maxLen; omega) (by omega) hs6 ?_)
        intro v7 w7 own7 grow7 _
        have HB7 : Hid (Bld w7 lo hi b 41 (ins, G ++ [(5, x, y)] ++ [(5, S0, C)], os)) := hB6.out.sum own6 hhi (by decide) grow7
        have HBl7 : Hid (Below lo w w7) := hb6.out.grown grow7 (by have := hb6.out.size; omega) (fun kk hk => Nat.le_trans hlo (own_block own6 hk).1)
        have HS7 : Hid (w7.ownsRow w.heap.size 3 1 v7 (j + 1) (cellsI (SL ++ [S1]))) := by
          show w7.ownsRow w.heap.size 3 1 v7 (j + 1) (cellsI (SL ++ [S1]))
          unfold cellsI
          rw [List.map_append]
          exact own7
        obtain ⟨va7, vc7, hv7⟩ := own_shape own7
        subst hv7
        clear own6 hb6 hB6 own7 grow7 HBw12 HBlw12 HSw12
        obtain ⟨ax2, ac2⟩ := HAC.out _ HBl7.out
        obtain ⟨bx2, bc2⟩ := HBC.out _ HBl7.out
        go_wp2_with fail
        go_region_with (go_at_call 117; refine (lay_at lo hi b ins (G ++ [(5, x, y)] ++ [(5, S0, C)]) os S2 3 x y (by first | omega | (simp only [List.length_append, List.length_singleton]; omega)) hI0 hI1 (by first | omega | (simp only [List.length_append, List.length_singleton]; omega)) _ ?_).mono ?_; (first | exact HB7.out | exact HB7.out.drew); rintro e w13 ⟨rfl, hB, hbl', hk'⟩; have HBw13 : Hid (Bld w13 lo hi b 41 (ins, G ++ [(5, x, y)] ++ [(5, S0, C)] ++ [(3, x, y)], os)) := hB; have HBlw13 : Hid (Below lo w w13) := (by first | exact HBl7.out.trans hbl' | exact HBl7.out.drew.trans hbl'); have HSw13 : Hid (w13.ownsRow w.heap.size 3 1 (.slice va7 (j + 1) vc7) (j + 1) (cellsI (SL ++ [S1]))) := own_keepT HS7.out (by first | exact hk' | exact ⟨hk'.block⟩); clear hB hbl' hk')
        all_goals
          clear HB7 HBl7 HS7
          go_wp2_with fail
          refine (lay_at lo hi b ins (G ++ [(5, x, y)] ++ [(5, S0, C)] ++ [(3, x, y)]) os S3 3 S0 C (by first | omega | (simp only [List.length_append, List.length_singleton]; omega)) hI0 hI1 (by first | omega | (simp only [List.length_append, List.length_singleton]; omega)) _ ?_).mono ?_
          · exact HBw13.out
          rintro e w14 ⟨rfl, hB, hbl', hk'⟩
          have HBw14 : Hid (Bld w14 lo hi b 41 (ins, G ++ [(5, x, y)] ++ [(5, S0, C)] ++ [(3, x, y)] ++ [(3, S0, C)], os)) := hB
          have HBlw14 : Hid (Below lo w w14) := HBlw13.out.trans hbl'
          have HSw14 : Hid (w14.ownsRow w.heap.size 3 1 (.slice va7 (j + 1) vc7) (j + 1) (cellsI (SL ++ [S1]))) := own_keepT HSw13.out hk'
          clear hB hbl' hk' HBw13 HBlw13 HSw13
          go_wp2_with fail
          refine (lay_at lo hi b ins (G ++ [(5, x, y)] ++ [(5, S0, C)] ++ [(3, x, y)] ++ [(3, S0, C)]) os S4 4 S2 S3 (by first | omega | (simp only [List.length_append, List.length_singleton]; omega)) hI0 hI1 (by first | omega | (simp only [List.length_append, List.length_singleton]; omega)) _ ?_).mono ?_
          · exact HBw14.out
          rintro e w15 ⟨rfl, hB, hbl', hk'⟩
          have HBw15 : Hid (Bld w15 lo hi b 41 (ins, G ++ [(5, x, y)] ++ [(5, S0, C)] ++ [(3, x, y)] ++ [(3, S0, C)] ++ [(4, S2, S3)], os)) := hB
          have HBlw15 : Hid (Below lo w w15) := HBlw14.out.trans hbl'
          have HSw15 : Hid (w15.ownsRow w.heap.size 3 1 (.slice va7 (j + 1) vc7) (j + 1) (cellsI (SL ++ [S1]))) := own_keepT HSw14.out hk'
          clear hB hbl' hk' HBw14 HBlw14 HSw14
          have HBF : Hid (Bld _ lo hi b 41 (ins, gs ++ (addG (a.take (j + 1)) (bb.take (j + 1)) carry N).1, os)) := (by have h1 := HBw15.out; rw [← HNEW.out] at h1; exact h1)
          have HSF : Hid (World.ownsRow _ w.heap.size 3 1 (.slice va7 (j + 1) vc7) (addG (a.take (j + 1)) (bb.take (j + 1)) carry N).2.length (cellsI (addG (a.take (j + 1)) (bb.take (j + 1)) carry N).2)) := (by have h1 := HSw15.out; rw [← HNS.out] at h1; rw [show (addG (a.take (j + 1)) (bb.take (j + 1)) carry N).2.length = j + 1 from by rw [HNS.out, List.length_append, hsl]; rfl]; exact h1)
          clear HNEW HNS HAC HBC HBw15 HSw15
          go_wp2_with fail
          go_roundw
          case rel => exact ⟨j + 1, by omega, by go_num, by rw [HON.out], HSF, HBF, HBlw15⟩
          case measure => simp [intOf]; omega
    · obtain rfl : j = an := by omega
      have ha1 : a.take j = a := List.take_of_length_le (by have := HAL.out; omega)
      have hb1 : bb.take j = bb := List.take_of_length_le (by have := HBL.out; omega)
      rw [ha1, hb1] at HB HSU
      clear HA HBB ha1 hb1
      go_wp2_with fail
      go_ret
      exact ⟨_, rfl, HSU.out, HB.out, HBl.out⟩
set_option maxRecDepth 100000 in
set_option maxHeartbeats 8000000 in
theorem sEq_any (lo hi b : Nat) (ins : Int) (gs : List Gt) (os : List Int) (av bv : Value) (a bb : List Int) (N : Int) (hN : ins + gs.length = N) (hI0 : 0 ≤ ins) (hI1 : ins ≤ 16) (hn : gs.length ≤ 300) (hl : a.length = bb.length) (hl16 : a.length ≤ 16) (w : World) (h : Bld w lo hi b 99 (ins, gs, os)) (hhi : hi ≤ w.heap.size)
    (ha : ∀ w', Below lo w w' → IntsAt w' av a) (hb : ∀ w', Below lo w w' → IntsAt w' bv bb) :
    Calls Tryd.prog 99 #[.pointer (some ⟨b, 0, none⟩), av, bv] w fun e w' => e = .returned (.int .i64 (onW N (N + 1) 3 2 a.length)) ∧ Bld w' lo hi b 99 (ins, gs ++ [(1, 1, 0)] ++ (eqG a bb N (N + 1)).1, os) ∧ Below lo w w' := by
  obtain ⟨aa, acap, hav, _⟩ := (ha w (Below.refl _ _)).opened
  obtain ⟨ba, bcap, hbv, _⟩ := (hb w (Below.refl _ _)).opened
  subst hav hbv
  have HA : Hid (∀ w', Below lo w w' → ∀ (i : Nat) (x : Int), a[i]? = some x → ∃ g off : Nat, aa = some ⟨g, off, none⟩ ∧ g < w'.heap.size ∧ w'.cell? ⟨g, off + i, none⟩ = some (.int .i64 x)) := fun w' hw i x hx => by
    obtain ⟨_, _, e, hc⟩ := (ha w' hw).opened
    injection e with e1 e2 e3
    subst e1
    exact hc i x hx
  have HBB : Hid (∀ w', Below lo w w' → ∀ (i : Nat) (x : Int), bb[i]? = some x → ∃ g off : Nat, ba = some ⟨g, off, none⟩ ∧ g < w'.heap.size ∧ w'.cell? ⟨g, off + i, none⟩ = some (.int .i64 x)) := fun w' hw i x hx => by
    obtain ⟨_, _, e, hc⟩ := (hb w' hw).opened
    injection e with e1 e2 e3
    subst e1
    exact hc i x hx
  have hlo := h.size
  have g1 := gate_at lo hi b ins gs os N 1 1 0 hN hI0 hI1 (by omega) w h
  clear ha hb h
  generalize hal : a.length = an at *
  rw [← hl]
  have HAL : Hid (a.length = an) := hal
  have HBL : Hid (bb.length = an) := hl.symm
  clear hal hl
  go_enter Tryd.func99, Tryd.ntmps99
  go_wp2_with fail
  refine g1.mono ?_
  rintro e w1 ⟨rfl, hB1, hb1, _⟩
  have HB1 : Hid _ := hB1
  have Hb1 : Hid _ := hb1
  clear g1 hB1 hb1
  go_wp2_with fail
  go_loopw [7, 15] (fun vn i wr => ∃ j : Nat, j ≤ an ∧ i = .int .i64 j ∧ vn = .int .i64 (onW N (N + 1) 3 2 j) ∧ Hid (Bld wr lo hi b 99 (ins, gs ++ [(1, 1, 0)] ++ (eqG (a.take j) (bb.take j) N (N + 1)).1, os)) ∧ Hid (Below lo w wr)) (fun _ i _ => an - (intOf i).toNat)
  case atStart =>
    refine ⟨0, by omega, rfl, rfl, ?_, Hb1⟩
    show Bld w1 lo hi b 99 (ins, gs ++ [(1, 1, 0)] ++ [], os)
    rw [List.append_nil]
    exact HB1.out
  case round =>
    obtain ⟨j, hj, rfl, rfl, HB, HBl⟩ := hrel
    clear HB1 Hb1
    by_cases hlt : j < an
    · have hal := HAL.out
      have hbl := HBL.out
      obtain ⟨x, hx⟩ : ∃ x, a[j]? = some x := ⟨a[j], List.getElem?_eq_getElem (by omega)⟩
      obtain ⟨y, hy⟩ : ∃ y, bb[j]? = some y := ⟨bb[j], List.getElem?_eq_getElem (by omega)⟩
      have hl1 : (a.take j).length = j := List.length_take_of_le (by omega)
      have hl2 : (bb.take j).length = j := List.length_take_of_le (by omega)
      have hsn := eqG_snoc (a.take j) (bb.take j) x y N (N + 1) (by rw [hl1, hl2])
      have hln := eqG_len (a.take j) (bb.take j) N (N + 1) (by rw [hl1, hl2])
      rw [hl1] at hsn hln
      have hta : a.take (j + 1) = a.take j ++ [x] := by rw [List.take_add_one, hx]; rfl
      have htb : bb.take (j + 1) = bb.take j ++ [y] := by rw [List.take_add_one, hy]; rfl
      rw [← hta, ← htb] at hsn
      obtain ⟨S0, hS⟩ : ∃ S0 : Int, N + 1 + 3 * (j : Int) = S0 := ⟨_, rfl⟩
      rw [hS] at hsn
      obtain ⟨C, hC⟩ : ∃ C : Int, onW N (N + 1) 3 2 j = C := ⟨_, rfl⟩
      rw [hC] at hsn ⊢
      obtain ⟨G, hG⟩ : ∃ G, gs ++ [(1, 1, 0)] ++ (eqG (a.take j) (bb.take j) N (N + 1)).1 = G := ⟨_, rfl⟩
      have hGl : ins + (G.length : Int) = S0 := by
        rw [← hG]
        simp only [List.length_append, hln, List.length_singleton]
        omega
      have hGn : G.length ≤ 900 := by omega
      obtain ⟨S1, hS1⟩ : ∃ S1 : Int, S0 + 1 = S1 := ⟨_, rfl⟩
      obtain ⟨S2, hS2⟩ : ∃ S2 : Int, S0 + 2 = S2 := ⟨_, rfl⟩
      have HNEW : Hid (gs ++ [(1, 1, 0)] ++ (eqG (a.take (j + 1)) (bb.take (j + 1)) N (N + 1)).1 = G ++ [(5, x, y)] ++ [(2, S0, 0)] ++ [(3, S1, C)]) := by
        show gs ++ [(1, 1, 0)] ++ (eqG (a.take (j + 1)) (bb.take (j + 1)) N (N + 1)).1 = _
        rw [hsn, ← hG]
        simp [eqOne, ← hS, ← hS1, ← hS2]
        try omega
      have HON : Hid (onW N (N + 1) 3 2 (j + 1) = S2) := by
        show (N + 1) + 3 * (j : Int) + 2 = S2
        omega
      rw [hG] at HB
      clear hsn hln hta htb hG hC hl1 hl2
      obtain ⟨ag, aoff, rfl, _, _⟩ := HA.out wr HBl.out j x hx
      obtain ⟨bg, boff, rfl, _, _⟩ := HBB.out wr HBl.out j y hy
      have HAC : Hid (∀ w', Below lo w w' → ag < w'.heap.size ∧ w'.cell? ⟨ag, aoff + j, none⟩ = some (.int .i64 x)) := fun w' hw => by
        obtain ⟨g, off, e, h1, h2⟩ := HA.out w' hw j x hx
        injection e with e1
        injection e1 with e2 e3
        subst e2 e3
        exact ⟨h1, h2⟩
      have HBC : Hid (∀ w', Below lo w w' → bg < w'.heap.size ∧ w'.cell? ⟨bg, boff + j, none⟩ = some (.int .i64 y)) := fun w' hw => by
        obtain ⟨g, off, e, h1, h2⟩ := HBB.out w' hw j y hy
        injection e with e1
        injection e1 with e2 e3
        subst e2 e3
        exact ⟨h1, h2⟩
      have hjA : (j : Int) < (an : Int) := by omega
      clear hx hy HA HBB
      obtain ⟨ax0, ac0⟩ := HAC.out _ HBl.out
      obtain ⟨bx0, bc0⟩ := HBC.out _ HBl.out
      go_wp2_with fail
      go_region_with (go_at_call 95; refine (gate_at lo hi b ins (G) os S0 5 x y (by first | omega | (simp only [List.length_append, List.length_singleton]; omega)) hI0 hI1 (by first | omega | (simp only [List.length_append, List.length_singleton]; omega)) _ ?_).mono ?_; (first | exact HB.out | exact HB.out.drew); rintro e w11 ⟨rfl, hB, hbl', hk'⟩; have HBw11 : Hid (Bld w11 lo hi b 99 (ins, G ++ [(5, x, y)], os)) := hB; have HBlw11 : Hid (Below lo w w11) := (by first | exact HBl.out.trans hbl' | exact HBl.out.drew.trans hbl'); clear hB hbl' hk')
      all_goals
        clear HB HBl
        go_wp2_with fail
        refine (gate_at lo hi b ins (G ++ [(5, x, y)]) os S1 2 S0 0 (by first | omega | (simp only [List.length_append, List.length_singleton]; omega)) hI0 hI1 (by first | omega | (simp only [List.length_append, List.length_singleton]; omega)) _ ?_).mono ?_
        · exact HBw11.out
        rintro e w12 ⟨rfl, hB, hbl', hk'⟩
        have HBw12 : Hid (Bld w12 lo hi b 99 (ins, G ++ [(5, x, y)] ++ [(2, S0, 0)], os)) := hB
        have HBlw12 : Hid (Below lo w w12) := HBlw11.out.trans hbl'
        clear hB hbl' hk' HBw11 HBlw11
        go_wp2_with fail
        refine (gate_at lo hi b ins (G ++ [(5, x, y)] ++ [(2, S0, 0)]) os S2 3 S1 C (by first | omega | (simp only [List.length_append, List.length_singleton]; omega)) hI0 hI1 (by first | omega | (simp only [List.length_append, List.length_singleton]; omega)) _ ?_).mono ?_
        · exact HBw12.out
        rintro e w13 ⟨rfl, hB, hbl', hk'⟩
        have HBw13 : Hid (Bld w13 lo hi b 99 (ins, G ++ [(5, x, y)] ++ [(2, S0, 0)] ++ [(3, S1, C)], os)) := hB
        have HBlw13 : Hid (Below lo w w13) := HBlw12.out.trans hbl'
        clear hB hbl' hk' HBw12 HBlw12
        have HBF : Hid (Bld _ lo hi b 99 (ins, gs ++ [(1, 1, 0)] ++ (eqG (a.take (j + 1)) (bb.take (j + 1)) N (N + 1)).1, os)) := (by have h1 := HBw13.out; rw [← HNEW.out] at h1; exact h1)
        clear HNEW HAC HBC HBw13
        go_wp2_with fail
        go_roundw
        case rel => exact ⟨j + 1, by omega, by go_num, by rw [HON.out], HBF, HBlw13⟩
        case measure => simp [intOf]; omega
    · obtain rfl : j = an := by omega
      have ha1 : a.take j = a := List.take_of_length_le (by have := HAL.out; omega)
      have hb1 : bb.take j = bb := List.take_of_length_le (by have := HBL.out; omega)
      rw [ha1, hb1] at HB
      clear HA HBB ha1 hb1
      go_wp2_with fail
      go_ret
      exact ⟨rfl, HB.out, HBl.out⟩
set_option maxRecDepth 100000 in
set_option maxHeartbeats 8000000 in
theorem sLess_any (lo hi b : Nat) (ins : Int) (gs : List Gt) (os : List Int) (av bv : Value) (a bb : List Int) (N : Int) (hN : ins + gs.length = N) (hI0 : 0 ≤ ins) (hI1 : ins ≤ 16) (hn : gs.length ≤ 300) (hl : a.length = bb.length) (hl16 : a.length ≤ 16) (w : World) (h : Bld w lo hi b 99 (ins, gs, os)) (hhi : hi ≤ w.heap.size)
    (ha : ∀ w', Below lo w w' → IntsAt w' av a) (hb : ∀ w', Below lo w w' → IntsAt w' bv bb) :
    Calls Tryd.prog 100 #[.pointer (some ⟨b, 0, none⟩), av, bv] w fun e w' => e = .returned (.int .i64 (onW N (N + 1) 6 5 a.length)) ∧ Bld w' lo hi b 99 (ins, gs ++ [(1, 0, 0)] ++ (lessG a bb N (N + 1)).1, os) ∧ Below lo w w' := by
  obtain ⟨aa, acap, hav, _⟩ := (ha w (Below.refl _ _)).opened
  obtain ⟨ba, bcap, hbv, _⟩ := (hb w (Below.refl _ _)).opened
  subst hav hbv
  have HA : Hid (∀ w', Below lo w w' → ∀ (i : Nat) (x : Int), a[i]? = some x → ∃ g off : Nat, aa = some ⟨g, off, none⟩ ∧ g < w'.heap.size ∧ w'.cell? ⟨g, off + i, none⟩ = some (.int .i64 x)) := fun w' hw i x hx => by
    obtain ⟨_, _, e, hc⟩ := (ha w' hw).opened
    injection e with e1 e2 e3
    subst e1
    exact hc i x hx
  have HBB : Hid (∀ w', Below lo w w' → ∀ (i : Nat) (x : Int), bb[i]? = some x → ∃ g off : Nat, ba = some ⟨g, off, none⟩ ∧ g < w'.heap.size ∧ w'.cell? ⟨g, off + i, none⟩ = some (.int .i64 x)) := fun w' hw i x hx => by
    obtain ⟨_, _, e, hc⟩ := (hb w' hw).opened
    injection e with e1 e2 e3
    subst e1
    exact hc i x hx
  have hlo := h.size
  have g1 := gate_at lo hi b ins gs os N 1 0 0 hN hI0 hI1 (by omega) w h
  clear ha hb h
  generalize hal : a.length = an at *
  rw [← hl]
  have HAL : Hid (a.length = an) := hal
  have HBL : Hid (bb.length = an) := hl.symm
  clear hal hl
  go_enter Tryd.func100, Tryd.ntmps100
  go_wp2_with fail
  refine g1.mono ?_
  rintro e w1 ⟨rfl, hB1, hb1, _⟩
  have HB1 : Hid _ := hB1
  have Hb1 : Hid _ := hb1
  clear g1 hB1 hb1
  go_wp2_with fail
  go_loopw [7, 18] (fun vn i wr => ∃ j : Nat, j ≤ an ∧ i = .int .i64 j ∧ vn = .int .i64 (onW N (N + 1) 6 5 j) ∧ Hid (Bld wr lo hi b 99 (ins, gs ++ [(1, 0, 0)] ++ (lessG (a.take j) (bb.take j) N (N + 1)).1, os)) ∧ Hid (Below lo w wr)) (fun _ i _ => an - (intOf i).toNat)
  case atStart =>
    refine ⟨0, by omega, rfl, rfl, ?_, Hb1⟩
    show Bld w1 lo hi b 99 (ins, gs ++ [(1, 0, 0)] ++ [], os)
    rw [List.append_nil]
    exact HB1.out
  case round =>
    obtain ⟨j, hj, rfl, rfl, HB, HBl⟩ := hrel
    clear HB1 Hb1
    by_cases hlt : j < an
    · have hal := HAL.out
      have hbl := HBL.out
      obtain ⟨x, hx⟩ : ∃ x, a[j]? = some x := ⟨a[j], List.getElem?_eq_getElem (by omega)⟩
      obtain ⟨y, hy⟩ : ∃ y, bb[j]? = some y := ⟨bb[j], List.getElem?_eq_getElem (by omega)⟩
      have hl1 : (a.take j).length = j := List.length_take_of_le (by omega)
      have hl2 : (bb.take j).length = j := List.length_take_of_le (by omega)
      have hsn := lessG_snoc (a.take j) (bb.take j) x y N (N + 1) (by rw [hl1, hl2])
      have hln := lessG_len (a.take j) (bb.take j) N (N + 1) (by rw [hl1, hl2])
      rw [hl1] at hsn hln
      have hta : a.take (j + 1) = a.take j ++ [x] := by rw [List.take_add_one, hx]; rfl
      have htb : bb.take (j + 1) = bb.take j ++ [y] := by rw [List.take_add_one, hy]; rfl
      rw [← hta, ← htb] at hsn
      obtain ⟨S0, hS⟩ : ∃ S0 : Int, N + 1 + 6 * (j : Int) = S0 := ⟨_, rfl⟩
      rw [hS] at hsn
      obtain ⟨C, hC⟩ : ∃ C : Int, onW N (N + 1) 6 5 j = C := ⟨_, rfl⟩
      rw [hC] at hsn ⊢
      obtain ⟨G, hG⟩ : ∃ G, gs ++ [(1, 0, 0)] ++ (lessG (a.take j) (bb.take j) N (N + 1)).1 = G := ⟨_, rfl⟩
      have hGl : ins + (G.length : Int) = S0 := by
        rw [← hG]
        simp only [List.length_append, hln, List.length_singleton]
        omega
      have hGn : G.length ≤ 900 := by omega
      obtain ⟨S1, hS1⟩ : ∃ S1 : Int, S0 + 1 = S1 := ⟨_, rfl⟩
      obtain ⟨S2, hS2⟩ : ∃ S2 : Int, S0 + 2 = S2 := ⟨_, rfl⟩
      obtain ⟨S3, hS3⟩ : ∃ S3 : Int, S0 + 3 = S3 := ⟨_, rfl⟩
      obtain ⟨S4, hS4⟩ : ∃ S4 : Int, S0 + 4 = S4 := ⟨_, rfl⟩
      obtain ⟨S5, hS5⟩ : ∃ S5 : Int, S0 + 5 = S5 := ⟨_, rfl⟩
      have HNEW : Hid (gs ++ [(1, 0, 0)] ++ (lessG (a.take (j + 1)) (bb.take (j + 1)) N (N + 1)).1 = G ++ [(5, x, y)] ++ [(2, S0, 0)] ++ [(3, S1, C)] ++ [(2, x, 0)] ++ [(3, S3, y)] ++ [(4, S2, S4)]) := by
        show gs ++ [(1, 0, 0)] ++ (lessG (a.take (j + 1)) (bb.take (j + 1)) N (N + 1)).1 = _
        rw [hsn, ← hG]
        simp [lessOne, ← hS, ← hS1, ← hS2, ← hS3, ← hS4, ← hS5]
        try omega
      have HON : Hid (onW N (N + 1) 6 5 (j + 1) = S5) := by
        show (N + 1) + 6 * (j : Int) + 5 = S5
        omega
      rw [hG] at HB
      clear hsn hln hta htb hG hC hl1 hl2
      obtain ⟨ag, aoff, rfl, _, _⟩ := HA.out wr HBl.out j x hx
      obtain ⟨bg, boff, rfl, _, _⟩ := HBB.out wr HBl.out j y hy
      have HAC : Hid (∀ w', Below lo w w' → ag < w'.heap.size ∧ w'.cell? ⟨ag, aoff + j, none⟩ = some (.int .i64 x)) := fun w' hw => by
        obtain ⟨g, off, e, h1, h2⟩ := HA.out w' hw j x hx
        injection e with e1
        injection e1 with e2 e3
        subst e2 e3
        exact ⟨h1, h2⟩
      have HBC : Hid (∀ w', Below lo w w' → bg < w'.heap.size ∧ w'.cell? ⟨bg, boff + j, none⟩ = some (.int .i64 y)) := fun w' hw => by
        obtain ⟨g, off, e, h1, h2⟩ := HBB.out w' hw j y hy
        injection e with e1
        injection e1 with e2 e3
        subst e2 e3
        exact ⟨h1, h2⟩
      have hjA : (j : Int) < (an : Int) := by omega
      clear hx hy HA HBB
      obtain ⟨ax0, ac0⟩ := HAC.out _ HBl.out
      obtain ⟨bx0, bc0⟩ := HBC.out _ HBl.out
      go_wp2_with fail
      go_region_with (go_at_call 95; refine (gate_at lo hi b ins (G) os S0 5 x y (by first | omega | (simp only [List.length_append, List.length_singleton]; omega)) hI0 hI1 (by first | omega | (simp only [List.length_append, List.length_singleton]; omega)) _ ?_).mono ?_; (first | exact HB.out | exact HB.out.drew); rintro e w11 ⟨rfl, hB, hbl', hk'⟩; have HBw11 : Hid (Bld w11 lo hi b 99 (ins, G ++ [(5, x, y)], os)) := hB; have HBlw11 : Hid (Below lo w w11) := (by first | exact HBl.out.trans hbl' | exact HBl.out.drew.trans hbl'); clear hB hbl' hk')
      all_goals
        clear HB HBl
        go_wp2_with fail
        refine (gate_at lo hi b ins (G ++ [(5, x, y)]) os S1 2 S0 0 (by first | omega | (simp only [List.length_append, List.length_singleton]; omega)) hI0 hI1 (by first | omega | (simp only [List.length_append, List.length_singleton]; omega)) _ ?_).mono ?_
        · exact HBw11.out
        rintro e w12 ⟨rfl, hB, hbl', hk'⟩
        have HBw12 : Hid (Bld w12 lo hi b 99 (ins, G ++ [(5, x, y)] ++ [(2, S0, 0)], os)) := hB
        have HBlw12 : Hid (Below lo w w12) := HBlw11.out.trans hbl'
        clear hB hbl' hk' HBw11 HBlw11
        go_wp2_with fail
        refine (gate_at lo hi b ins (G ++ [(5, x, y)] ++ [(2, S0, 0)]) os S2 3 S1 C (by first | omega | (simp only [List.length_append, List.length_singleton]; omega)) hI0 hI1 (by first | omega | (simp only [List.length_append, List.length_singleton]; omega)) _ ?_).mono ?_
        · exact HBw12.out
        rintro e w13 ⟨rfl, hB, hbl', hk'⟩
        have HBw13 : Hid (Bld w13 lo hi b 99 (ins, G ++ [(5, x, y)] ++ [(2, S0, 0)] ++ [(3, S1, C)], os)) := hB
        have HBlw13 : Hid (Below lo w w13) := HBlw12.out.trans hbl'
        clear hB hbl' hk' HBw12 HBlw12
        obtain ⟨ax3, ac3⟩ := HAC.out _ HBlw13.out
        go_wp2_with fail
        refine (gate_at lo hi b ins (G ++ [(5, x, y)] ++ [(2, S0, 0)] ++ [(3, S1, C)]) os S3 2 x 0 (by first | omega | (simp only [List.length_append, List.length_singleton]; omega)) hI0 hI1 (by first | omega | (simp only [List.length_append, List.length_singleton]; omega)) _ ?_).mono ?_
        · exact HBw13.out
        rintro e w14 ⟨rfl, hB, hbl', hk'⟩
        have HBw14 : Hid (Bld w14 lo hi b 99 (ins, G ++ [(5, x, y)] ++ [(2, S0, 0)] ++ [(3, S1, C)] ++ [(2, x, 0)], os)) := hB
        have HBlw14 : Hid (Below lo w w14) := HBlw13.out.trans hbl'
        clear hB hbl' hk' HBw13 HBlw13
        obtain ⟨bx4, bc4⟩ := HBC.out _ HBlw14.out
        go_wp2_with fail
        refine (gate_at lo hi b ins (G ++ [(5, x, y)] ++ [(2, S0, 0)] ++ [(3, S1, C)] ++ [(2, x, 0)]) os S4 3 S3 y (by first | omega | (simp only [List.length_append, List.length_singleton]; omega)) hI0 hI1 (by first | omega | (simp only [List.length_append, List.length_singleton]; omega)) _ ?_).mono ?_
        · exact HBw14.out
        rintro e w15 ⟨rfl, hB, hbl', hk'⟩
        have HBw15 : Hid (Bld w15 lo hi b 99 (ins, G ++ [(5, x, y)] ++ [(2, S0, 0)] ++ [(3, S1, C)] ++ [(2, x, 0)] ++ [(3, S3, y)], os)) := hB
        have HBlw15 : Hid (Below lo w w15) := HBlw14.out.trans hbl'
        clear hB hbl' hk' HBw14 HBlw14
        go_wp2_with fail
        refine (gate_at lo hi b ins (G ++ [(5, x, y)] ++ [(2, S0, 0)] ++ [(3, S1, C)] ++ [(2, x, 0)] ++ [(3, S3, y)]) os S5 4 S2 S4 (by first | omega | (simp only [List.length_append, List.length_singleton]; omega)) hI0 hI1 (by first | omega | (simp only [List.length_append, List.length_singleton]; omega)) _ ?_).mono ?_
        · exact HBw15.out
        rintro e w16 ⟨rfl, hB, hbl', hk'⟩
        have HBw16 : Hid (Bld w16 lo hi b 99 (ins, G ++ [(5, x, y)] ++ [(2, S0, 0)] ++ [(3, S1, C)] ++ [(2, x, 0)] ++ [(3, S3, y)] ++ [(4, S2, S4)], os)) := hB
        have HBlw16 : Hid (Below lo w w16) := HBlw15.out.trans hbl'
        clear hB hbl' hk' HBw15 HBlw15
        have HBF : Hid (Bld _ lo hi b 99 (ins, gs ++ [(1, 0, 0)] ++ (lessG (a.take (j + 1)) (bb.take (j + 1)) N (N + 1)).1, os)) := (by have h1 := HBw16.out; rw [← HNEW.out] at h1; exact h1)
        clear HNEW HAC HBC HBw16
        go_wp2_with fail
        go_roundw
        case rel => exact ⟨j + 1, by omega, by go_num, by rw [HON.out], HBF, HBlw16⟩
        case measure => simp [intOf]; omega
    · obtain rfl : j = an := by omega
      have ha1 : a.take j = a := List.take_of_length_le (by have := HAL.out; omega)
      have hb1 : bb.take j = bb := List.take_of_length_le (by have := HBL.out; omega)
      rw [ha1, hb1] at HB
      clear HA HBB ha1 hb1
      go_wp2_with fail
      go_ret
      exact ⟨rfl, HB.out, HBl.out⟩
set_option maxRecDepth 100000 in
set_option maxHeartbeats 8000000 in
theorem sAdd_any (lo hi b : Nat) (ins : Int) (gs : List Gt) (os : List Int) (av bv : Value) (a bb : List Int) (carry : Int) (N : Int) (hN : ins + gs.length = N) (hI0 : 0 ≤ ins) (hI1 : ins ≤ 16) (hn : gs.length ≤ 300) (hl : a.length = bb.length) (hl16 : a.length ≤ 16) (w : World) (h : Bld w lo hi b 99 (ins, gs, os)) (hhi : hi ≤ w.heap.size)
    (ha : ∀ w', Below lo w w' → IntsAt w' av a) (hb : ∀ w', Below lo w w' → IntsAt w' bv bb) :
    Calls Tryd.prog 96 #[.pointer (some ⟨b, 0, none⟩), av, bv, .int .i64 carry] w fun e w' => ∃ r, e = .returned r ∧ w'.ownsRow w.heap.size 3 1 r (addG a bb carry N).2.length (cellsI (addG a bb carry N).2) ∧ Bld w' lo hi b 99 (ins, gs ++ (addG a bb carry N).1, os) ∧ Below lo w w' := by
  obtain ⟨aa, acap, hav, _⟩ := (ha w (Below.refl _ _)).opened
  obtain ⟨ba, bcap, hbv, _⟩ := (hb w (Below.refl _ _)).opened
  subst hav hbv
  have HA : Hid (∀ w', Below lo w w' → ∀ (i : Nat) (x : Int), a[i]? = some x → ∃ g off : Nat, aa = some ⟨g, off, none⟩ ∧ g < w'.heap.size ∧ w'.cell? ⟨g, off + i, none⟩ = some (.int .i64 x)) := fun w' hw i x hx => by
    obtain ⟨_, _, e, hc⟩ := (ha w' hw).opened
    injection e with e1 e2 e3
    subst e1
    exact hc i x hx
  have HBB : Hid (∀ w', Below lo w w' → ∀ (i : Nat) (x : Int), bb[i]? = some x → ∃ g off : Nat, ba = some ⟨g, off, none⟩ ∧ g < w'.heap.size ∧ w'.cell? ⟨g, off + i, none⟩ = some (.int .i64 x)) := fun w' hw i x hx => by
    obtain ⟨_, _, e, hc⟩ := (hb w' hw).opened
    injection e with e1 e2 e3
    subst e1
    exact hc i x hx
  have hlo := h.size
  have HB1 : Hid _ := h
  obtain ⟨i0, hif, hz0, hz1, hz2⟩ := info_parts infoInt
  clear ha hb h
  generalize hal : a.length = an at *
  rw [← hl]
  have HAL : Hid (a.length = an) := hal
  have HBL : Hid (bb.length = an) := hl.symm
  clear hal hl
  go_enter Tryd.func96, Tryd.ntmps96
  go_wp2_with fail
  go_loopw [3, 9, 17] (fun vn vs i wr => ∃ j : Nat, j ≤ an ∧ i = .int .i64 j ∧ vn = .int .i64 (onW carry N 5 4 j) ∧ Hid (wr.ownsRow w.heap.size 3 1 vs (addG (a.take j) (bb.take j) carry N).2.length (cellsI (addG (a.take j) (bb.take j) carry N).2)) ∧ Hid (Bld wr lo hi b 99 (ins, gs ++ (addG (a.take j) (bb.take j) carry N).1, os)) ∧ Hid (Below lo w wr)) (fun _ _ i _ => an - (intOf i).toNat)
  case atStart =>
    refine ⟨0, by omega, rfl, rfl, World.ownsRow_nil _ _ _ _, ?_, Below.refl _ _⟩
    show Bld w lo hi b 99 (ins, gs ++ [], os)
    rw [List.append_nil]
    exact HB1.out
  case round =>
    obtain ⟨j, hj, rfl, rfl, HSU, HB, HBl⟩ := hrel
    clear HB1
    by_cases hlt : j < an
    · have hal := HAL.out
      have hbl := HBL.out
      obtain ⟨x, hx⟩ : ∃ x, a[j]? = some x := ⟨a[j], List.getElem?_eq_getElem (by omega)⟩
      obtain ⟨y, hy⟩ : ∃ y, bb[j]? = some y := ⟨bb[j], List.getElem?_eq_getElem (by omega)⟩
      have hl1 : (a.take j).length = j := List.length_take_of_le (by omega)
      have hl2 : (bb.take j).length = j := List.length_take_of_le (by omega)
      have hsn := addG_snoc (a.take j) (bb.take j) x y carry N (by rw [hl1, hl2])
      have hln := addG_len (a.take j) (bb.take j) carry N (by rw [hl1, hl2])
      rw [hl1] at hsn hln
      have hta : a.take (j + 1) = a.take j ++ [x] := by rw [List.take_add_one, hx]; rfl
      have htb : bb.take (j + 1) = bb.take j ++ [y] := by rw [List.take_add_one, hy]; rfl
      rw [← hta, ← htb] at hsn
      obtain ⟨S0, hS⟩ : ∃ S0 : Int, N + 5 * (j : Int) = S0 := ⟨_, rfl⟩
      rw [hS] at hsn
      obtain ⟨C, hC⟩ : ∃ C : Int, onW carry N 5 4 j = C := ⟨_, rfl⟩
      rw [hC] at hsn ⊢
      obtain ⟨G, hG⟩ : ∃ G, gs ++ (addG (a.take j) (bb.take j) carry N).1 = G := ⟨_, rfl⟩
      have hGl : ins + (G.length : Int) = S0 := by
        rw [← hG]
        simp only [List.length_append, hln.1, List.length_singleton]
        omega
      have hGn : G.length ≤ 900 := by omega
      obtain ⟨S1, hS1⟩ : ∃ S1 : Int, S0 + 1 = S1 := ⟨_, rfl⟩
      obtain ⟨S2, hS2⟩ : ∃ S2 : Int, S0 + 2 = S2 := ⟨_, rfl⟩
      obtain ⟨S3, hS3⟩ : ∃ S3 : Int, S0 + 3 = S3 := ⟨_, rfl⟩
      obtain ⟨S4, hS4⟩ : ∃ S4 : Int, S0 + 4 = S4 := ⟨_, rfl⟩
      have HNEW : Hid (gs ++ (addG (a.take (j + 1)) (bb.take (j + 1)) carry N).1 = G ++ [(5, x, y)] ++ [(5, S0, C)] ++ [(3, x, y)] ++ [(3, S0, C)] ++ [(4, S2, S3)]) := by
        show gs ++ (addG (a.take (j + 1)) (bb.take (j + 1)) carry N).1 = _
        rw [hsn, ← hG]
        simp [addOne, ← hS, ← hS1, ← hS2, ← hS3, ← hS4]
        try omega
      have HON : Hid (onW carry N 5 4 (j + 1) = S4) := by
        show N + 5 * (j : Int) + 4 = S4
        omega
      have HNS : Hid ((addG (a.take (j + 1)) (bb.take (j + 1)) carry N).2 = (addG (a.take j) (bb.take j) carry N).2 ++ [S1]) := by
        show (addG (a.take (j + 1)) (bb.take (j + 1)) carry N).2 = _
        rw [hsn, ← hS1]
      have hsl : (addG (a.take j) (bb.take j) carry N).2.length = j := hln.2
      obtain ⟨SL, hSL⟩ : ∃ SL, (addG (a.take j) (bb.take j) carry N).2 = SL := ⟨_, rfl⟩
      rw [hSL] at HSU HNS hsl
      rw [hsl] at HSU
      clear hSL
      obtain ⟨va0, vc0, hv0⟩ := own_shape HSU.out
      subst hv0
      rw [hG] at HB
      clear hsn hln hta htb hG hC hl1 hl2
      obtain ⟨ag, aoff, rfl, _, _⟩ := HA.out wr HBl.out j x hx
      obtain ⟨bg, boff, rfl, _, _⟩ := HBB.out wr HBl.out j y hy
      have HAC : Hid (∀ w', Below lo w w' → ag < w'.heap.size ∧ w'.cell? ⟨ag, aoff + j, none⟩ = some (.int .i64 x)) := fun w' hw => by
        obtain ⟨g, off, e, h1, h2⟩ := HA.out w' hw j x hx
        injection e with e1
        injection e1 with e2 e3
        subst e2 e3
        exact ⟨h1, h2⟩
      have HBC : Hid (∀ w', Below lo w w' → bg < w'.heap.size ∧ w'.cell? ⟨bg, boff + j, none⟩ = some (.int .i64 y)) := fun w' hw => by
        obtain ⟨g, off, e, h1, h2⟩ := HBB.out w' hw j y hy
        injection e with e1
        injection e1 with e2 e3
        subst e2 e3
        exact ⟨h1, h2⟩
      have hjA : (j : Int) < (an : Int) := by omega
      clear hx hy HA HBB
      obtain ⟨ax0, ac0⟩ := HAC.out _ HBl.out
      obtain ⟨bx0, bc0⟩ := HBC.out _ HBl.out
      go_wp2_with fail
      go_region_with (go_at_call 95; refine (gate_at lo hi b ins (G) os S0 5 x y (by first | omega | (simp only [List.length_append, List.length_singleton]; omega)) hI0 hI1 (by first | omega | (simp only [List.length_append, List.length_singleton]; omega)) _ ?_).mono ?_; (first | exact HB.out | exact HB.out.drew); rintro e w11 ⟨rfl, hB, hbl', hk'⟩; have HBw11 : Hid (Bld w11 lo hi b 99 (ins, G ++ [(5, x, y)], os)) := hB; have HBlw11 : Hid (Below lo w w11) := (by first | exact HBl.out.trans hbl' | exact HBl.out.drew.trans hbl'); have HSw11 : Hid (w11.ownsRow w.heap.size 3 1 (.slice va0 j vc0) j (cellsI SL)) := own_keepT HSU.out (by first | exact hk' | exact ⟨hk'.block⟩); clear hB hbl' hk')
      all_goals
        clear HB HBl HSU
        go_wp2_with fail
        refine (gate_at lo hi b ins (G ++ [(5, x, y)]) os S1 5 S0 C (by first | omega | (simp only [List.length_append, List.length_singleton]; omega)) hI0 hI1 (by first | omega | (simp only [List.length_append, List.length_singleton]; omega)) _ ?_).mono ?_
        · exact HBw11.out
        rintro e w12 ⟨rfl, hB, hbl', hk'⟩
        have HBw12 : Hid (Bld w12 lo hi b 99 (ins, G ++ [(5, x, y)] ++ [(5, S0, C)], os)) := hB
        have HBlw12 : Hid (Below lo w w12) := HBlw11.out.trans hbl'
        have HSw12 : Hid (w12.ownsRow w.heap.size 3 1 (.slice va0 j vc0) j (cellsI SL)) := own_keepT HSw11.out hk'
        clear hB hbl' hk' HBw11 HBlw11 HSw11
        obtain ⟨ax2, ac2⟩ := HAC.out _ HBlw12.out
        obtain ⟨bx2, bc2⟩ := HBC.out _ HBlw12.out
        go_wp2_with fail
        go_region_with (go_at_call 95; refine (gate_at lo hi b ins (G ++ [(5, x, y)] ++ [(5, S0, C)]) os S2 3 x y (by first | omega | (simp only [List.length_append, List.length_singleton]; omega)) hI0 hI1 (by first | omega | (simp only [List.length_append, List.length_singleton]; omega)) _ ?_).mono ?_; (first | exact HBw12.out | exact HBw12.out.drew); rintro e w13 ⟨rfl, hB, hbl', hk'⟩; have HBw13 : Hid (Bld w13 lo hi b 99 (ins, G ++ [(5, x, y)] ++ [(5, S0, C)] ++ [(3, x, y)], os)) := hB; have HBlw13 : Hid (Below lo w w13) := (by first | exact HBlw12.out.trans hbl' | exact HBlw12.out.drew.trans hbl'); have HSw13 : Hid (w13.ownsRow w.heap.size 3 1 (.slice va0 j vc0) j (cellsI SL)) := own_keepT HSw12.out (by first | exact hk' | exact ⟨hk'.block⟩); clear hB hbl' hk')
        all_goals
          clear HBw12 HBlw12 HSw12
          go_wp2_with fail
          refine (gate_at lo hi b ins (G ++ [(5, x, y)] ++ [(5, S0, C)] ++ [(3, x, y)]) os S3 3 S0 C (by first | omega | (simp only [List.length_append, List.length_singleton]; omega)) hI0 hI1 (by first | omega | (simp only [List.length_append, List.length_singleton]; omega)) _ ?_).mono ?_
          · exact HBw13.out
          rintro e w14 ⟨rfl, hB, hbl', hk'⟩
          have HBw14 : Hid (Bld w14 lo hi b 99 (ins, G ++ [(5, x, y)] ++ [(5, S0, C)] ++ [(3, x, y)] ++ [(3, S0, C)], os)) := hB
          have HBlw14 : Hid (Below lo w w14) := HBlw13.out.trans hbl'
          have HSw14 : Hid (w14.ownsRow w.heap.size 3 1 (.slice va0 j vc0) j (cellsI SL)) := own_keepT HSw13.out hk'
          clear hB hbl' hk' HBw13 HBlw13 HSw13
          go_wp2_with fail
          refine (gate_at lo hi b ins (G ++ [(5, x, y)] ++ [(5, S0, C)] ++ [(3, x, y)] ++ [(3, S0, C)]) os S4 4 S2 S3 (by first | omega | (simp only [List.length_append, List.length_singleton]; omega)) hI0 hI1 (by first | omega | (simp only [List.length_append, List.length_singleton]; omega)) _ ?_).mono ?_
          · exact HBw14.out
          rintro e w15 ⟨rfl, hB, hbl', hk'⟩
          have HBw15 : Hid (Bld w15 lo hi b 99 (ins, G ++ [(5, x, y)] ++ [(5, S0, C)] ++ [(3, x, y)] ++ [(3, S0, C)] ++ [(4, S2, S3)], os)) := hB
          have HBlw15 : Hid (Below lo w w15) := HBlw14.out.trans hbl'
          have HSw15 : Hid (w15.ownsRow w.heap.size 3 1 (.slice va0 j vc0) j (cellsI SL)) := own_keepT HSw14.out hk'
          clear hB hbl' hk' HBw14 HBlw14 HSw14
          have own6 := World.ownsRow.alloc HSw15.out (.cells #[.int .i64 S1] 3)
          have hb6 : Hid (Below lo w (w15.alloc (.cells #[.int .i64 S1] 3))) := HBlw15.out.alloc (by have := HBlw15.out.size; omega) _
          have hB6 : Hid (Bld (w15.alloc (.cells #[.int .i64 S1] 3)) lo hi b 99 (ins, G ++ [(5, x, y)] ++ [(5, S0, C)] ++ [(3, x, y)] ++ [(3, S0, C)] ++ [(4, S2, S3)], os)) := by
            obtain ⟨q0, q1, q2, q3, q4, q5, q6⟩ := HBw15.out
            exact ⟨q0, q1, q2, q3.alloc _, q4.alloc _, q5.alloc _, q6⟩
          have hs6 : w.heap.size ≤ (w15.alloc (.cells #[.int .i64 S1] 3)).heap.size := hb6.out.size
          go_wp2_with (at_builtin; refine wpList_append_own _ rfl _ _ 39 rfl w.heap.size 3 i0 (.int .i64 0) 1 8 Tryd.underlying39 hif hz0 hz1 hz2 rfl (by decide) _ _ _ rfl own6 ⟨w15.heap.size, 0, none⟩ 1 1 [.int .i64 S1] rfl rfl (oneI_cells w15 S1) (ints_one [S1]) (by unfold maxLen; omega) (by omega) hs6 ?_)
          intro v7 w7 own7 grow7 _
          have HB7 : Hid (Bld w7 lo hi b 99 (ins, G ++ [(5, x, y)] ++ [(5, S0, C)] ++ [(3, x, y)] ++ [(3, S0, C)] ++ [(4, S2, S3)], os)) := hB6.out.sum own6 hhi (by decide) grow7
          have HBl7 : Hid (Below lo w w7) := hb6.out.grown grow7 (by have := hb6.out.size; omega) (fun kk hk => Nat.le_trans hlo (own_block own6 hk).1)
          have HS7 : Hid (w7.ownsRow w.heap.size 3 1 v7 (j + 1) (cellsI (SL ++ [S1]))) := by
            show w7.ownsRow w.heap.size 3 1 v7 (j + 1) (cellsI (SL ++ [S1]))
            unfold cellsI
            rw [List.map_append]
            exact own7
          obtain ⟨va7, vc7, hv7⟩ := own_shape own7
          subst hv7
          clear own6 hb6 hB6 own7 grow7 HBw15 HBlw15 HSw15
          have HBF : Hid (Bld _ lo hi b 99 (ins, gs ++ (addG (a.take (j + 1)) (bb.take (j + 1)) carry N).1, os)) := (by have h1 := HB7.out; rw [← HNEW.out] at h1; exact h1)
          have HSF : Hid (World.ownsRow _ w.heap.size 3 1 (.slice va7 (j + 1) vc7) (addG (a.take (j + 1)) (bb.take (j + 1)) carry N).2.length (cellsI (addG (a.take (j + 1)) (bb.take (j + 1)) carry N).2)) := (by have h1 := HS7.out; rw [← HNS.out] at h1; rw [show (addG (a.take (j + 1)) (bb.take (j + 1)) carry N).2.length = j + 1 from by rw [HNS.out, List.length_append, hsl]; rfl]; exact h1)
          clear HNEW HNS HAC HBC HB7 HS7
          go_wp2_with fail
          go_roundw
          case rel => exact ⟨j + 1, by omega, by go_num, by rw [HON.out], HSF, HBF, HBl7⟩
          case measure => simp [intOf]; omega
    · obtain rfl : j = an := by omega
      have ha1 : a.take j = a := List.take_of_length_le (by have := HAL.out; omega)
      have hb1 : bb.take j = bb := List.take_of_length_le (by have := HBL.out; omega)
      rw [ha1, hb1] at HB HSU
      clear HA HBB ha1 hb1
      go_wp2_with fail
      go_ret
      exact ⟨_, rfl, HSU.out, HB.out, HBl.out⟩
end Go.Proofs.YtpjllhlbdcanlaaDoor

namespace Go.Proofs.YtpjllhlbdcanlaaDoor
open Go Go.RowKit
open M
set_option linter.unusedVariables false
set_option linter.unusedSimpArgs false

/-- how many wires a circuit has -/
def wiresN (c : Ci) : Int := c.1 + c.2.1.length
def sidesB (c : Ci) (a b : List Int) : Bool := goodC c && (decide (a.length = b.length) && (decide (a.length ≤ 16) && (a.all (inB (wiresN c)) && b.all (inB (wiresN c)))))
end Go.Proofs.YtpjllhlbdcanlaaDoor

namespace Go.Proofs.YtpjllhlbdcanlaaDoor
open Go Go.RowKit
open M
set_option linter.unusedVariables false
set_option linter.unusedSimpArgs false

theorem gates_from {w : World} {g : Nat} {t : List Gt} (hc : ∀ (i : Nat) (x : Gt), t[i]? = some x → GateAt w g (0 + i * 3) x) : ∀ (j : Nat) (u : Value), (flat3 t)[j]? = some u → w.cell? ((⟨g, 0, none⟩ : Addr).add j) = some u := by
  intro j u hu
  have hj : j < (flat3 t).length := (List.getElem?_eq_some_iff.1 hu).1
  rw [flat3_len] at hj
  have hi : j / 3 < t.length := by omega
  obtain ⟨x, hx⟩ : ∃ x, t[j / 3]? = some x := ⟨t[j / 3], List.getElem?_eq_getElem hi⟩
  obtain ⟨e0, e1, e2⟩ := flat3_at t (j / 3) x hx
  obtain ⟨d0, d1, d2⟩ := hc (j / 3) x hx
  have ea : (⟨g, 0, none⟩ : Addr).add j = ⟨g, j, none⟩ := by
    unfold Addr.add
    by_cases h0 : j = 0
    · subst h0
      simp
    · simp [h0]
  rw [ea]
  rw [Nat.zero_add] at d0 d1 d2
  have hr : j % 3 = 0 ∨ j % 3 = 1 ∨ j % 3 = 2 := by omega
  rcases hr with h | h | h
  · rw [show j / 3 * 3 = j from by omega] at e0 d0
    rw [hu] at e0
    rw [d0, e0]
  · rw [show j / 3 * 3 + 1 = j from by omega] at e1 d1
    rw [hu] at e1
    rw [d1, e1]
  · rw [show j / 3 * 3 + 2 = j from by omega] at e2 d2
    rw [hu] at e2
    rw [d2, e2]
/-- what is appended to a list of one's own: nothing, or a row -/
def Src (w : World) (v : Value) (n : Nat) (xs : List Value) : Prop := (n = 0 ∧ xs = [] ∧ v = .slice none 0 0) ∨ ∃ g cap : Nat, v = .slice (some ⟨g, 0, none⟩) n cap ∧ g < w.heap.size ∧ ∀ (j : Nat) (u : Value), xs[j]? = some u → w.cell? ((⟨g, 0, none⟩ : Addr).add j) = some u
theorem src_gates {w : World} {v : Value} {t : List Gt} (h1 : GatesAt w v t) (h2 : Strong w v t.length) : Src w v t.length (flat3 t) := by
  rcases strong_gates h1 h2 with ⟨e, hv⟩ | ⟨g, cap, hv, hg, _, hc⟩
  · subst e
    exact Or.inl ⟨rfl, rfl, hv⟩
  · exact Or.inr ⟨g, cap, hv, hg, gates_from hc⟩
theorem src_ints {w : World} {v : Value} {t : List Int} (h1 : IntsAt w v t) (h2 : Strong w v t.length) : Src w v t.length (cellsI t) := by
  rcases strong_ints h1 h2 with ⟨e, hv⟩ | ⟨g, cap, hv, hg, _, hc⟩
  · subst e
    exact Or.inl ⟨rfl, rfl, hv⟩
  · exact Or.inr ⟨g, cap, hv, hg, ints_from hc⟩
theorem Src.below {w w' : World} {v : Value} {n : Nat} {xs : List Value} (h : Src w v n xs) (hb : Below w.heap.size w w') : Src w' v n xs := by
  rcases h with h | ⟨g, cap, hv, hg, hc⟩
  · exact Or.inl h
  · refine Or.inr ⟨g, cap, hv, Nat.lt_of_lt_of_le hg hb.size, fun j u hu => ?_⟩
    have h1 := hc j u hu
    have hsp : ((⟨g, 0, none⟩ : Addr).add j).block = g := by unfold Addr.add; split <;> rfl
    rw [hb.cell (p := (⟨g, 0, none⟩ : Addr).add j) (by rw [hsp]; exact hg)]
    exact h1
theorem wp_append_src {P : Program} {o : Oper} {a : Act} {w : World} {K : Act → World → Prop} {Q : Exit → Act → World → Prop} (s x : Operand) (t : TypeId)
    (ho : o.op = .call { callee := .builtin .append, args := #[s, x], argTypes := #[t, t] })
    (base : Nat) (e : TypeId) (i : TypeInfo) (z : Value) (size bytes : Nat) (ht : P.underlying t = some (.slice e)) (hi : P.info? e = some i) (hz : i.zero = some z)
    (hsize : i.size = size) (hby : i.bytes = bytes) (hzs : z.cells.size = size) (hsz : 0 < size)
    (v : Value) (n : Nat) (xs : List Value) (hs : a.eval s = v) (hown : w.ownsRow base e size v n xs)
    (u : Value) (m : Nat) (news : List Value) (hx : a.eval x = u) (hsrc : Src w u m news) (hl : news.length = m * size) (h1 : ∀ u ∈ news, u.oneCell' = true)
    (h63 : n + m ≤ maxLen) (hbytes : (n + m) * bytes ≤ 140737488355328) (hbase : base ≤ w.heap.size)
    (h : ∀ v' w', w'.ownsRow base e size v' (n + m) (xs ++ news) → w.grownBy w' v.ownBlock → K (a.put o.dst v') w') : o.wp P a w K Q := by
  rcases hsrc with ⟨rfl, rfl, rfl⟩ | ⟨g, cap, rfl, _, hc⟩
  · have hrun := run_append_owned_none (P := P) (w := w) base t o.type e i size ht hi v n xs hown
    unfold Oper.wp
    simp [execOp, ho, resolve, invoke, builtin, hs, hx, hrun, Result.andThen]
    refine h v w ?_ (grown_refl _ _)
    rw [List.append_nil]
    exact hown
  · exact wp_append_own w s x t ho base e i z size bytes ht hi hz hsize hby hzs hsz v n xs hs hown ⟨g, 0, none⟩ m cap news hx hl hc h1 h63 hbytes hbase (fun v' w' h2 h3 _ => h v' w' h2 h3)
theorem step_append_src {P : Program} {ops : Array Oper} {o : Oper} {a : Act} {w : World} {K : Act → World → Prop} {Q : Exit → Act → World → Prop} {E : Prop} (hgd : o.guard = none) (s x : Operand) (t : TypeId)
    (ho : o.op = .call { callee := .builtin .append, args := #[s, x], argTypes := #[t, t] })
    (base : Nat) (e : TypeId) (i : TypeInfo) (z : Value) (size bytes : Nat) (ht : P.underlying t = some (.slice e)) (hi : P.info? e = some i) (hz : i.zero = some z)
    (hsize : i.size = size) (hby : i.bytes = bytes) (hzs : z.cells.size = size) (hsz : 0 < size)
    (v : Value) (n : Nat) (xs : List Value) (hs : a.eval s = v) (hown : w.ownsRow base e size v n xs)
    (u : Value) (m : Nat) (news : List Value) (hx : a.eval x = u) (hsrc : Src w u m news) (hl : news.length = m * size) (h1 : ∀ u ∈ news, u.oneCell' = true)
    (h63 : n + m ≤ maxLen) (hbytes : (n + m) * bytes ≤ 140737488355328) (hbase : base ≤ w.heap.size)
    (h : ∀ v' w', w'.ownsRow base e size v' (n + m) (xs ++ news) → w.grownBy w' v.ownBlock → K (a.put o.dst v') w') :
    if Region.wanted o (yielded ops a.tmps) = true then Oper.wp P o a w K Q else E := by
  have hw : Region.wanted o (yielded ops a.tmps) = true := by simp [Region.wanted, hgd]
  rw [if_pos hw]
  exact wp_append_src s x t ho base e i z size bytes ht hi hz hsize hby hzs hsz v n xs hs hown u m news hx hsrc hl h1 h63 hbytes hbase h
theorem wpList_append_src {P : Program} {ops : Array Oper} {rest : List Oper} {o : Oper} {a : Act} {w : World} {Q : Exit → Act → World → Prop} (hgd : o.guard = none) (s x : Operand) (t : TypeId)
    (ho : o.op = .call { callee := .builtin .append, args := #[s, x], argTypes := #[t, t] })
    (base : Nat) (e : TypeId) (i : TypeInfo) (z : Value) (size bytes : Nat) (ht : P.underlying t = some (.slice e)) (hi : P.info? e = some i) (hz : i.zero = some z)
    (hsize : i.size = size) (hby : i.bytes = bytes) (hzs : z.cells.size = size) (hsz : 0 < size)
    (v : Value) (n : Nat) (xs : List Value) (hs : a.eval s = v) (hown : w.ownsRow base e size v n xs)
    (u : Value) (m : Nat) (news : List Value) (hx : a.eval x = u) (hsrc : Src w u m news) (hl : news.length = m * size) (h1 : ∀ u ∈ news, u.oneCell' = true)
    (h63 : n + m ≤ maxLen) (hbytes : (n + m) * bytes ≤ 140737488355328) (hbase : base ≤ w.heap.size)
    (h : ∀ v' w', w'.ownsRow base e size v' (n + m) (xs ++ news) → w.grownBy w' v.ownBlock → wpList P ops Q rest (a.put o.dst v') w') : wpList P ops Q (o :: rest) a w :=
  wpList_plain hgd fun _ hK => wp_append_src s x t ho base e i z size bytes ht hi hz hsize hby hzs hsz v n xs hs hown u m news hx hsrc hl h1 h63 hbytes hbase (fun v' w' h2 h3 => hK _ _ (h v' w' h2 h3))
theorem Src.grown {w w' : World} {v : Value} {n : Nat} {xs : List Value} (h : Src w v n xs) (g : w.grownBy w' none) : Src w' v n xs := h.below ((Below.refl _ _).grown g (Nat.le_refl _) (fun k hk => by cases hk))
theorem Src.drew {w : World} {v : Value} {n : Nat} {xs : List Value} (h : Src w v n xs) : Src w.drew v n xs := h
end Go.Proofs.YtpjllhlbdcanlaaDoor

namespace Go.Proofs.YtpjllhlbdcanlaaDoor
open Go Go.RowKit
open M
set_option linter.unusedVariables false
set_option linter.unusedSimpArgs false

theorem own_emptyG (w : World) (base : Nat) (hb : base ≤ w.heap.size) : (w.alloc (.cells #[] 107)).ownsRow base 107 3 (.slice (some ⟨w.heap.size, 0, none⟩) 0 0) 0 [] := by
  refine ⟨rfl, Or.inr ⟨w.heap.size, 0, #[], rfl, hb, ?_, Nat.le_refl _, by unfold maxLen; omega, rfl, rfl⟩⟩
  show (w.heap.push _)[w.heap.size]? = _
  simp
set_option maxRecDepth 100000 in
theorem l1Own_any (a : Option Addr) (cap : Nat) (os : List Int) (hO : os.length ≤ 1000) (w : World) (h : Src w (.slice a os.length cap) os.length (cellsI os)) :
    Calls Tryd.prog 101 #[.slice a os.length cap] w fun e w' => ∃ r, e = .returned r ∧ w'.ownsRow w.heap.size 3 1 r os.length (cellsI os) ∧ Below w.heap.size w w' := by
  obtain ⟨i0, hif, hz0, hz1, hz2⟩ := info_parts infoInt
  have own0 := own_emptyI w w.heap.size (Nat.le_refl _)
  have hb0 : Below w.heap.size w (w.alloc (.cells #[] 3)) := (Below.refl _ _).alloc (Nat.le_refl _) _
  have h0 := h.below hb0
  have sol : (cellsI os).length = os.length * 1 := by simp [cellsI]
  clear h
  go_enter Tryd.func101, Tryd.ntmps101
  go_wp2_with (at_builtin; refine wpList_append_src rfl _ _ 39 rfl w.heap.size 3 i0 (.int .i64 0) 1 8 Tryd.underlying39 hif hz0 hz1 hz2 rfl (by decide) _ _ _ rfl own0 (.slice a os.length cap) os.length (cellsI os) rfl h0 sol (ints_one os) (by unfold maxLen; omega) (by omega) hb0.size ?_)
  intro v5 w5 own5 grow5
  have HO : Hid _ := own5
  have HB : Hid (Below w.heap.size w w5) := hb0.grown grow5 hb0.size (fun k hk => (own_block own0 hk).1)
  clear own5 grow5 own0 h0
  go_wp2_with fail
  go_ret
  exact ⟨_, rfl, HO.out, HB.out⟩
end Go.Proofs.YtpjllhlbdcanlaaDoor

namespace Go.Proofs.YtpjllhlbdcanlaaDoor
open Go Go.RowKit
open M
set_option linter.unusedVariables false
set_option linter.unusedSimpArgs false

theorem src_of_own {w : World} {B : Nat} {v : Value} {t : List Int} (h : w.ownsRow B 3 1 v t.length (cellsI t)) : Src w v t.length (cellsI t) := by
  have h0 := h
  rcases h.2 with ⟨h1, h2⟩ | ⟨g, cap, cur, h1, _, hh, _⟩
  · left
    have e : t = [] := List.length_eq_zero_iff.1 h2
    subst e
    exact ⟨rfl, rfl, h1⟩
  · right
    refine ⟨g, cap, h1, heap_lt hh, ?_⟩
    intro j u hu
    have hj : j < t.length := by
      have := (List.getElem?_eq_some_iff.1 hu).1
      simpa [cellsI] using this
    rw [h1] at h0
    have h2 := h0.cellAt j (by omega)
    rw [Addr.add_lit, Nat.zero_add]
    rw [h2]
    exact hu
/-- what two leaves -/
def TwoOut (lo hi b : Nat) (ins : Int) (gs : List Gt) (os : List Int) (w : World) (R : List Gt × List Int) (e : Ending) (w' : World) : Prop :=
  ∃ r, e = .returned r ∧ w'.ownsRow w.heap.size 3 1 r R.2.length (cellsI R.2) ∧ Bld w' lo hi b 99 (ins, gs ++ R.1, os) ∧ Fr lo w w'
end Go.Proofs.YtpjllhlbdcanlaaDoor

namespace Go.Proofs.YtpjllhlbdcanlaaDoor
open Go Go.RowKit
open M
set_option linter.unusedVariables false
set_option linter.unusedSimpArgs false

/-- where a product stands behind j places: what is still to be laid makes the whole -/
structure MulSt (a bb : List Int) (N : Int) (gs : List Gt) (ins : Int) (j : Nat) (SUM : List Int) (G : List Gt) : Prop where
  sum : SUM.length = a.length
  len : G.length = gs.length + a.length + j * (6 * a.length + 1)
  one : gs ++ (mulG a bb N).1 = G ++ (mulF a (bb.drop j) j SUM (ins + G.length)).1
  two : (mulG a bb N).2 = (mulF a (bb.drop j) j SUM (ins + G.length)).2
theorem mulSt_start {a bb : List Int} {N : Int} {gs : List Gt} {ins : Int} (hN : ins + gs.length = N) : MulSt a bb N gs ins 0 (wiresF N a.length) (gs ++ bitsG 0 a.length) where
  sum := wiresF_len _ _
  len := by rw [List.length_append, bitsG_len]; omega
  one := by
    have e : ins + ((gs ++ bitsG 0 a.length).length : Int) = N + a.length := by rw [List.length_append, bitsG_len]; omega
    rw [e]
    simp [mulG]
  two := by
    have e : ins + ((gs ++ bitsG 0 a.length).length : Int) = N + a.length := by rw [List.length_append, bitsG_len]; omega
    rw [e]
    simp [mulG]
theorem bitsG_zero (j : Nat) : bitsG 0 j = List.replicate j (1, 0, 0) := by
  unfold bitsG
  have h : ∀ i : Nat, bitI 0 i = 0 := fun i => by unfold bitI; simp
  simp only [h]
  induction j with
  | zero => rfl
  | succ j ih => rw [List.range_succ, List.map_append, ih, List.replicate_succ']; rfl
theorem mulSt_next {a bb : List Int} {N : Int} {gs : List Gt} {ins : Int} {j : Nat} {SUM : List Int} {G : List Gt} {y S : Int} (h : MulSt a bb N gs ins j SUM G) (hy : bb[j]? = some y) (hj : j < a.length) (hS : ins + G.length = S) :
    MulSt a bb N gs ins (j + 1) (addG SUM (wiresF S a.length) (S + a.length) (S + a.length + 1)).2 (G ++ bitsG 0 j ++ (a.take (a.length - j)).map (fun x => ((3, x, y) : Gt)) ++ bitsG 0 1 ++ (addG SUM (wiresF S a.length) (S + a.length) (S + a.length + 1)).1) := by
  have hd : bb.drop j = y :: bb.drop (j + 1) := by
    obtain ⟨hlt, rfl⟩ := List.getElem?_eq_some_iff.1 hy
    exact List.drop_eq_getElem_cons hlt
  have hA := addG_len SUM (wiresF S a.length) (S + a.length) (S + a.length + 1) (by rw [wiresF_len, h.sum])
  have hrow : bitsG 0 j ++ (a.take (a.length - j)).map (fun x => ((3, x, y) : Gt)) = mulRow a y j := by rw [bitsG_zero]; rfl
  have hrl := mulRow_len a y j (by omega)
  have h1 : bitsG 0 1 = [(1, 0, 0)] := by rw [bitsG_zero]; rfl
  have hG : G ++ bitsG 0 j ++ (a.take (a.length - j)).map (fun x => ((3, x, y) : Gt)) ++ bitsG 0 1 ++ (addG SUM (wiresF S a.length) (S + a.length) (S + a.length + 1)).1 = G ++ (mulRow a y j ++ [(1, 0, 0)] ++ (addG SUM (wiresF S a.length) (S + a.length) (S + a.length + 1)).1) := by
    rw [← hrow, h1]
    simp
  have hs := h.sum
  have hl2 : (G ++ (mulRow a y j ++ [(1, 0, 0)] ++ (addG SUM (wiresF S a.length) (S + a.length) (S + a.length + 1)).1)).length = G.length + (6 * a.length + 1) := by
    simp only [List.length_append, List.length_cons, List.length_nil, hrl, hA.1, hs]
    omega
  rw [hG]
  have hlen := h.len
  have e : ins + ((G ++ (mulRow a y j ++ [(1, 0, 0)] ++ (addG SUM (wiresF S a.length) (S + a.length) (S + a.length + 1)).1)).length : Int) = S + 6 * a.length + 1 := by
    rw [hl2]
    omega
  refine ⟨by rw [hA.2, hs], ?_, ?_, ?_⟩
  · rw [hl2, hlen, Nat.add_mul]
    omega
  · rw [h.one, hd, hS, e]
    simp only [mulF, List.append_assoc]
  · rw [h.two, hd, hS, e]
    simp only [mulF]
theorem mulSt_end {a bb : List Int} {N : Int} {gs : List Gt} {ins : Int} {SUM : List Int} {G : List Gt} (h : MulSt a bb N gs ins bb.length SUM G) : gs ++ (mulG a bb N).1 = G ∧ (mulG a bb N).2 = SUM := by
  have h1 := h.one
  have h2 := h.two
  rw [List.drop_length] at h1 h2
  simp only [mulF, List.append_nil] at h1 h2
  exact ⟨h1, h2⟩
theorem map_snoc (a : List Int) (i : Nat) (x y : Int) (m : Nat) (hi : (a.take m)[i]? = some x) : ((a.take m).take (i + 1)).map (fun z => ((3, z, y) : Gt)) = ((a.take m).take i).map (fun z => ((3, z, y) : Gt)) ++ [(3, x, y)] := by
  rw [List.take_add_one, hi, List.map_append]
  rfl
set_option maxRecDepth 100000 in
set_option maxHeartbeats 8000000 in
theorem iTimes5_any (lo hi b cc cb : Nat) (fv : Value) (ins : Int) (gs : List Gt) (os : List Int) (av bv : Value) (a bb : List Int) (hl : a.length = bb.length) (hl4 : a.length ≤ 4) (N : Int) (hN : ins + gs.length = N) (hI0 : 0 ≤ ins) (hI1 : ins ≤ 16) (hn : gs.length ≤ 18000) (w : World) (h : Bld w lo hi b 41 (ins, gs, os)) (hhi : hi ≤ w.heap.size)
    (hcc : CellT w cc 130 fv) (hfv : BitsV w fv b) (hcb : CellT w cb 118 (.pointer (some ⟨b, 0, none⟩))) (hca : CapN av) (ha : ∀ w', Fr lo w w' → IntsAt w' av a) (hb : ∀ w', Fr lo w w' → IntsAt w' bv bb) :
    Calls Tryd.prog 120 #[av, bv, .pointer (some ⟨cc, 0, none⟩), .pointer (some ⟨cb, 0, none⟩)] w fun e w' => ∃ r, e = .returned r ∧ w'.ownsRow w.heap.size 3 1 r (mulG a bb N).2.length (cellsI (mulG a bb N).2) ∧ Bld w' lo hi b 41 (ins, gs ++ (mulG a bb N).1, os) ∧ Fr lo w w' := by
  obtain ⟨kb, rfl, hkb⟩ := hfv
  have hlo := h.size
  have GB : Hid (∀ (k : Nat) (G : List Gt) (S : Int) (w1 : World), k ≤ 16 → ins + G.length = S → G.length ≤ 20000 → Bld w1 lo hi b 41 (ins, G, os) → Fr lo w w1 → Calls Tryd.prog 116 #[.int .i64 k, .int .u64 0, .pointer (some ⟨kb, 0, none⟩)] w1 fun e w' => ∃ r, e = .returned r ∧ w'.ownsRow w1.heap.size 3 1 r k (cellsI (wiresF S k)) ∧ Bld w' lo hi b 41 (ins, G ++ bitsG 0 k, os) ∧ Fr lo w1 w') :=
    fun k G S w1 h1 h2 h3 h4 h5 => iBits5_any lo hi b kb ins G os k h1 0 (by omega) (by omega) S h2 hI0 hI1 h3 w1 h4 (by have := h5.size; omega) (hkb.keep h5.keep)
  have GADD : Hid (∀ (G : List Gt) (S C : Int) (uv vv : Value) (X Y : List Int) (w1 : World), ins + G.length = S → G.length ≤ 20000 → X.length = Y.length → X.length ≤ 16 → Bld w1 lo hi b 41 (ins, G, os) → w.heap.size ≤ w1.heap.size → (∀ w', Fr lo w1 w' → IntsAt w' uv X) → (∀ w', Fr lo w1 w' → IntsAt w' vv Y) → Calls Tryd.prog 109 #[.pointer (some ⟨b, 0, none⟩), uv, vv, .int .i64 C] w1 fun e w' => ∃ r, e = .returned r ∧ w'.ownsRow w1.heap.size 3 1 r (addG X Y C S).2.length (cellsI (addG X Y C S).2) ∧ Bld w' lo hi b 41 (ins, G ++ (addG X Y C S).1, os) ∧ Fr lo w1 w') :=
    fun G S C uv vv X Y w1 h1 h2 h3 h4 h5 h6 h7 h8 => iAdd5_any lo hi b ins G os uv vv X Y C S h1 hI0 hI1 h2 h3 h4 w1 h5 (by omega) h7 h8
  have HCC : Hid (∀ w', Fr lo w w' → cc < w'.heap.size ∧ w'.cell? ⟨cc, 0, none⟩ = some (.func (.func 116) #[] #[.pointer (some ⟨kb, 0, none⟩)])) := fun w' hw => (hcc.keep hw.keep).cell
  have HCB : Hid (∀ w', Fr lo w w' → cb < w'.heap.size ∧ w'.cell? ⟨cb, 0, none⟩ = some (.pointer (some ⟨b, 0, none⟩))) := fun w' hw => (hcb.keep hw.keep).cell
  obtain ⟨aa, acap, hav, _⟩ := (ha w (Fr.refl _ _)).opened
  obtain ⟨ba, bcap, hbv, _⟩ := (hb w (Fr.refl _ _)).opened
  subst hav hbv
  have hcap : a.length ≤ acap := hca _ _ _ rfl
  have HA : Hid (∀ w', Fr lo w w' → ∀ (i : Nat) (x : Int), a[i]? = some x → ∃ g off : Nat, aa = some ⟨g, off, none⟩ ∧ g < w'.heap.size ∧ w'.cell? ⟨g, off + i, none⟩ = some (.int .i64 x)) := fun w' hw i x hx => by
    obtain ⟨_, _, e, hc⟩ := (ha w' hw).opened
    injection e with e1 e2 e3
    subst e1
    exact hc i x hx
  have HBB : Hid (∀ w', Fr lo w w' → ∀ (i : Nat) (x : Int), bb[i]? = some x → ∃ g off : Nat, ba = some ⟨g, off, none⟩ ∧ g < w'.heap.size ∧ w'.cell? ⟨g, off + i, none⟩ = some (.int .i64 x)) := fun w' hw i x hx => by
    obtain ⟨_, _, e, hc⟩ := (hb w' hw).opened
    injection e with e1 e2 e3
    subst e1
    exact hc i x hx
  obtain ⟨i0, hif, hz0, hz1, hz2⟩ := info_parts infoInt
  have HM0 : Hid (MulSt a bb N gs ins 0 (wiresF N a.length) (gs ++ bitsG 0 a.length)) := mulSt_start hN
  obtain ⟨d1, d2⟩ := HCC.out w (Fr.refl _ _)
  have g1 := GB.out a.length gs N w (by omega) hN (by omega) h (Fr.refl _ _)
  clear ha hb h hcc hcb hkb
  generalize hal : a.length = an at *
  rw [← hl]
  have HAL : Hid (a.length = an) := hal
  have HBL : Hid (bb.length = an) := hl.symm
  clear hal hl
  go_enter Tryd.func120, Tryd.ntmps120
  go_wp2_with fail
  refine g1.mono ?_
  rintro e w1 ⟨r1, rfl, own1, hB1, hf1⟩
  obtain ⟨ra1, rc1, hr1⟩ := own_shape own1
  subst hr1
  have OW1 : Hid _ := own1
  have HB1 : Hid _ := hB1
  have HF1 : Hid (Fr lo w w1) := hf1
  clear g1 own1 hB1 hf1 d1 d2
  go_wp2_with fail
  go_loopw [7, 20] (fun vs i wr => ∃ j : Nat, j ≤ an ∧ i = .int .i64 j ∧ ∃ (SUM : List Int) (G : List Gt), Hid (wr.ownsRow w.heap.size 3 1 vs an (cellsI SUM)) ∧ Hid (Bld wr lo hi b 41 (ins, G, os)) ∧ Hid (Fr lo w wr) ∧ Hid (MulSt a bb N gs ins j SUM G)) (fun _ i _ => an - (intOf i).toNat)
  case atStart => exact ⟨0, by omega, rfl, _, _, OW1, HB1, HF1, HM0⟩
  case round =>
    obtain ⟨j, hj, rfl, SUM, G, OW, HB, HF, HM⟩ := hrel
    generalize wr = wq at *
    clear HM0 OW1 HB1 HF1
    by_cases hlt : j < an
    · obtain ⟨y, hy⟩ : ∃ y, bb[j]? = some y := ⟨bb[j]'(by have := HBL.out; omega), List.getElem?_eq_getElem _⟩
      obtain ⟨bg, boff, rfl, bl1, bl2⟩ := HBB.out wq HF.out j y hy
      obtain ⟨sa, sc, hs0⟩ := own_shape OW.out
      subst hs0
      obtain ⟨c1, c2⟩ := HCC.out wq HF.out
      obtain ⟨S, hS⟩ : ∃ S : Int, ins + (G.length : Int) = S := ⟨_, rfl⟩
      have hGn : G.length ≤ 18200 := by
        have h1 := HM.out.len
        have h2 := HAL.out
        have : j * (6 * a.length + 1) ≤ 4 * 25 := Nat.mul_le_mul (by omega) (by omega)
        omega
      have g2 := GB.out j G S wq (by omega) hS (by omega) HB.out HF.out
      have HY : Hid (bb[j]? = some y) := hy
      have hjA : (j : Int) < (an : Int) := by omega
      clear hy
      obtain ⟨x0, hx0⟩ : ∃ x, a[0]? = some x := ⟨a[0]'(by have := HAL.out; omega), List.getElem?_eq_getElem _⟩
      obtain ⟨ag, aoff, rfl, _, _⟩ := HA.out wq HF.out 0 x0 hx0
      clear hx0
      obtain ⟨m, hm⟩ : ∃ m : Nat, an - j = m := ⟨_, rfl⟩
      have hmi : (an : Int) - (j : Int) = (m : Int) := by omega
      have hmn : m ≤ an := by omega
      go_wp2_with fail
      refine g2.mono ?_
      rintro e w3 ⟨r3, rfl, own3, hB3, hf3⟩
      obtain ⟨ra3, rc3, hr3⟩ := own_shape own3
      subst hr3
      have OW3 : Hid _ := own3
      have HB3 : Hid _ := hB3
      have HF3 : Hid (Fr lo wq w3) := hf3
      clear g2 own3 hB3 hf3 c1 c2 bl1 bl2
      go_wp2_with fail
      have HMM : Hid (an - j = m) := hm
      clear hm
      go_loopw [10, 35] (fun vs i w' => ∃ i' : Nat, i' ≤ m ∧ i = .int .i64 i' ∧ Hid (w'.ownsRow wq.heap.size 3 1 vs (j + i') (cellsI (wiresF S (j + i')))) ∧ Hid (Bld w' lo hi b 41 (ins, G ++ bitsG 0 j ++ ((a.take m).take i').map (fun z => ((3, z, y) : Gt)), os)) ∧ Hid (Fr lo wq w')) (fun _ i _ => m - (intOf i).toNat)
      case atStart =>
        refine ⟨0, by omega, rfl, OW3, ?_, HF3⟩
        have h1 := HB3.out
        show Bld w3 lo hi b 41 (ins, G ++ bitsG 0 j ++ [], os)
        rw [List.append_nil]
        exact h1
      case round =>
        obtain ⟨i', hi', rfl, OWi, HBi, HFi⟩ := hrel
        clear OW3 HB3 HF3
        have HFw : Hid (Fr lo w wr) := HF.out.trans HFi.out
        by_cases hlt2 : i' < m
        · obtain ⟨x, hx⟩ : ∃ x, a[i']? = some x := ⟨a[i']'(by have := HAL.out; omega), List.getElem?_eq_getElem _⟩
          obtain ⟨g_, off_, e_, al1, al2⟩ := HA.out wr HFw.out i' x hx
          injection e_ with e1
          injection e1 with e2 e3
          subst e2 e3
          obtain ⟨c1, c2⟩ := HCB.out wr HFw.out
          have hx2 : (a.take m)[i']? = some x := by rw [List.getElem?_take_of_lt hlt2]; exact hx
          obtain ⟨S0, hS0⟩ : ∃ S0 : Int, S + ((j + i' : Nat) : Int) = S0 := ⟨_, rfl⟩
          obtain ⟨G2, hG2⟩ : ∃ G2, G ++ bitsG 0 j ++ ((a.take m).take i').map (fun z => ((3, z, y) : Gt)) = G2 := ⟨_, rfl⟩
          have hG2l : G2.length = G.length + j + i' := by
            rw [← hG2]
            simp only [List.length_append, bitsG_len, List.length_map, List.length_take]
            have := HAL.out
            omega
          have HNEW : Hid (G ++ bitsG 0 j ++ ((a.take m).take (i' + 1)).map (fun z => ((3, z, y) : Gt)) = G2 ++ [(3, x, y)]) := by
            show G ++ bitsG 0 j ++ ((a.take m).take (i' + 1)).map (fun z => ((3, z, y) : Gt)) = G2 ++ [(3, x, y)]
            rw [map_snoc a i' x y m hx2, ← hG2]
            simp
          have HNS : Hid (wiresF S (j + (i' + 1)) = wiresF S (j + i') ++ [S0]) := by
            show wiresF S (j + (i' + 1)) = _
            rw [show j + (i' + 1) = (j + i') + 1 from by omega, wiresF_snoc, hS0]
          obtain ⟨SL, hSL⟩ : ∃ SL, wiresF S (j + i') = SL := ⟨_, rfl⟩
          rw [hSL] at OWi HNS
          rw [hG2] at HBi
          obtain ⟨jn, hjn⟩ : ∃ jn, j + i' = jn := ⟨_, rfl⟩
          have hjn1 : jn ≤ 4 := by omega
          have HJN : Hid (j + i' = jn) := hjn
          rw [hjn] at OWi
          obtain ⟨va, vc, hv0⟩ := own_shape OWi.out
          subst hv0
          have hGS : ins + (G2.length : Int) = S0 := by omega
          have hG2n : G2.length ≤ 21000 := by omega
          have hiA : (i' : Int) < (m : Int) := by omega
          have HG2L : Hid (G2.length = G.length + j + i') := hG2l
          clear hG2 hSL hx hx2 hG2l hjn
          go_wp2_with fail
          refine (lay5_at lo hi b ins G2 os S0 3 x y hGS hI0 hI1 (by omega) _ HBi.out).mono ?_
          rintro e w5 ⟨rfl, hB5, hf5, hk5⟩
          have own5 : w5.ownsRow wq.heap.size 3 1 (.slice va jn vc) jn (cellsI SL) := own_keepT OWi.out hk5.int
          have own6 := World.ownsRow.alloc own5 (.cells #[.int .i64 S0] 3)
          have HF5 : Hid (Fr lo wq w5) := HFi.out.trans hf5
          have hrs := HF.out.size
          have hb6 : Hid (Fr lo wq (w5.alloc (.cells #[.int .i64 S0] 3))) := HF5.out.alloc (by have := HF5.out.size; omega) _
          have hB6 : Hid (Bld (w5.alloc (.cells #[.int .i64 S0] 3)) lo hi b 41 (ins, G2 ++ [(3, x, y)], os)) := hB5.alloc _
          have hs6 : wq.heap.size ≤ (w5.alloc (.cells #[.int .i64 S0] 3)).heap.size := hb6.out.size
          clear hB5 hf5 hk5 own5 OWi HBi HFi HFw c1 c2 al1 al2
          go_wp2_with (at_builtin; refine wpList_append_own _ rfl _ _ 39 rfl wq.heap.size 3 i0 (.int .i64 0) 1 8 Tryd.underlying39 hif hz0 hz1 hz2 rfl (by decide) _ _ _ rfl own6 ⟨w5.heap.size, 0, none⟩ 1 1 [.int .i64 S0] rfl rfl (oneI_cells w5 S0) (ints_one [S0]) (by unfold maxLen; omega) (by omega) hs6 ?_)
          intro v7 w7 own7 grow7 _
          have HB7 : Hid (Bld w7 lo hi b 41 (ins, G ++ bitsG 0 j ++ ((a.take m).take (i' + 1)).map (fun z => ((3, z, y) : Gt)), os)) := by
            have h1 := hB6.out.sum own6 (by omega) (by decide) grow7
            rw [← HNEW.out] at h1
            exact h1
          have HF7 : Hid (Fr lo wq w7) := hb6.out.grown grow7 (by omega) (fun kk hk => (own_block own6 hk).1)
          have HS7 : Hid (w7.ownsRow wq.heap.size 3 1 v7 (j + (i' + 1)) (cellsI (wiresF S (j + (i' + 1))))) := by
            show w7.ownsRow wq.heap.size 3 1 v7 (j + (i' + 1)) (cellsI (wiresF S (j + (i' + 1))))
            rw [HNS.out, show j + (i' + 1) = jn + 1 from by have := HJN.out; omega]
            unfold cellsI
            rw [List.map_append]
            exact own7
          clear own6 hb6 hB6 own7 grow7 HNEW HNS HF5
          go_wp2_with fail
          go_roundw
          case rel => exact ⟨i' + 1, by omega, by go_num, HS7, HB7, HF7⟩
          case measure => simp [intOf]; omega
        · obtain rfl : i' = m := by omega
          have hjm : j + i' = an := by have := HMM.out; omega
          rw [hjm] at OWi
          have htk : (a.take i').take i' = a.take (an - j) := by rw [List.take_take, Nat.min_self]; congr 1; omega
          rw [htk] at HBi
          obtain ⟨G3, hG3⟩ : ∃ G3, G ++ bitsG 0 j ++ (a.take (an - j)).map (fun z => ((3, z, y) : Gt)) = G3 := ⟨_, rfl⟩
          rw [hG3] at HBi
          have hG3l : G3.length = G.length + an := by
            rw [← hG3]
            simp only [List.length_append, bitsG_len, List.length_map, List.length_take]
            have := HAL.out
            omega
          obtain ⟨S1, hS1⟩ : ∃ S1 : Int, S + (an : Int) = S1 := ⟨_, rfl⟩
          have hGS1 : ins + (G3.length : Int) = S1 := by omega
          have g5 := GB.out 1 G3 S1 wr (by omega) hGS1 (by omega) HBi.out HFw.out
          obtain ⟨d1, d2⟩ := HCC.out wr HFw.out
          obtain ⟨va, vc, hv0⟩ := own_shape OWi.out
          subst hv0
          have HG3 : Hid (G ++ bitsG 0 j ++ (a.take (an - j)).map (fun z => ((3, z, y) : Gt)) = G3) := hG3
          have HG3L : Hid (G3.length = G.length + an) := hG3l
          clear hG3 hjm htk HMM hG3l
          go_wp2_with fail
          refine g5.mono ?_
          rintro e w8 ⟨r8, rfl, own8, hB8, hf8⟩
          obtain ⟨ra8, rc8, hr8⟩ := own_shape own8
          subst hr8
          have OW8 : Hid (w8.ownsRow wr.heap.size 3 1 (.slice ra8 1 rc8) 1 (cellsI (wiresF S1 1))) := own8
          have HB8 : Hid (Bld w8 lo hi b 41 (ins, G3 ++ bitsG 0 1, os)) := hB8
          have HF8 : Hid (Fr lo wr w8) := hf8
          clear g5 own8 hB8 hf8 d1 d2
          have hsl : SUM.length = an := by rw [HM.out.sum]; exact HAL.out
          have HF8q : Hid (Fr lo wq w8) := HFi.out.trans HF8.out
          have HF8w : Hid (Fr lo w w8) := HF.out.trans HF8q.out
          have OWS8 : Hid (w8.ownsRow w.heap.size 3 1 (.slice sa an sc) SUM.length (cellsI SUM)) := by
            rw [hsl]
            exact own_keepT OW.out HF8q.out.keep.int
          have OWM8 : Hid (w8.ownsRow wq.heap.size 3 1 (.slice va an vc) (wiresF S an).length (cellsI (wiresF S an))) := by
            rw [wiresF_len]
            exact own_keepT OWi.out HF8.out.keep.int
          have HIA : Hid (∀ w', Fr lo w8 w' → IntsAt w' (.slice sa an sc) SUM) := fun w' hf => ints_keep OWS8.out hf.keep (by omega)
          have HIB : Hid (∀ w', Fr lo w8 w' → IntsAt w' (.slice va an vc) (wiresF S an)) := fun w' hf => ints_keep OWM8.out hf.keep (by rw [wiresF_len]; omega)
          obtain ⟨_, _, e8, hc8⟩ := (ints_keep (t := wiresF S1 1) OW8.out (KeepC.refl _) (by rw [wiresF_len]; omega)).opened
          injection e8 with e81 e82 e83
          obtain ⟨kg, koff, hkk, kl1, kl2⟩ := hc8 0 S1 (by simp [wiresF])
          rw [← e81] at hkk
          subst hkk
          have kl3 : w8.cell? ⟨kg, koff, none⟩ = some (.int .i64 S1) := kl2
          obtain ⟨c1, c2⟩ := HCB.out w8 HF8w.out
          have hG4 : ins + ((G3 ++ bitsG 0 1).length : Int) = S1 + 1 := by
            rw [List.length_append, bitsG_len]
            have := HG3L.out
            omega
          have hG4n : (G3 ++ bitsG 0 1).length ≤ 20000 := by
            rw [List.length_append, bitsG_len]
            have := HG3L.out
            omega
          have hSW : SUM.length = (wiresF S an).length := by rw [wiresF_len]; exact hsl
          have HMN : Hid (MulSt a bb N gs ins (j + 1) (addG SUM (wiresF S an) S1 (S1 + 1)).2 (G3 ++ bitsG 0 1 ++ (addG SUM (wiresF S an) S1 (S1 + 1)).1)) := by
            have h1 := mulSt_next HM.out HY.out (by have := HAL.out; omega) hS
            rw [HAL.out, hS1, HG3.out] at h1
            exact h1
          have HAL2 : Hid ((addG SUM (wiresF S an) S1 (S1 + 1)).2.length = an) := by
            show (addG SUM (wiresF S an) S1 (S1 + 1)).2.length = an
            rw [(addG_len SUM (wiresF S an) S1 (S1 + 1) hSW).2]
            exact hsl
          have GADD2 : Hid (∀ w9 : World, (w9 = w8 ∨ w9 = w8.drew) → Calls Tryd.prog 109 #[.pointer (some ⟨b, 0, none⟩), .slice sa an sc, .slice va an vc, .int .i64 S1] w9 fun e w' => ∃ r, e = .returned r ∧ w'.ownsRow w.heap.size 3 1 r an (cellsI (addG SUM (wiresF S an) S1 (S1 + 1)).2) ∧ Bld w' lo hi b 41 (ins, G3 ++ bitsG 0 1 ++ (addG SUM (wiresF S an) S1 (S1 + 1)).1, os) ∧ Fr lo w w') := by
            intro w9 h9
            have hf9 : Fr lo w8 w9 := by
              rcases h9 with rfl | rfl
              · exact Fr.refl _ _
              · exact (Fr.refl _ _).drew
            have hb9 : Bld w9 lo hi b 41 (ins, G3 ++ bitsG 0 1, os) := by
              rcases h9 with rfl | rfl
              · exact HB8.out
              · exact Bld.drew HB8.out
            have hs9 : w.heap.size ≤ w9.heap.size := Nat.le_trans HF8w.out.size hf9.size
            refine (GADD.out (G3 ++ bitsG 0 1) (S1 + 1) S1 _ _ SUM (wiresF S an) w9 hG4 hG4n hSW (by omega) hb9 hs9 (fun w' hf => HIA.out w' (hf9.trans hf)) (fun w' hf => HIB.out w' (hf9.trans hf))).mono ?_
            rintro e w' ⟨r, rfl, o, bld, fr⟩
            refine ⟨r, rfl, ?_, bld, HF8w.out.trans (hf9.trans fr)⟩
            have h1 := own_base o hs9
            rw [HAL2.out] at h1
            exact h1
          clear hG4 hG4n hSW hsl HIA HIB OWS8 OWM8 OW8 HB8 HF8 HF8q HF8w OW OWi HBi HFi HFw HF HB HM HY HA HBB GB GADD hc8 e81 e82 e83 HG3 HG3L HAL2
          go_wp2_with fail
          go_region_with (go_at_call 109; refine (GADD2.out _ (by first | exact Or.inl rfl | exact Or.inr rfl)).mono ?_; rintro e w9 ⟨r9, rfl, o9, b9, f9⟩; have O9 : Hid _ := o9; have B9 : Hid _ := b9; have F9 : Hid (Fr lo w w9) := f9; clear o9 b9 f9)
          all_goals
            go_wp2_with fail
            go_roundw
            case rel => exact ⟨j + 1, by omega, by go_num, _, _, O9, B9, F9, HMN⟩
            case measure => simp [intOf]; omega
    · obtain rfl : j = an := by omega
      have h1 := HM.out
      rw [← HBL.out] at h1
      obtain ⟨e1, e2⟩ := mulSt_end h1
      have hsl : SUM.length = j := by rw [h1.sum]; exact HAL.out
      have HR : Hid (wq.ownsRow w.heap.size 3 1 u7 (mulG a bb N).2.length (cellsI (mulG a bb N).2) ∧ Bld wq lo hi b 41 (ins, gs ++ (mulG a bb N).1, os)) := by
        show wq.ownsRow w.heap.size 3 1 u7 (mulG a bb N).2.length (cellsI (mulG a bb N).2) ∧ Bld wq lo hi b 41 (ins, gs ++ (mulG a bb N).1, os)
        rw [e1, e2, hsl]
        exact ⟨OW.out, HB.out⟩
      clear e1 e2 h1 hsl HA HBB
      go_wp2_with fail
      go_ret
      exact ⟨_, rfl, HR.out.1, HR.out.2, HF.out⟩
end Go.Proofs.YtpjllhlbdcanlaaDoor

namespace Go.Proofs.YtpjllhlbdcanlaaDoor
open Go Go.RowKit
open M
set_option linter.unusedVariables false
set_option linter.unusedSimpArgs false

theorem mulRow_low (x : List Int) (y : Int) (k i : Nat) (hi : i < k) : (mulRow x y k)[i]? = some (1, 0, 0) := by
  unfold mulRow
  rw [List.getElem?_append_left (by simp; omega)]
  simp [hi]
theorem mulRow_high (x : List Int) (y z : Int) (k i : Nat) (hi : k ≤ i) (hk : i < x.length) (hz : x[i - k]? = some z) : (mulRow x y k)[i]? = some (3, z, y) := by
  unfold mulRow
  rw [List.getElem?_append_right (by simp; omega)]
  simp only [List.length_replicate, List.getElem?_map]
  rw [List.getElem?_take_of_lt (by omega), hz]
  rfl
theorem mulSt_next2 {a bb : List Int} {N : Int} {gs : List Gt} {ins : Int} {j : Nat} {SUM : List Int} {G : List Gt} {y S : Int} (h : MulSt a bb N gs ins j SUM G) (hy : bb[j]? = some y) (hj : j < a.length) (hS : ins + G.length = S) :
    MulSt a bb N gs ins (j + 1) (addG SUM (wiresF S a.length) (S + a.length) (S + a.length + 1)).2 (G ++ mulRow a y j ++ [(1, 0, 0)] ++ (addG SUM (wiresF S a.length) (S + a.length) (S + a.length + 1)).1) := by
  have h1 := mulSt_next h hy hj hS
  have hrow : bitsG 0 j ++ (a.take (a.length - j)).map (fun x => ((3, x, y) : Gt)) = mulRow a y j := by rw [bitsG_zero]; rfl
  have h2 : bitsG 0 1 = [(1, 0, 0)] := by rw [bitsG_zero]; rfl
  rw [List.append_assoc G, hrow, h2] at h1
  exact h1
set_option maxRecDepth 100000 in
set_option maxHeartbeats 8000000 in
theorem sMul5_any (lo hi b : Nat) (ins : Int) (gs : List Gt) (os : List Int) (av bv : Value) (a bb : List Int) (hl : a.length = bb.length) (hl4 : a.length ≤ 4) (N : Int) (hN : ins + gs.length = N) (hI0 : 0 ≤ ins) (hI1 : ins ≤ 16) (hn : gs.length ≤ 18000) (w : World) (h : Bld w lo hi b 99 (ins, gs, os)) (hhi : hi ≤ w.heap.size)
    (ha : ∀ w', Fr lo w w' → IntsAt w' av a) (hb : ∀ w', Fr lo w w' → IntsAt w' bv bb) :
    Calls Tryd.prog 97 #[.pointer (some ⟨b, 0, none⟩), av, bv] w fun e w' => ∃ r, e = .returned r ∧ w'.ownsRow w.heap.size 3 1 r (mulG a bb N).2.length (cellsI (mulG a bb N).2) ∧ Bld w' lo hi b 99 (ins, gs ++ (mulG a bb N).1, os) ∧ Fr lo w w' := by
  have hlo := h.size
  have GADD : Hid (∀ (G : List Gt) (S C : Int) (uv vv : Value) (X Y : List Int) (w1 : World), ins + G.length = S → G.length ≤ 20000 → X.length = Y.length → X.length ≤ 16 → Bld w1 lo hi b 99 (ins, G, os) → w.heap.size ≤ w1.heap.size → (∀ w', Fr lo w1 w' → IntsAt w' uv X) → (∀ w', Fr lo w1 w' → IntsAt w' vv Y) → Calls Tryd.prog 96 #[.pointer (some ⟨b, 0, none⟩), uv, vv, .int .i64 C] w1 fun e w' => ∃ r, e = .returned r ∧ w'.ownsRow w1.heap.size 3 1 r (addG X Y C S).2.length (cellsI (addG X Y C S).2) ∧ Bld w' lo hi b 99 (ins, G ++ (addG X Y C S).1, os) ∧ Fr lo w1 w') :=
    fun G S C uv vv X Y w1 h1 h2 h3 h4 h5 h6 h7 h8 => sAdd5_any lo hi b ins G os uv vv X Y C S h1 hI0 hI1 h2 h3 h4 w1 h5 (by omega) h7 h8
  obtain ⟨aa, acap, hav, _⟩ := (ha w (Fr.refl _ _)).opened
  obtain ⟨ba, bcap, hbv, _⟩ := (hb w (Fr.refl _ _)).opened
  subst hav hbv
  have HA : Hid (∀ w', Fr lo w w' → ∀ (i : Nat) (x : Int), a[i]? = some x → ∃ g off : Nat, aa = some ⟨g, off, none⟩ ∧ g < w'.heap.size ∧ w'.cell? ⟨g, off + i, none⟩ = some (.int .i64 x)) := fun w' hw i x hx => by
    obtain ⟨_, _, e, hc⟩ := (ha w' hw).opened
    injection e with e1 e2 e3
    subst e1
    exact hc i x hx
  have HBB : Hid (∀ w', Fr lo w w' → ∀ (i : Nat) (x : Int), bb[i]? = some x → ∃ g off : Nat, ba = some ⟨g, off, none⟩ ∧ g < w'.heap.size ∧ w'.cell? ⟨g, off + i, none⟩ = some (.int .i64 x)) := fun w' hw i x hx => by
    obtain ⟨_, _, e, hc⟩ := (hb w' hw).opened
    injection e with e1 e2 e3
    subst e1
    exact hc i x hx
  obtain ⟨i0, hif, hz0, hz1, hz2⟩ := info_parts infoInt
  have HM0 : Hid (MulSt a bb N gs ins 0 (wiresF N a.length) (gs ++ bitsG 0 a.length)) := mulSt_start hN
  have g1 := sBits5_any lo hi b ins gs os a.length (by omega) 0 (by omega) (by omega) N hN hI0 hI1 (by omega) w h hhi
  clear ha hb h
  generalize hal : a.length = an at *
  rw [← hl]
  have HAL : Hid (a.length = an) := hal
  have HBL : Hid (bb.length = an) := hl.symm
  clear hal hl
  go_enter Tryd.func97, Tryd.ntmps97
  go_wp2_with fail
  refine g1.mono ?_
  rintro e w1 ⟨r1, rfl, own1, hB1, hf1⟩
  obtain ⟨ra1, rc1, hr1⟩ := own_shape own1
  subst hr1
  have OW1 : Hid _ := own1
  have HB1 : Hid _ := hB1
  have HF1 : Hid (Fr lo w w1) := hf1
  clear g1 own1 hB1 hf1
  go_wp2_with fail
  go_loopw [7, 18] (fun vs i wr => ∃ j : Nat, j ≤ an ∧ i = .int .i64 j ∧ ∃ (SUM : List Int) (G : List Gt), Hid (wr.ownsRow w.heap.size 3 1 vs an (cellsI SUM)) ∧ Hid (Bld wr lo hi b 99 (ins, G, os)) ∧ Hid (Fr lo w wr) ∧ Hid (MulSt a bb N gs ins j SUM G)) (fun _ i _ => an - (intOf i).toNat)
  case atStart => exact ⟨0, by omega, rfl, _, _, OW1, HB1, HF1, HM0⟩
  case round =>
    obtain ⟨j, hj, rfl, SUM, G, OW, HB, HF, HM⟩ := hrel
    generalize wr = wq at *
    clear HM0 OW1 HB1 HF1
    by_cases hlt : j < an
    · obtain ⟨y, hy⟩ : ∃ y, bb[j]? = some y := ⟨bb[j]'(by have := HBL.out; omega), List.getElem?_eq_getElem _⟩
      obtain ⟨bg, boff, rfl, _, _⟩ := HBB.out wq HF.out j y hy
      obtain ⟨x0, hx0⟩ : ∃ x, a[0]? = some x := ⟨a[0]'(by have := HAL.out; omega), List.getElem?_eq_getElem _⟩
      obtain ⟨ag, aoff, rfl, _, _⟩ := HA.out wq HF.out 0 x0 hx0
      clear hx0
      obtain ⟨sa, sc, hs0⟩ := own_shape OW.out
      subst hs0
      obtain ⟨S, hS⟩ : ∃ S : Int, ins + (G.length : Int) = S := ⟨_, rfl⟩
      have hGn : G.length ≤ 18200 := by
        have h1 := HM.out.len
        have h2 := HAL.out
        have : j * (6 * a.length + 1) ≤ 4 * 25 := Nat.mul_le_mul (by omega) (by omega)
        omega
      have HY : Hid (bb[j]? = some y) := hy
      have hjA : (j : Int) < (an : Int) := by omega
      have hrl : (mulRow a y j).length = an := by rw [mulRow_len a y j (by have := HAL.out; omega)]; exact HAL.out
      have HRL : Hid _ := hrl
      clear hy hrl
      go_wp2_with fail
      go_loopw [9, 23] (fun vs i w' => ∃ i' : Nat, i' ≤ an ∧ i = .int .i64 i' ∧ Hid (w'.ownsRow wq.heap.size 3 1 vs i' (cellsI (wiresF S i'))) ∧ Hid (Bld w' lo hi b 99 (ins, G ++ (mulRow a y j).take i', os)) ∧ Hid (Fr lo wq w')) (fun _ i _ => an - (intOf i).toNat)
      case atStart =>
        refine ⟨0, by omega, rfl, World.ownsRow_nil _ _ _ _, ?_, Fr.refl _ _⟩
        show Bld wq lo hi b 99 (ins, G ++ [], os)
        rw [List.append_nil]
        exact HB.out
      case round =>
        obtain ⟨i', hi', rfl, OWi, HBi, HFi⟩ := hrel
        have HFw : Hid (Fr lo w wr) := HF.out.trans HFi.out
        have hrs := HF.out.size
        by_cases hlt2 : i' < an
        · obtain ⟨S0, hS0⟩ : ∃ S0 : Int, S + (i' : Int) = S0 := ⟨_, rfl⟩
          obtain ⟨G2, hG2⟩ : ∃ G2, G ++ (mulRow a y j).take i' = G2 := ⟨_, rfl⟩
          have hG2l : G2.length = G.length + i' := by
            rw [← hG2, List.length_append, List.length_take, HRL.out]
            omega
          have HNS : Hid (wiresF S (i' + 1) = wiresF S i' ++ [S0]) := by
            show wiresF S (i' + 1) = _
            rw [wiresF_snoc, hS0]
          have HNEW : Hid (∀ g, (mulRow a y j)[i']? = some g → G ++ (mulRow a y j).take (i' + 1) = G2 ++ [g]) := by
            intro g hg
            rw [List.take_add_one, hg, ← hG2, List.append_assoc]
            rfl
          obtain ⟨SL, hSL⟩ : ∃ SL, wiresF S i' = SL := ⟨_, rfl⟩
          rw [hSL] at OWi HNS
          rw [hG2] at HBi
          obtain ⟨va, vc, hv0⟩ := own_shape OWi.out
          subst hv0
          have hGS : ins + (G2.length : Int) = S0 := by omega
          have hG2n : G2.length ≤ 21000 := by omega
          have hiA : (i' : Int) < (an : Int) := by omega
          have HG2L : Hid (G2.length = G.length + i') := hG2l
          have H7 : Hid (∀ (g : Gt) (w5 : World) (v7 : Value) (w7 : World), (mulRow a y j)[i']? = some g → Bld w5 lo hi b 99 (ins, G2 ++ [g], os) → Fr lo wq w5 → w5.ownsRow wq.heap.size 3 1 (.slice va i' vc) i' (cellsI SL) → w7.ownsRow wq.heap.size 3 1 v7 (i' + 1) (cellsI SL ++ [.int .i64 S0]) → (w5.alloc (.cells #[.int .i64 S0] 3)).grownBy w7 (Value.ownBlock (.slice va i' vc)) → Hid (w7.ownsRow wq.heap.size 3 1 v7 (i' + 1) (cellsI (wiresF S (i' + 1)))) ∧ Hid (Bld w7 lo hi b 99 (ins, G ++ (mulRow a y j).take (i' + 1), os)) ∧ Hid (Fr lo wq w7)) := by
            intro g w5 v7 w7 hg b5 f5 o5 o7 gr
            have o6 := World.ownsRow.alloc o5 (.cells #[.int .i64 S0] 3)
            have f6 : Fr lo wq (w5.alloc (.cells #[.int .i64 S0] 3)) := f5.alloc (by have := f5.size; omega) _
            refine ⟨?_, ?_, f6.grown gr (by omega) (fun kk hk => (own_block o6 hk).1)⟩
            · show w7.ownsRow wq.heap.size 3 1 v7 (i' + 1) (cellsI (wiresF S (i' + 1)))
              rw [HNS.out]
              unfold cellsI
              rw [List.map_append]
              exact o7
            · show Bld w7 lo hi b 99 (ins, G ++ (mulRow a y j).take (i' + 1), os)
              rw [HNEW.out g hg]
              exact (b5.alloc _).sum o6 (by omega) (by decide) gr
          clear hG2 hSL hG2l HNS HNEW
          by_cases hik : i' < j
          · have hg := mulRow_low a y j i' hik
            have hikA : (i' : Int) < (j : Int) := by omega
            have HG : Hid _ := hg
            clear hg
            go_wp2_with fail
            refine (gate5_at lo hi b ins G2 os S0 1 0 0 hGS hI0 hI1 (by omega) _ HBi.out).mono ?_
            rintro e w5 ⟨rfl, hB5, hf5, hk5⟩
            have own5 : w5.ownsRow wq.heap.size 3 1 (.slice va i' vc) i' (cellsI SL) := own_keepT OWi.out hk5.int
            have own6 := World.ownsRow.alloc own5 (.cells #[.int .i64 S0] 3)
            have HF5 : Hid (Fr lo wq w5) := HFi.out.trans hf5
            have HB5 : Hid (Bld w5 lo hi b 99 (ins, G2 ++ [(1, 0, 0)], os)) := hB5
            have OW5 : Hid _ := own5
            have hs6 : wq.heap.size ≤ (w5.alloc (.cells #[.int .i64 S0] 3)).heap.size := by rw [World.size_alloc]; have := HF5.out.size; omega
            clear hB5 hf5 hk5 own5 OWi HBi HFi HFw
            go_wp2_with (at_builtin; refine wpList_append_own _ rfl _ _ 39 rfl wq.heap.size 3 i0 (.int .i64 0) 1 8 Tryd.underlying39 hif hz0 hz1 hz2 rfl (by decide) _ _ _ rfl own6 ⟨w5.heap.size, 0, none⟩ 1 1 [.int .i64 S0] rfl rfl (oneI_cells w5 S0) (ints_one [S0]) (by unfold maxLen; omega) (by omega) hs6 ?_)
            intro v7 w7 own7 grow7 _
            obtain ⟨HS7, HB7, HF7⟩ := H7.out _ w5 v7 w7 HG.out HB5.out HF5.out OW5.out own7 grow7
            clear own6 own7 grow7 HF5 HB5 OW5
            go_wp2_with fail
            go_roundw
            case rel => exact ⟨i' + 1, by omega, by go_num, HS7, HB7, HF7⟩
            case measure => simp [intOf]; omega
          · obtain ⟨ii, hii⟩ : ∃ ii : Nat, i' - j = ii := ⟨_, rfl⟩
            obtain ⟨x, hx⟩ : ∃ x, a[ii]? = some x := ⟨a[ii]'(by have := HAL.out; omega), List.getElem?_eq_getElem _⟩
            have hg := mulRow_high a y x j i' (by omega) (by have := HAL.out; omega) (by rw [hii]; exact hx)
            have HG : Hid _ := hg
            have hid : (i' : Int) - (j : Int) = (ii : Int) := by omega
            have hidw : IntKind.i64.wrap ((i' : Int) - (j : Int)) = (ii : Int) := by rw [hid]; exact IntWalk.i64_in _ ⟨by omega, by omega⟩
            have hidA : (ii : Int) < (an : Int) := by omega
            have hiw : IntKind.i64.wrap (ii : Int) = (ii : Int) := IntWalk.i64_in _ ⟨by omega, by omega⟩
            have hidN : ii < an := by omega
            have HXX : Hid (∀ w', Fr lo w w' → ag < w'.heap.size ∧ w'.cell? ⟨ag, aoff + ii, none⟩ = some (.int .i64 x)) := fun w' hw => by
              obtain ⟨g, off, e, h1, h2⟩ := HA.out w' hw ii x hx
              injection e with e1
              injection e1 with e2 e3
              subst e2 e3
              exact ⟨h1, h2⟩
            have HYY : Hid (∀ w', Fr lo w w' → bg < w'.heap.size ∧ w'.cell? ⟨bg, boff + j, none⟩ = some (.int .i64 y)) := fun w' hw => by
              obtain ⟨g, off, e, h1, h2⟩ := HBB.out w' hw j y HY.out
              injection e with e1
              injection e1 with e2 e3
              subst e2 e3
              exact ⟨h1, h2⟩
            obtain ⟨al1, al2⟩ := HXX.out wr HFw.out
            obtain ⟨bl1, bl2⟩ := HYY.out wr HFw.out
            have hikA : ¬ (i' : Int) < (j : Int) := by omega
            clear hg hx hii
            go_wp2_with fail
            go_region_held_law (fun w' => w'.cell? ⟨ag, aoff + ii, none⟩ = some (.int .i64 x) ∧ w'.cell? ⟨bg, boff + j, none⟩ = some (.int .i64 y)) (first | exact ⟨(HXX.out _ (HF.out.trans HF7.out)).2, (HYY.out _ (HF.out.trans HF7.out)).2⟩ | exact ⟨(HXX.out _ (HF.out.trans HF5.out)).2, (HYY.out _ (HF.out.trans HF5.out)).2⟩ | go_keep) (first | (refine step_append_own rfl _ _ 39 rfl wq.heap.size 3 i0 (.int .i64 0) 1 8 Tryd.underlying39 hif hz0 hz1 hz2 rfl (by decide) (.slice va i' vc) _ _ (by simp [Act.eval, Act.put]) own6 ⟨w5.heap.size, 0, none⟩ 1 1 [.int .i64 S0] (by simp [Act.eval, Act.put]) rfl (oneI_cells w5 S0) (ints_one [S0]) (by unfold maxLen; omega) (by omega) hs6 ?_; intro v7 w7 own7 grow7; obtain ⟨HS7, HB7, HF7⟩ := H7.out _ w5 v7 w7 HG.out HB5.out HF5.out OW5.out own7 grow7) | (go_simp; go_at_call 95; refine (gate5_at lo hi b ins G2 os S0 3 x y hGS hI0 hI1 (by omega) _ ?_).mono ?_; (first | exact HBi.out | exact Bld.drew HBi.out | exact Bld.drew (Bld.drew HBi.out)); rintro e w5 ⟨rfl, hB5, hf5, hk5⟩; have own5 : w5.ownsRow wq.heap.size 3 1 (.slice va i' vc) i' (cellsI SL) := own_keepT OWi.out (by first | exact hk5.int | exact ⟨hk5.int.block⟩); have own6 := World.ownsRow.alloc own5 (.cells #[.int .i64 S0] 3); have HF5 : Hid (Fr lo wq w5) := (by first | exact HFi.out.trans hf5 | exact HFi.out.drew.trans hf5); have HB5 : Hid (Bld w5 lo hi b 99 (ins, G2 ++ [(3, x, y)], os)) := hB5; have OW5 : Hid _ := own5; have hs6 : wq.heap.size ≤ (w5.alloc (.cells #[.int .i64 S0] 3)).heap.size := (by rw [World.size_alloc]; have := HF5.out.size; omega); clear hB5 hf5 hk5 own5))
            all_goals
              clear OWi HBi HFi HFw
              go_wp2_with fail
              go_roundw
              case rel => exact ⟨i' + 1, by omega, by go_num, HS7, HB7, HF7⟩
              case measure => simp [intOf]; omega
        · obtain rfl : i' = an := by omega
          have htk : (mulRow a y j).take i' = mulRow a y j := List.take_of_length_le (by rw [HRL.out]; omega)
          rw [htk] at HBi
          obtain ⟨G3, hG3⟩ : ∃ G3, G ++ mulRow a y j = G3 := ⟨_, rfl⟩
          rw [hG3] at HBi
          have hG3l : G3.length = G.length + i' := by
            rw [← hG3, List.length_append, HRL.out]
          obtain ⟨S1, hS1⟩ : ∃ S1 : Int, S + (i' : Int) = S1 := ⟨_, rfl⟩
          have hGS1 : ins + (G3.length : Int) = S1 := by omega
          obtain ⟨va, vc, hv0⟩ := own_shape OWi.out
          subst hv0
          have HG3 : Hid (G ++ mulRow a y j = G3) := hG3
          have HG3L : Hid (G3.length = G.length + i') := hG3l
          have g5 := gate5_at lo hi b ins G3 os S1 1 0 0 hGS1 hI0 hI1 (by omega) wr HBi.out
          clear hG3 htk hG3l
          go_wp2_with fail
          refine g5.mono ?_
          rintro e w8 ⟨rfl, hB8, hf8, hk8⟩
          have HB8 : Hid (Bld w8 lo hi b 99 (ins, G3 ++ [(1, 0, 0)], os)) := hB8
          have HF8 : Hid (Fr lo wr w8) := hf8
          clear g5 hB8 hf8 hk8
          have hsl : SUM.length = i' := by rw [HM.out.sum]; exact HAL.out
          have HF8q : Hid (Fr lo wq w8) := HFi.out.trans HF8.out
          have HF8w : Hid (Fr lo w w8) := HF.out.trans HF8q.out
          have OWS8 : Hid (w8.ownsRow w.heap.size 3 1 (.slice sa i' sc) SUM.length (cellsI SUM)) := by
            rw [hsl]
            exact own_keepT OW.out HF8q.out.keep.int
          have OWM8 : Hid (w8.ownsRow wq.heap.size 3 1 (.slice va i' vc) (wiresF S i').length (cellsI (wiresF S i'))) := by
            rw [wiresF_len]
            exact own_keepT OWi.out HF8.out.keep.int
          have hG4 : ins + ((G3 ++ [(1, 0, 0)]).length : Int) = S1 + 1 := by
            rw [List.length_append, List.length_singleton]
            have := HG3L.out
            omega
          have hG4n : (G3 ++ [((1, 0, 0) : Gt)]).length ≤ 20000 := by
            rw [List.length_append, List.length_singleton]
            have := HG3L.out
            omega
          have hSW : SUM.length = (wiresF S i').length := by rw [wiresF_len]; exact hsl
          have HMN : Hid (MulSt a bb N gs ins (j + 1) (addG SUM (wiresF S i') S1 (S1 + 1)).2 (G3 ++ [(1, 0, 0)] ++ (addG SUM (wiresF S i') S1 (S1 + 1)).1)) := by
            have h1 := mulSt_next2 HM.out HY.out (by have := HAL.out; omega) hS
            rw [HAL.out, hS1, HG3.out] at h1
            exact h1
          have HAL2 : Hid ((addG SUM (wiresF S i') S1 (S1 + 1)).2.length = i') := by
            show (addG SUM (wiresF S i') S1 (S1 + 1)).2.length = i'
            rw [(addG_len SUM (wiresF S i') S1 (S1 + 1) hSW).2]
            exact hsl
          have g6 := GADD.out (G3 ++ [(1, 0, 0)]) (S1 + 1) S1 (.slice sa i' sc) (.slice va i' vc) SUM (wiresF S i') w8 hG4 hG4n hSW (by omega) HB8.out HF8w.out.size (fun w' hf => ints_keep OWS8.out hf.keep (by omega)) (fun w' hf => ints_keep OWM8.out hf.keep (by rw [wiresF_len]; omega))
          have hs9 := HF8w.out.size
          clear hG4 hG4n hSW hsl OWS8 OWM8 HB8 HF8 HF8q OW OWi HBi HFi HFw HF HB HM HY HA HBB GADD HG3 HG3L
          go_wp2_with fail
          refine g6.mono ?_
          rintro e w9 ⟨r9, rfl, o9, b9, f9⟩
          have O9 : Hid (w9.ownsRow w.heap.size 3 1 r9 i' (cellsI (addG SUM (wiresF S i') S1 (S1 + 1)).2)) := by
            have h1 := own_base o9 hs9
            rw [HAL2.out] at h1
            exact h1
          have B9 : Hid _ := b9
          have F9 : Hid (Fr lo w w9) := HF8w.out.trans f9
          clear g6 o9 b9 f9 HAL2
          go_wp2_with fail
          go_roundw
          case rel => exact ⟨j + 1, by omega, by go_num, _, _, O9, B9, F9, HMN⟩
          case measure => simp [intOf]; omega
    · obtain rfl : j = an := by omega
      have h1 := HM.out
      rw [← HBL.out] at h1
      obtain ⟨e1, e2⟩ := mulSt_end h1
      have hsl : SUM.length = j := by rw [h1.sum]; exact HAL.out
      have HR : Hid (wq.ownsRow w.heap.size 3 1 u7 (mulG a bb N).2.length (cellsI (mulG a bb N).2) ∧ Bld wq lo hi b 99 (ins, gs ++ (mulG a bb N).1, os)) := by
        show wq.ownsRow w.heap.size 3 1 u7 (mulG a bb N).2.length (cellsI (mulG a bb N).2) ∧ Bld wq lo hi b 99 (ins, gs ++ (mulG a bb N).1, os)
        rw [e1, e2, hsl]
        exact ⟨OW.out, HB.out⟩
      clear e1 e2 h1 hsl HA HBB
      go_wp2_with fail
      go_ret
      exact ⟨_, rfl, HR.out.1, HR.out.2, HF.out⟩
end Go.Proofs.YtpjllhlbdcanlaaDoor

namespace Go.Proofs.YtpjllhlbdcanlaaDoor
open Go Go.RowKit
open M
set_option linter.unusedVariables false
set_option linter.unusedSimpArgs false

theorem one_own5 (w : World) (x : Int) (B : Nat) (hB : B ≤ w.heap.size) : (w.alloc (.cells #[.int .i64 x] 3)).ownsRow B 3 1 (.slice (some ⟨w.heap.size, 0, none⟩) 1 1) 1 (cellsI [x]) :=
  ⟨by simp [cellsI], Or.inr ⟨w.heap.size, 1, _, rfl, hB, cellT_alloc _ _ _, by omega, by unfold maxLen; omega, by simp, by simp [cellsI]⟩⟩
set_option maxRecDepth 100000 in
set_option maxHeartbeats 8000000 in
theorem sTwo_and (lo hi b : Nat) (ins : Int) (gs : List Gt) (os : List Int) (av bv : Value) (a bb : List Int) (N : Int) (hN : ins + gs.length = N) (hI0 : 0 ≤ ins) (hI1 : ins ≤ 16) (hn : gs.length ≤ 15000) (hal : a.length ≤ 4) (hab : a.length = bb.length) (w : World) (h : Bld w lo hi b 99 (ins, gs, os)) (hhi : hi ≤ w.heap.size) (Ba Bb : Nat) (hra : w.ownsRow Ba 3 1 av a.length (cellsI a)) (hrb : w.ownsRow Bb 3 1 bv bb.length (cellsI bb)) :
    Calls Tryd.prog 76 #[.pointer (some ⟨b, 0, none⟩), .int .i64 8, av, bv] w (TwoOut lo hi b ins gs os w ((pairG 3 a bb, wiresF N a.length))) := by
  have hlo := h.size
  obtain ⟨aa, acap, hav⟩ := own_shape hra
  obtain ⟨ba, bcap, hbv⟩ := own_shape hrb
  have ha : ∀ w', Fr lo w w' → IntsAt w' av a := fun w' hf => ints_keep hra hf.keep (by omega)
  have hb : ∀ w', Fr lo w w' → IntsAt w' bv bb := fun w' hf => ints_keep hrb hf.keep (by omega)
  have g := sPairs5_any lo hi b ins gs os 3 av bv a bb hab (by omega) N hN hI0 hI1 (by omega) w h hhi ha hb
  clear ha hb h hra hrb
  subst hav hbv
  rw [← hab] at g ⊢
  clear hab
  generalize a.length = an at *
  go_enter Tryd.func76, Tryd.ntmps76
  go_wp2_with fail
  refine g.mono ?_
  rintro e w1 ⟨r, rfl, o, bl, fr⟩
  have O1 : Hid _ := o
  have B1 : Hid _ := bl
  have F1 : Hid (Fr lo w w1) := fr
  clear g o bl fr
  go_wp2_with fail
  go_ret
  exact ⟨_, rfl, (by rw [wiresF_len]; exact O1.out), B1.out, F1.out⟩
set_option maxRecDepth 100000 in
set_option maxHeartbeats 8000000 in
theorem sTwo_both (lo hi b : Nat) (ins : Int) (gs : List Gt) (os : List Int) (av bv : Value) (a bb : List Int) (N : Int) (hN : ins + gs.length = N) (hI0 : 0 ≤ ins) (hI1 : ins ≤ 16) (hn : gs.length ≤ 15000) (hal : a.length ≤ 4) (hab : a.length = bb.length) (w : World) (h : Bld w lo hi b 99 (ins, gs, os)) (hhi : hi ≤ w.heap.size) (Ba Bb : Nat) (hra : w.ownsRow Ba 3 1 av a.length (cellsI a)) (hrb : w.ownsRow Bb 3 1 bv bb.length (cellsI bb)) :
    Calls Tryd.prog 76 #[.pointer (some ⟨b, 0, none⟩), .int .i64 17, av, bv] w (TwoOut lo hi b ins gs os w ((pairG 3 a bb, wiresF N a.length))) := by
  have hlo := h.size
  obtain ⟨aa, acap, hav⟩ := own_shape hra
  obtain ⟨ba, bcap, hbv⟩ := own_shape hrb
  have ha : ∀ w', Fr lo w w' → IntsAt w' av a := fun w' hf => ints_keep hra hf.keep (by omega)
  have hb : ∀ w', Fr lo w w' → IntsAt w' bv bb := fun w' hf => ints_keep hrb hf.keep (by omega)
  have g := sPairs5_any lo hi b ins gs os 3 av bv a bb hab (by omega) N hN hI0 hI1 (by omega) w h hhi ha hb
  clear ha hb h hra hrb
  subst hav hbv
  rw [← hab] at g ⊢
  clear hab
  generalize a.length = an at *
  go_enter Tryd.func76, Tryd.ntmps76
  go_wp2_with fail
  refine g.mono ?_
  rintro e w1 ⟨r, rfl, o, bl, fr⟩
  have O1 : Hid _ := o
  have B1 : Hid _ := bl
  have F1 : Hid (Fr lo w w1) := fr
  clear g o bl fr
  go_wp2_with fail
  go_ret
  exact ⟨_, rfl, (by rw [wiresF_len]; exact O1.out), B1.out, F1.out⟩
set_option maxRecDepth 100000 in
set_option maxHeartbeats 8000000 in
theorem sTwo_or (lo hi b : Nat) (ins : Int) (gs : List Gt) (os : List Int) (av bv : Value) (a bb : List Int) (N : Int) (hN : ins + gs.length = N) (hI0 : 0 ≤ ins) (hI1 : ins ≤ 16) (hn : gs.length ≤ 15000) (hal : a.length ≤ 4) (hab : a.length = bb.length) (w : World) (h : Bld w lo hi b 99 (ins, gs, os)) (hhi : hi ≤ w.heap.size) (Ba Bb : Nat) (hra : w.ownsRow Ba 3 1 av a.length (cellsI a)) (hrb : w.ownsRow Bb 3 1 bv bb.length (cellsI bb)) :
    Calls Tryd.prog 76 #[.pointer (some ⟨b, 0, none⟩), .int .i64 9, av, bv] w (TwoOut lo hi b ins gs os w ((pairG 4 a bb, wiresF N a.length))) := by
  have hlo := h.size
  obtain ⟨aa, acap, hav⟩ := own_shape hra
  obtain ⟨ba, bcap, hbv⟩ := own_shape hrb
  have ha : ∀ w', Fr lo w w' → IntsAt w' av a := fun w' hf => ints_keep hra hf.keep (by omega)
  have hb : ∀ w', Fr lo w w' → IntsAt w' bv bb := fun w' hf => ints_keep hrb hf.keep (by omega)
  have g := sPairs5_any lo hi b ins gs os 4 av bv a bb hab (by omega) N hN hI0 hI1 (by omega) w h hhi ha hb
  clear ha hb h hra hrb
  subst hav hbv
  rw [← hab] at g ⊢
  clear hab
  generalize a.length = an at *
  go_enter Tryd.func76, Tryd.ntmps76
  go_wp2_with fail
  refine g.mono ?_
  rintro e w1 ⟨r, rfl, o, bl, fr⟩
  have O1 : Hid _ := o
  have B1 : Hid _ := bl
  have F1 : Hid (Fr lo w w1) := fr
  clear g o bl fr
  go_wp2_with fail
  go_ret
  exact ⟨_, rfl, (by rw [wiresF_len]; exact O1.out), B1.out, F1.out⟩
set_option maxRecDepth 100000 in
set_option maxHeartbeats 8000000 in
theorem sTwo_either (lo hi b : Nat) (ins : Int) (gs : List Gt) (os : List Int) (av bv : Value) (a bb : List Int) (N : Int) (hN : ins + gs.length = N) (hI0 : 0 ≤ ins) (hI1 : ins ≤ 16) (hn : gs.length ≤ 15000) (hal : a.length ≤ 4) (hab : a.length = bb.length) (w : World) (h : Bld w lo hi b 99 (ins, gs, os)) (hhi : hi ≤ w.heap.size) (Ba Bb : Nat) (hra : w.ownsRow Ba 3 1 av a.length (cellsI a)) (hrb : w.ownsRow Bb 3 1 bv bb.length (cellsI bb)) :
    Calls Tryd.prog 76 #[.pointer (some ⟨b, 0, none⟩), .int .i64 18, av, bv] w (TwoOut lo hi b ins gs os w ((pairG 4 a bb, wiresF N a.length))) := by
  have hlo := h.size
  obtain ⟨aa, acap, hav⟩ := own_shape hra
  obtain ⟨ba, bcap, hbv⟩ := own_shape hrb
  have ha : ∀ w', Fr lo w w' → IntsAt w' av a := fun w' hf => ints_keep hra hf.keep (by omega)
  have hb : ∀ w', Fr lo w w' → IntsAt w' bv bb := fun w' hf => ints_keep hrb hf.keep (by omega)
  have g := sPairs5_any lo hi b ins gs os 4 av bv a bb hab (by omega) N hN hI0 hI1 (by omega) w h hhi ha hb
  clear ha hb h hra hrb
  subst hav hbv
  rw [← hab] at g ⊢
  clear hab
  generalize a.length = an at *
  go_enter Tryd.func76, Tryd.ntmps76
  go_wp2_with fail
  refine g.mono ?_
  rintro e w1 ⟨r, rfl, o, bl, fr⟩
  have O1 : Hid _ := o
  have B1 : Hid _ := bl
  have F1 : Hid (Fr lo w w1) := fr
  clear g o bl fr
  go_wp2_with fail
  go_ret
  exact ⟨_, rfl, (by rw [wiresF_len]; exact O1.out), B1.out, F1.out⟩
set_option maxRecDepth 100000 in
set_option maxHeartbeats 8000000 in
theorem sTwo_xor (lo hi b : Nat) (ins : Int) (gs : List Gt) (os : List Int) (av bv : Value) (a bb : List Int) (N : Int) (hN : ins + gs.length = N) (hI0 : 0 ≤ ins) (hI1 : ins ≤ 16) (hn : gs.length ≤ 15000) (hal : a.length ≤ 4) (hab : a.length = bb.length) (w : World) (h : Bld w lo hi b 99 (ins, gs, os)) (hhi : hi ≤ w.heap.size) (Ba Bb : Nat) (hra : w.ownsRow Ba 3 1 av a.length (cellsI a)) (hrb : w.ownsRow Bb 3 1 bv bb.length (cellsI bb)) :
    Calls Tryd.prog 76 #[.pointer (some ⟨b, 0, none⟩), .int .i64 10, av, bv] w (TwoOut lo hi b ins gs os w ((pairG 5 a bb, wiresF N a.length))) := by
  have hlo := h.size
  obtain ⟨aa, acap, hav⟩ := own_shape hra
  obtain ⟨ba, bcap, hbv⟩ := own_shape hrb
  have ha : ∀ w', Fr lo w w' → IntsAt w' av a := fun w' hf => ints_keep hra hf.keep (by omega)
  have hb : ∀ w', Fr lo w w' → IntsAt w' bv bb := fun w' hf => ints_keep hrb hf.keep (by omega)
  have g := sPairs5_any lo hi b ins gs os 5 av bv a bb hab (by omega) N hN hI0 hI1 (by omega) w h hhi ha hb
  clear ha hb h hra hrb
  subst hav hbv
  rw [← hab] at g ⊢
  clear hab
  generalize a.length = an at *
  go_enter Tryd.func76, Tryd.ntmps76
  go_wp2_with fail
  refine g.mono ?_
  rintro e w1 ⟨r, rfl, o, bl, fr⟩
  have O1 : Hid _ := o
  have B1 : Hid _ := bl
  have F1 : Hid (Fr lo w w1) := fr
  clear g o bl fr
  go_wp2_with fail
  go_ret
  exact ⟨_, rfl, (by rw [wiresF_len]; exact O1.out), B1.out, F1.out⟩
set_option maxRecDepth 100000 in
set_option maxHeartbeats 8000000 in
theorem sTwo_mul (lo hi b : Nat) (ins : Int) (gs : List Gt) (os : List Int) (av bv : Value) (a bb : List Int) (N : Int) (hN : ins + gs.length = N) (hI0 : 0 ≤ ins) (hI1 : ins ≤ 16) (hn : gs.length ≤ 15000) (hal : a.length ≤ 4) (hab : a.length = bb.length) (w : World) (h : Bld w lo hi b 99 (ins, gs, os)) (hhi : hi ≤ w.heap.size) (Ba Bb : Nat) (hra : w.ownsRow Ba 3 1 av a.length (cellsI a)) (hrb : w.ownsRow Bb 3 1 bv bb.length (cellsI bb)) :
    Calls Tryd.prog 76 #[.pointer (some ⟨b, 0, none⟩), .int .i64 5, av, bv] w (TwoOut lo hi b ins gs os w (mulG a bb N)) := by
  have hlo := h.size
  obtain ⟨aa, acap, hav⟩ := own_shape hra
  obtain ⟨ba, bcap, hbv⟩ := own_shape hrb
  have ha : ∀ w', Fr lo w w' → IntsAt w' av a := fun w' hf => ints_keep hra hf.keep (by omega)
  have hb : ∀ w', Fr lo w w' → IntsAt w' bv bb := fun w' hf => ints_keep hrb hf.keep (by omega)
  have g := sMul5_any lo hi b ins gs os av bv a bb hab hal N hN hI0 hI1 (by omega) w h hhi ha hb
  obtain ⟨RR, hRR⟩ : ∃ RR, mulG a bb N = RR := ⟨_, rfl⟩
  rw [hRR] at g ⊢
  clear hRR
  clear ha hb h hra hrb
  subst hav hbv
  rw [← hab] at g ⊢
  clear hab
  generalize a.length = an at *
  go_enter Tryd.func76, Tryd.ntmps76
  go_wp2_with fail
  refine g.mono ?_
  rintro e w1 ⟨r, rfl, o, bl, fr⟩
  have O1 : Hid _ := o
  have B1 : Hid _ := bl
  have F1 : Hid (Fr lo w w1) := fr
  clear g o bl fr
  go_wp2_with fail
  go_ret
  exact ⟨_, rfl, O1.out, B1.out, F1.out⟩
set_option maxRecDepth 100000 in
set_option maxHeartbeats 8000000 in
theorem sTwo_eq (lo hi b : Nat) (ins : Int) (gs : List Gt) (os : List Int) (av bv : Value) (a bb : List Int) (N : Int) (hN : ins + gs.length = N) (hI0 : 0 ≤ ins) (hI1 : ins ≤ 16) (hn : gs.length ≤ 15000) (hal : a.length ≤ 4) (hab : a.length = bb.length) (w : World) (h : Bld w lo hi b 99 (ins, gs, os)) (hhi : hi ≤ w.heap.size) (Ba Bb : Nat) (hra : w.ownsRow Ba 3 1 av a.length (cellsI a)) (hrb : w.ownsRow Bb 3 1 bv bb.length (cellsI bb)) :
    Calls Tryd.prog 76 #[.pointer (some ⟨b, 0, none⟩), .int .i64 14, av, bv] w (TwoOut lo hi b ins gs os w (([(1, 1, 0)] ++ (eqG a bb N (N + 1)).1, [onW N (N + 1) 3 2 a.length]))) := by
  have hlo := h.size
  obtain ⟨aa, acap, hav⟩ := own_shape hra
  obtain ⟨ba, bcap, hbv⟩ := own_shape hrb
  have ha : ∀ w', Fr lo w w' → IntsAt w' av a := fun w' hf => ints_keep hra hf.keep (by omega)
  have hb : ∀ w', Fr lo w w' → IntsAt w' bv bb := fun w' hf => ints_keep hrb hf.keep (by omega)
  have g := sEq5_any lo hi b ins gs os av bv a bb N hN hI0 hI1 (by omega) hab (by omega) w h hhi ha hb
  obtain ⟨O, hO⟩ : ∃ O, onW N (N + 1) 3 2 a.length = O := ⟨_, rfl⟩
  rw [hO] at g ⊢
  clear hO
  clear ha hb h hra hrb
  subst hav hbv
  rw [← hab] at g ⊢
  clear hab
  generalize a.length = an at *
  go_enter Tryd.func76, Tryd.ntmps76
  go_wp2_with fail
  refine g.mono ?_
  rintro e w1 ⟨rfl, bl, fr⟩
  have B1 : Hid (Bld w1 lo hi b 99 (ins, gs ++ [(1, 1, 0)] ++ (eqG a bb N (N + 1)).1, os)) := bl
  have F1 : Hid (Fr lo w w1) := fr
  clear g bl fr
  go_wp2_with fail
  go_ret
  refine ⟨_, rfl, one_own5 w1 O _ (F1.out.size), ?_, F1.out.alloc (Nat.le_trans hlo F1.out.size) _⟩
  have h1 := Bld.alloc B1.out (.cells #[.int .i64 O] 3)
  simpa [List.append_assoc] using h1
set_option maxRecDepth 100000 in
set_option maxHeartbeats 8000000 in
theorem sTwo_less (lo hi b : Nat) (ins : Int) (gs : List Gt) (os : List Int) (av bv : Value) (a bb : List Int) (N : Int) (hN : ins + gs.length = N) (hI0 : 0 ≤ ins) (hI1 : ins ≤ 16) (hn : gs.length ≤ 15000) (hal : a.length ≤ 4) (hab : a.length = bb.length) (w : World) (h : Bld w lo hi b 99 (ins, gs, os)) (hhi : hi ≤ w.heap.size) (Ba Bb : Nat) (hra : w.ownsRow Ba 3 1 av a.length (cellsI a)) (hrb : w.ownsRow Bb 3 1 bv bb.length (cellsI bb)) :
    Calls Tryd.prog 76 #[.pointer (some ⟨b, 0, none⟩), .int .i64 15, av, bv] w (TwoOut lo hi b ins gs os w (([(1, 0, 0)] ++ (lessG a bb N (N + 1)).1, [onW N (N + 1) 6 5 a.length]))) := by
  have hlo := h.size
  obtain ⟨aa, acap, hav⟩ := own_shape hra
  obtain ⟨ba, bcap, hbv⟩ := own_shape hrb
  have ha : ∀ w', Fr lo w w' → IntsAt w' av a := fun w' hf => ints_keep hra hf.keep (by omega)
  have hb : ∀ w', Fr lo w w' → IntsAt w' bv bb := fun w' hf => ints_keep hrb hf.keep (by omega)
  have g := sLess5_any lo hi b ins gs os av bv a bb N hN hI0 hI1 (by omega) hab (by omega) w h hhi ha hb
  obtain ⟨O, hO⟩ : ∃ O, onW N (N + 1) 6 5 a.length = O := ⟨_, rfl⟩
  rw [hO] at g ⊢
  clear hO
  clear ha hb h hra hrb
  subst hav hbv
  rw [← hab] at g ⊢
  clear hab
  generalize a.length = an at *
  go_enter Tryd.func76, Tryd.ntmps76
  go_wp2_with fail
  refine g.mono ?_
  rintro e w1 ⟨rfl, bl, fr⟩
  have B1 : Hid (Bld w1 lo hi b 99 (ins, gs ++ [(1, 0, 0)] ++ (lessG a bb N (N + 1)).1, os)) := bl
  have F1 : Hid (Fr lo w w1) := fr
  clear g bl fr
  go_wp2_with fail
  go_ret
  refine ⟨_, rfl, one_own5 w1 O _ (F1.out.size), ?_, F1.out.alloc (Nat.le_trans hlo F1.out.size) _⟩
  have h1 := Bld.alloc B1.out (.cells #[.int .i64 O] 3)
  simpa [List.append_assoc] using h1
end Go.Proofs.YtpjllhlbdcanlaaDoor

namespace Go.Proofs.YtpjllhlbdcanlaaDoor
open Go Go.RowKit
open M
set_option linter.unusedVariables false
set_option linter.unusedSimpArgs false

set_option maxRecDepth 100000 in
set_option maxHeartbeats 8000000 in
theorem sTwo_add (lo hi b : Nat) (ins : Int) (gs : List Gt) (os : List Int) (av bv : Value) (a bb : List Int) (N : Int) (hN : ins + gs.length = N) (hI0 : 0 ≤ ins) (hI1 : ins ≤ 16) (hn : gs.length ≤ 15000) (hal : a.length ≤ 4) (hab : a.length = bb.length) (w : World) (h : Bld w lo hi b 99 (ins, gs, os)) (hhi : hi ≤ w.heap.size) (Ba Bb : Nat) (hra : w.ownsRow Ba 3 1 av a.length (cellsI a)) (hrb : w.ownsRow Bb 3 1 bv bb.length (cellsI bb)) :
    Calls Tryd.prog 76 #[.pointer (some ⟨b, 0, none⟩), .int .i64 3, av, bv] w (TwoOut lo hi b ins gs os w (([(1, 0, 0)] ++ (addG a bb N (N + 1)).1, (addG a bb N (N + 1)).2))) := by
  have hlo := h.size
  obtain ⟨aa, acap, hav⟩ := own_shape hra
  obtain ⟨ba, bcap, hbv⟩ := own_shape hrb
  have ha : ∀ w', Fr lo w w' → IntsAt w' av a := fun w' hf => ints_keep hra hf.keep (by omega)
  have hb : ∀ w', Fr lo w w' → IntsAt w' bv bb := fun w' hf => ints_keep hrb hf.keep (by omega)
  have g := gate5_at lo hi b ins gs os N 1 0 0 hN hI0 hI1 (by omega) w h
  have GA : Hid (∀ w1 : World, Bld w1 lo hi b 99 (ins, gs ++ [(1, 0, 0)], os) → Fr lo w w1 → Calls Tryd.prog 96 #[.pointer (some ⟨b, 0, none⟩), av, bv, .int .i64 N] w1 (TwoOut lo hi b ins gs os w ([(1, 0, 0)] ++ (addG a bb N (N + 1)).1, (addG a bb N (N + 1)).2))) := by
    intro w1 h1 h2
    have g := sAdd5_any lo hi b ins (gs ++ [(1, 0, 0)]) os av bv a bb N (N + 1) (by rw [List.length_append, List.length_singleton]; omega) hI0 hI1 (by rw [List.length_append, List.length_singleton]; omega) hab (by omega) w1 h1 (by have := h2.size; omega) (fun w' hf => ha w' (h2.trans hf)) (fun w' hf => hb w' (h2.trans hf))
    refine g.mono ?_
    rintro e w' ⟨r, rfl, o, bl, fr⟩
    exact ⟨r, rfl, own_base o h2.size, (by simpa [List.append_assoc] using bl), h2.trans fr⟩
  clear ha hb h hra hrb
  subst hav hbv
  clear hab
  generalize ([((1, 0, 0) : Gt)] ++ (addG a bb N (N + 1)).1, (addG a bb N (N + 1)).2) = RR at *
  generalize a.length = an at *
  generalize bb.length = bn at *
  go_enter Tryd.func76, Tryd.ntmps76
  go_wp2_with fail
  refine g.mono ?_
  rintro e w1 ⟨rfl, b1, f1, _⟩
  have B1 : Hid (Bld w1 lo hi b 99 (ins, gs ++ [(1, 0, 0)], os)) := b1
  have F1 : Hid (Fr lo w w1) := f1
  clear g b1 f1
  go_wp2_with fail
  refine (GA.out w1 B1.out F1.out).mono ?_
  rintro e w2 ⟨r2, rfl, h2⟩
  have H2 : Hid _ := h2
  clear h2 GA
  go_wp2_with fail
  go_ret
  exact ⟨_, rfl, H2.out⟩
set_option maxRecDepth 100000 in
set_option maxHeartbeats 8000000 in
theorem sTwo_sub (lo hi b : Nat) (ins : Int) (gs : List Gt) (os : List Int) (av bv : Value) (a bb : List Int) (N : Int) (hN : ins + gs.length = N) (hI0 : 0 ≤ ins) (hI1 : ins ≤ 16) (hn : gs.length ≤ 15000) (hal : a.length ≤ 4) (hab : a.length = bb.length) (w : World) (h : Bld w lo hi b 99 (ins, gs, os)) (hhi : hi ≤ w.heap.size) (Ba Bb : Nat) (hra : w.ownsRow Ba 3 1 av a.length (cellsI a)) (hrb : w.ownsRow Bb 3 1 bv bb.length (cellsI bb)) :
    Calls Tryd.prog 76 #[.pointer (some ⟨b, 0, none⟩), .int .i64 4, av, bv] w (TwoOut lo hi b ins gs os w ((notsG bb ++ [(1, 1, 0)] ++ (addG a (wiresF N bb.length) (N + bb.length) (N + bb.length + 1)).1, (addG a (wiresF N bb.length) (N + bb.length) (N + bb.length + 1)).2))) := by
  have hlo := h.size
  obtain ⟨aa, acap, hav⟩ := own_shape hra
  obtain ⟨ba, bcap, hbv⟩ := own_shape hrb
  have ha : ∀ w', Fr lo w w' → IntsAt w' av a := fun w' hf => ints_keep hra hf.keep (by omega)
  have hb : ∀ w', Fr lo w w' → IntsAt w' bv bb := fun w' hf => ints_keep hrb hf.keep (by omega)
  have g := sNots5_any lo hi b ins gs os bv bb (by omega) N hN hI0 hI1 (by omega) w h hhi hb
  obtain ⟨S1, hS1⟩ : ∃ S1 : Int, N + (bb.length : Int) = S1 := ⟨_, rfl⟩
  have hGl : ins + ((gs ++ notsG bb).length : Int) = S1 := by rw [List.length_append, notsG_len]; omega
  have hGn : (gs ++ notsG bb).length ≤ 16000 := by rw [List.length_append, notsG_len]; omega
  have GG : Hid (∀ w1 : World, Bld w1 lo hi b 99 (ins, gs ++ notsG bb, os) → _) := fun w1 h1 => gate5_at lo hi b ins (gs ++ notsG bb) os S1 1 1 0 hGl hI0 hI1 (by omega) w1 h1
  have GA : Hid (∀ (yv : Value) (w1 : World), Bld w1 lo hi b 99 (ins, gs ++ notsG bb ++ [(1, 1, 0)], os) → Fr lo w w1 → (∀ w', Fr lo w1 w' → IntsAt w' yv (wiresF N bb.length)) → Calls Tryd.prog 96 #[.pointer (some ⟨b, 0, none⟩), av, yv, .int .i64 S1] w1 (TwoOut lo hi b ins gs os w (notsG bb ++ [(1, 1, 0)] ++ (addG a (wiresF N bb.length) (N + bb.length) (N + bb.length + 1)).1, (addG a (wiresF N bb.length) (N + bb.length) (N + bb.length + 1)).2))) := by
    intro yv w1 h1 h2 h3
    have g := sAdd5_any lo hi b ins (gs ++ notsG bb ++ [(1, 1, 0)]) os av yv a (wiresF N bb.length) S1 (S1 + 1) (by rw [List.length_append, List.length_singleton]; omega) hI0 hI1 (by rw [List.length_append, List.length_singleton]; omega) (by rw [wiresF_len]; exact hab) (by omega) w1 h1 (by have := h2.size; omega) (fun w' hf => ha w' (h2.trans hf)) h3
    refine g.mono ?_
    rintro e w' ⟨r, rfl, o, bl, fr⟩
    refine ⟨r, rfl, ?_, ?_, h2.trans fr⟩
    · subst hS1
      exact own_base o h2.size
    · subst hS1
      simpa [List.append_assoc] using bl
  have hbb4 : bb.length ≤ 4 := by omega
  clear ha hb h hra hrb
  subst hav hbv
  clear hab hS1 hGl hGn
  generalize (notsG bb ++ [((1, 1, 0) : Gt)] ++ (addG a (wiresF N bb.length) (N + bb.length) (N + bb.length + 1)).1, (addG a (wiresF N bb.length) (N + bb.length) (N + bb.length + 1)).2) = RR at *
  generalize a.length = an at *
  generalize bb.length = bn at *
  go_enter Tryd.func76, Tryd.ntmps76
  go_wp2_with fail
  refine g.mono ?_
  rintro e w1 ⟨r1, rfl, o1, b1, f1⟩
  obtain ⟨ra1, rc1, hr1⟩ := own_shape o1
  subst hr1
  have O1 : Hid (w1.ownsRow w.heap.size 3 1 (.slice ra1 bn rc1) bn (cellsI (wiresF N bn))) := o1
  have B1 : Hid (Bld w1 lo hi b 99 (ins, gs ++ notsG bb, os)) := b1
  have F1 : Hid (Fr lo w w1) := f1
  clear g o1 b1 f1
  go_wp2_with fail
  refine (GG.out w1 B1.out).mono ?_
  rintro e w2 ⟨rfl, b2, f2, k2⟩
  have B2 : Hid (Bld w2 lo hi b 99 (ins, gs ++ notsG bb ++ [(1, 1, 0)], os)) := b2
  have F2 : Hid (Fr lo w w2) := F1.out.trans f2
  have HY : Hid (∀ w', Fr lo w2 w' → IntsAt w' (.slice ra1 bn rc1) (wiresF N bn)) := fun w' hf => ints_keep (B := w.heap.size) (t := wiresF N bn) (by rw [wiresF_len]; exact own_keepT O1.out k2.int) hf.keep (by rw [wiresF_len]; omega)
  clear b2 f2 k2 O1 B1 F1 GG
  go_wp2_with fail
  refine (GA.out _ w2 B2.out F2.out HY.out).mono ?_
  rintro e w3 ⟨r3, rfl, h3⟩
  have H3 : Hid _ := h3
  clear h3 GA
  go_wp2_with fail
  go_ret
  exact ⟨_, rfl, H3.out⟩
end Go.Proofs.YtpjllhlbdcanlaaDoor

namespace Go.Proofs.YtpjllhlbdcanlaaDoor
open Go Go.RowKit
open M
set_option linter.unusedVariables false
set_option linter.unusedSimpArgs false

theorem topW_set (a : List Int) (s : Int) (top : Nat) (h : a.length = top + 1) : a.set top s = topW a s := by
  unfold topW
  rw [h, Nat.add_sub_cancel]
  apply List.ext_getElem?
  intro i
  rw [List.getElem?_set]
  by_cases hi : i < top
  · rw [if_neg (by omega), List.getElem?_append_left (by rw [List.length_take]; omega), List.getElem?_take_of_lt hi]
  · by_cases he : i = top
    · subst he
      rw [if_pos rfl, if_pos (by omega), List.getElem?_append_right (by rw [List.length_take]; omega)]
      simp [List.length_take]
      rw [show i - min i a.length = 0 from by omega]
      rfl
    · rw [if_neg (fun e => he e.symm), List.getElem?_eq_none (by omega), List.getElem?_eq_none (by simp [List.length_take]; omega)]
theorem KeepC.setNew5 {u w : World} {k o : Nat} {v : Value} (h : KeepC u w) (hk : u.heap.size ≤ k) : KeepC u (w.setCell ⟨k, o, none⟩ v) := ⟨fun i cs t fr hi n1 n2 n3 => by
  rw [Below.heap_setCell _ _ _ _ (show i ≠ k from fun e => by have := heap_lt hi; omega)]
  exact h.block i cs t fr hi n1 n2 n3⟩
/-- a number of a row of one's own is set: what is being built stays -/
theorem Bld.setRow {w : World} {lo hi b g o : Nat} {c : Ci} {cs : Array Value} {v : Value} (h : Bld w lo hi b 99 c) (hg : w.heap[g]? = some (.cells cs 3 (0, 0))) (hh : hi ≤ g) : Bld (w.setCell ⟨g, o, none⟩ v) lo hi b 99 c := by
  obtain ⟨q0, q1, q2, q3, q4, q5, q6⟩ := h
  have n1 : b ≠ g := fun e => by
    have := q3.heap
    rw [e, hg] at this
    simp only [Option.some.injEq] at this
    injection this with _ h8
    exact absurd h8 (by decide)
  refine ⟨q0, q1, q2, q3.other n1 _, own_keep q4 (fun k hk => Below.heap_setCell _ _ _ _ ?_), own_keep q5 (fun k hk => Below.heap_setCell _ _ _ _ ?_), q6⟩
  · intro e
    rcases q4.2 with ⟨hv, _⟩ | ⟨g', cap, cur, hv, _, hh', _⟩
    · rw [hv] at hk
      cases hk
    · rw [hv] at hk
      have e2 : g' = k := Option.some.inj hk
      have e3 : k = g := e
      rw [e2, e3, hg] at hh'
      simp only [Option.some.injEq] at hh'
      injection hh' with _ h8
      exact absurd h8 (by decide)
  · have := q6 k hk
    show k ≠ g
    omega
set_option maxRecDepth 100000 in
set_option maxHeartbeats 8000000 in
theorem sTwo_lessS (lo hi b : Nat) (ins : Int) (gs : List Gt) (os : List Int) (av bv : Value) (a bb : List Int) (N : Int) (hN : ins + gs.length = N) (hI0 : 0 ≤ ins) (hI1 : ins ≤ 16) (hn : gs.length ≤ 15000) (hal1 : 1 ≤ a.length) (hal : a.length ≤ 4) (hab : a.length = bb.length) (w : World) (h : Bld w lo hi b 99 (ins, gs, os)) (hhi : hi ≤ w.heap.size) (Ba Bb : Nat) (hra : w.ownsRow Ba 3 1 av a.length (cellsI a)) (hrb : w.ownsRow Bb 3 1 bv bb.length (cellsI bb)) :
    Calls Tryd.prog 76 #[.pointer (some ⟨b, 0, none⟩), .int .i64 16, av, bv] w (TwoOut lo hi b ins gs os w ([(2, a.getD (a.length - 1) 0, 0), (2, bb.getD (bb.length - 1) 0, 0)] ++ [(1, 0, 0)] ++ (lessG (topW a N) (topW bb (N + 1)) (N + 2) (N + 3)).1, [onW (N + 2) (N + 3) 6 5 a.length])) := by
  have hlo := h.size
  obtain ⟨aa, acap, hav⟩ := own_shape hra
  obtain ⟨ba, bcap, hbv⟩ := own_shape hrb
  obtain ⟨top, htop⟩ : ∃ top, a.length - 1 = top := ⟨_, rfl⟩
  have hla : a.length = top + 1 := by omega
  have hlb : bb.length = top + 1 := by omega
  have G1 : Hid (Calls Tryd.prog 101 #[.slice aa a.length acap] w fun e w' => ∃ r, e = .returned r ∧ w'.ownsRow w.heap.size 3 1 r a.length (cellsI a) ∧ Below w.heap.size w w') := l1Own_any aa acap a (by omega) w (by rw [← hav]; exact src_of_own hra)
  have G2 : Hid (∀ w1 : World, Below w.heap.size w w1 → Calls Tryd.prog 101 #[.slice ba bb.length bcap] w1 fun e w' => ∃ r, e = .returned r ∧ w'.ownsRow w1.heap.size 3 1 r bb.length (cellsI bb) ∧ Below w1.heap.size w1 w') := fun w1 hb1 => l1Own_any ba bcap bb (by omega) w1 (by rw [← hbv]; exact src_of_own (owns_below hrb hb1))
  obtain ⟨x, hx⟩ : ∃ x, a[top]? = some x := ⟨a[top]'(by omega), List.getElem?_eq_getElem _⟩
  obtain ⟨y, hy⟩ : ∃ y, bb[top]? = some y := ⟨bb[top]'(by omega), List.getElem?_eq_getElem _⟩
  have hga : a.getD (a.length - 1) 0 = x := by rw [htop, List.getD_eq_getElem?_getD, hx]; rfl
  have hgb : bb.getD (bb.length - 1) 0 = y := by rw [hlb, Nat.add_sub_cancel, List.getD_eq_getElem?_getD, hy]; rfl
  rw [hga, hgb]
  have HXC : Hid (∀ w' : World, KeepC w w' → ∃ g off : Nat, aa = some ⟨g, off, none⟩ ∧ g < w'.heap.size ∧ w'.cell? ⟨g, off + top, none⟩ = some (.int .i64 x)) := by
    intro w' hk
    obtain ⟨_, _, e, hc⟩ := (ints_keep hra hk (by omega)).opened
    rw [hav] at e
    injection e with e1
    rw [e1]
    exact hc top x hx
  have HYC : Hid (∀ w' : World, KeepC w w' → ∃ g off : Nat, ba = some ⟨g, off, none⟩ ∧ g < w'.heap.size ∧ w'.cell? ⟨g, off + top, none⟩ = some (.int .i64 y)) := by
    intro w' hk
    obtain ⟨_, _, e, hc⟩ := (ints_keep hrb hk (by omega)).opened
    rw [hbv] at e
    injection e with e1
    rw [e1]
    exact hc top y hy
  obtain ⟨N1, hN1⟩ : ∃ N1 : Int, N + 1 = N1 := ⟨_, rfl⟩
  have GA : Hid (∀ w1 : World, Bld w1 lo hi b 99 (ins, gs, os) → _) := fun w1 h1 => gate5_at lo hi b ins gs os N 2 x 0 hN hI0 hI1 (by omega) w1 h1
  have GB : Hid (∀ w1 : World, Bld w1 lo hi b 99 (ins, gs ++ [(2, x, 0)], os) → _) := fun w1 h1 => gate5_at lo hi b ins (gs ++ [(2, x, 0)]) os N1 2 y 0 (by rw [List.length_append, List.length_singleton]; omega) hI0 hI1 (by rw [List.length_append, List.length_singleton]; omega) w1 h1
  have hta : a.set top N = topW a N := topW_set a N top hla
  have htb : bb.set top N1 = topW bb (N + 1) := by rw [hN1]; exact topW_set bb N1 top hlb
  obtain ⟨O, hO⟩ : ∃ O, onW (N + 2) (N + 3) 6 5 a.length = O := ⟨_, rfl⟩
  have GL : Hid (∀ (v7 v8 : Value) (w4 : World), Bld w4 lo hi b 99 (ins, gs ++ [(2, x, 0)] ++ [(2, y, 0)], os) → Fr lo w w4 → (∀ w', Fr lo w4 w' → IntsAt w' v7 (topW a N)) → (∀ w', Fr lo w4 w' → IntsAt w' v8 (topW bb (N + 1))) → Calls Tryd.prog 100 #[.pointer (some ⟨b, 0, none⟩), v7, v8] w4 fun e w' => e = .returned (.int .i64 O) ∧ Bld w' lo hi b 99 (ins, gs ++ ([(2, x, 0), (2, y, 0)] ++ [(1, 0, 0)] ++ (lessG (topW a N) (topW bb (N + 1)) (N + 2) (N + 3)).1), os) ∧ Fr lo w w') := by
    intro v7 v8 w4 hbl4 hf i7 i8
    have hl7 : (topW a N).length = top + 1 := by rw [← hta, List.length_set]; exact hla
    have hl8 : (topW bb (N + 1)).length = top + 1 := by rw [← htb, List.length_set]; exact hlb
    have g := sLess5_any lo hi b ins (gs ++ [(2, x, 0)] ++ [(2, y, 0)]) os v7 v8 (topW a N) (topW bb (N + 1)) (N + 2) (by simp only [List.length_append, List.length_cons, List.length_nil]; omega) hI0 hI1 (by simp only [List.length_append, List.length_cons, List.length_nil]; omega) (by rw [hl7, hl8]) (by omega) w4 hbl4 (Nat.le_trans hhi hf.size) i7 i8
    rw [hl7, ← hla, show N + 2 + 1 = N + 3 from by omega, hO] at g
    refine g.mono ?_
    rintro e w' ⟨rfl, bl, fr⟩
    refine ⟨rfl, ?_, hf.trans fr⟩
    simpa [List.append_assoc] using bl
  rw [hO]
  obtain ⟨TA, hTA⟩ : ∃ TA, topW a N = TA := ⟨_, rfl⟩
  obtain ⟨TB, hTB⟩ : ∃ TB, topW bb (N + 1) = TB := ⟨_, rfl⟩
  rw [hTA] at GL hta
  rw [hTB] at GL htb
  have HTA : Hid (a.set top N = TA ∧ TA.length = top + 1) := ⟨hta, by rw [← hta, List.length_set]; exact hla⟩
  have HTB : Hid (bb.set top N1 = TB ∧ TB.length = top + 1) := ⟨htb, by rw [← htb, List.length_set]; exact hlb⟩
  obtain ⟨GG, hGG⟩ : ∃ GG, [((2, x, 0) : Gt), (2, y, 0)] ++ [(1, 0, 0)] ++ (lessG TA TB (N + 2) (N + 3)).1 = GG := ⟨_, rfl⟩
  rw [hTA, hTB, hGG]
  rw [hGG] at GL
  subst hav hbv
  have HB : Hid (Bld w lo hi b 99 (ins, gs, os)) := h
  rw [hla] at G1 ⊢
  rw [hlb] at G2 ⊢
  obtain ⟨an, han⟩ : ∃ an, top + 1 = an := ⟨_, rfl⟩
  rw [han] at G1 G2 HTA HTB ⊢
  have han1 : (an : Int) - 1 = (top : Int) := by omega
  have han2 : top < an := by omega
  have han3 : (top : Int) < (an : Int) := by omega
  have han4 : an ≤ 4 := by omega
  clear hla hlb htop hx hy hga hgb hta htb hO hTA hTB hGG han hra hrb h hal1 hal hab hN1
  go_enter Tryd.func76, Tryd.ntmps76
  go_wp2_with fail
  refine G1.out.mono ?_
  rintro e w1 ⟨r1, rfl, o1, s1⟩
  obtain ⟨pg, pc, rfl, pb1, pb2⟩ := World.ownsRow.form o1 (by omega)
  have O1 : Hid (w1.ownsRow w.heap.size 3 1 (.slice (some ⟨pg, 0, none⟩) an pc) an (cellsI a)) := o1
  have S1 : Hid (Below w.heap.size w w1) := s1
  clear o1 s1 G1
  go_wp2_with fail
  refine (G2.out w1 S1.out).mono ?_
  rintro e w2 ⟨r2, rfl, o2, s2⟩
  obtain ⟨qg, qc, rfl, qb1, qb2⟩ := World.ownsRow.form o2 (by omega)
  have O2 : Hid (w2.ownsRow w1.heap.size 3 1 (.slice (some ⟨qg, 0, none⟩) an qc) an (cellsI bb)) := o2
  have O12 : Hid (w2.ownsRow w.heap.size 3 1 (.slice (some ⟨pg, 0, none⟩) an pc) an (cellsI a)) := owns_below O1.out s2
  have S2 : Hid (Below w.heap.size w w2) := S1.out.trans (s2.mono S1.out.size)
  have B2 : Hid (Bld w2 lo hi b 99 (ins, gs, os)) := Bld.bel HB.out S2.out
  have F2 : Hid (Fr lo w w2) := ⟨S2.out.mono hlo, KeepC.below S2.out⟩
  obtain ⟨ag, aoff, rfl, al1, al2⟩ := HXC.out w2 F2.out.keep
  have hszp := S1.out.size
  have hszq := s2.size
  clear o2 s2 G2 O1 S1 HB
  go_wp2_with fail
  refine (GA.out w2 B2.out).mono ?_
  rintro e w3 ⟨rfl, b3, f3, k3⟩
  have P3 : w3.ownsRow w.heap.size 3 1 (.slice (some ⟨pg, 0, none⟩) an pc) an (cellsI a) := own_keepT O12.out k3.int
  have Q3 : w3.ownsRow w1.heap.size 3 1 (.slice (some ⟨qg, 0, none⟩) an qc) an (cellsI bb) := own_keepT O2.out k3.int
  have F3 : Fr lo w w3 := F2.out.trans f3
  obtain ⟨⟨u3, c3⟩, z3, P4⟩ := put_at P3 top han2 N
  have hs3 := f3.size
  obtain ⟨gP, capP, curP, hvP, _, hhP, _⟩ := (P3.2).resolve_left (fun e => by cases e.1)
  have hgP : gP = pg := by injection hvP with e1; injection e1 with e2; injection e2 with e3; exact e3.symm
  subst hgP
  have B4 : Hid (Bld (w3.setCell ⟨gP, top, none⟩ (.int .i64 N)) lo hi b 99 (ins, gs ++ [(2, x, 0)], os)) := Bld.setRow b3 hhP (by omega)
  have F4 : Hid (Fr lo w (w3.setCell ⟨gP, top, none⟩ (.int .i64 N))) := ⟨F3.bel.setCell (p := ⟨gP, top, none⟩) (by show lo ≤ gP; omega) _, F3.keep.setNew5 (by omega)⟩
  have Q4 : Hid ((w3.setCell ⟨gP, top, none⟩ (.int .i64 N)).ownsRow w1.heap.size 3 1 (.slice (some ⟨qg, 0, none⟩) an qc) an (cellsI bb)) := own_keep Q3 (fun k hk => Below.heap_setCell _ _ _ _ (by show k ≠ gP; have e2 : qg = k := Option.some.inj hk; omega))
  have P4h : Hid ((w3.setCell ⟨gP, top, none⟩ (.int .i64 N)).ownsRow w.heap.size 3 1 (.slice (some ⟨gP, 0, none⟩) an pc) an (cellsI TA)) := by
    rw [← HTA.out.1]
    exact P4
  have hsz4 : (w3.setCell ⟨gP, top, none⟩ (.int .i64 N)).heap.size = w3.heap.size := by simp [World.setCell]
  obtain ⟨bg, boff, rfl, bl1, bl2⟩ := HYC.out _ F4.out.keep
  clear b3 f3 k3 P3 Q3 P4 F3 hvP hhP B2 F2 O2 O12 HXC HYC GA al1 al2
  go_wp2_with fail
  generalize w3.setCell ⟨gP, top, none⟩ (.int .i64 N) = w4 at *
  refine (GB.out w4 B4.out).mono ?_
  rintro e w5 ⟨rfl, b5, f5, k5⟩
  have P5 : w5.ownsRow w.heap.size 3 1 (.slice (some ⟨gP, 0, none⟩) an pc) an (cellsI TA) := own_keepT P4h.out k5.int
  have Q5 : w5.ownsRow w1.heap.size 3 1 (.slice (some ⟨qg, 0, none⟩) an qc) an (cellsI bb) := own_keepT Q4.out k5.int
  have F5 : Fr lo w w5 := F4.out.trans f5
  obtain ⟨⟨u5, c5⟩, z5, Q6⟩ := put_at Q5 top han2 N1
  have hs5 := f5.size
  obtain ⟨gQ, capQ, curQ, hvQ, _, hhQ, _⟩ := (Q5.2).resolve_left (fun e => by cases e.1)
  have hgQ : gQ = qg := by injection hvQ with e1; injection e1 with e2; injection e2 with e3; exact e3.symm
  subst hgQ
  have B6 : Hid (Bld (w5.setCell ⟨gQ, top, none⟩ (.int .i64 N1)) lo hi b 99 (ins, gs ++ [(2, x, 0)] ++ [(2, y, 0)], os)) := Bld.setRow b5 hhQ (by omega)
  have F6 : Hid (Fr lo w (w5.setCell ⟨gQ, top, none⟩ (.int .i64 N1))) := ⟨F5.bel.setCell (p := ⟨gQ, top, none⟩) (by show lo ≤ gQ; omega) _, F5.keep.setNew5 (by omega)⟩
  have P6 : Hid ((w5.setCell ⟨gQ, top, none⟩ (.int .i64 N1)).ownsRow w.heap.size 3 1 (.slice (some ⟨gP, 0, none⟩) an pc) TA.length (cellsI TA)) := by
    rw [HTA.out.2]
    exact own_keep P5 (fun k hk => Below.heap_setCell _ _ _ _ (by show k ≠ gQ; have e2 : gP = k := Option.some.inj hk; omega))
  have Q6h : Hid ((w5.setCell ⟨gQ, top, none⟩ (.int .i64 N1)).ownsRow w1.heap.size 3 1 (.slice (some ⟨gQ, 0, none⟩) an qc) TB.length (cellsI TB)) := by
    rw [HTB.out.2, ← HTB.out.1]
    exact Q6
  have hTAl : TA.length ≤ 4 := by rw [HTA.out.2]; omega
  have hTBl : TB.length ≤ 4 := by rw [HTB.out.2]; omega
  clear b5 f5 k5 P5 Q5 Q6 F5 hvQ hhQ B4 F4 P4h Q4 GB HTA HTB bl1 bl2
  go_wp2_with fail
  generalize w5.setCell ⟨gQ, top, none⟩ (.int .i64 N1) = w6 at *
  refine (GL.out _ _ w6 B6.out F6.out (fun w' hf => ints_keep P6.out hf.keep (by omega)) (fun w' hf => ints_keep Q6h.out hf.keep (by omega))).mono ?_
  rintro e w7 ⟨rfl, b7, f7⟩
  have B7 : Hid (Bld w7 lo hi b 99 (ins, gs ++ GG, os)) := b7
  have F7 : Hid (Fr lo w w7) := f7
  clear b7 f7 GL P6 Q6h B6 F6
  go_wp2_with fail
  go_ret
  exact ⟨_, rfl, one_own5 w7 O _ (F7.out.size), Bld.alloc B7.out _, F7.out.alloc (Nat.le_trans hlo F7.out.size) _⟩
end Go.Proofs.YtpjllhlbdcanlaaDoor

namespace Go.Proofs.YtpjllhlbdcanlaaDoor
open Go Go.RowKit
open M
set_option linter.unusedVariables false
set_option linter.unusedSimpArgs false

theorem sTwo_any (lo hi b wide : Nat) (hw1 : 1 ≤ wide) (hw4 : wide ≤ 4) (ins : Int) (gs : List Gt) (os : List Int) (op n : Int) (av bv : Value) (a bb : List Int) (N : Int) (hN : ins + gs.length = N) (hI0 : 0 ≤ ins) (hI1 : ins ≤ 16) (hn : gs.length ≤ 15000) (w : World) (h : Bld w lo hi b 99 (ins, gs, os)) (hhi : hi ≤ w.heap.size)
    (hm2 : manyOf op = 2) (hpl : plainN (op, n)) (hla : a.length = lenK wide (partOf op)) (hlb : bb.length = lenK wide (partOf op)) (Ba Bb : Nat) (hra : w.ownsRow Ba 3 1 av a.length (cellsI a)) (hrb : w.ownsRow Bb 3 1 bv bb.length (cellsI bb)) :
    Calls Tryd.prog 76 #[.pointer (some ⟨b, 0, none⟩), .int .i64 op, av, bv] w (TwoOut lo hi b ins gs os w (layN wide op n a bb N)) := by
  have hr : (3 ≤ op ∧ op ≤ 12) ∨ (14 ≤ op ∧ op ≤ 18) := by
    unfold manyOf at hm2
    split at hm2
    · omega
    · split at hm2
      · assumption
      · omega
  obtain ⟨p6, p7, p11, p12⟩ := hpl
  simp only at p6 p7 p11 p12
  have hm : op = 3 ∨ op = 4 ∨ op = 5 ∨ op = 8 ∨ op = 9 ∨ op = 10 ∨ op = 14 ∨ op = 15 ∨ op = 16 ∨ op = 17 ∨ op = 18 := by omega
  have hk : 1 ≤ lenK wide (partOf op) ∧ lenK wide (partOf op) ≤ 4 := by unfold lenK; split <;> omega
  have hab : a.length = bb.length := by omega
  have hal : a.length ≤ 4 := by omega
  have hal1 : 1 ≤ a.length := by omega
  clear hr p6 p7 p11 p12 hm2 hk
  rcases hm with rfl | rfl | rfl | rfl | rfl | rfl | rfl | rfl | rfl | rfl | rfl
  all_goals simp (config := {decide := true}) only [layN, if_true, if_false]
  · exact sTwo_add lo hi b ins gs os av bv a bb N hN hI0 hI1 hn hal hab w h hhi Ba Bb hra hrb
  · exact sTwo_sub lo hi b ins gs os av bv a bb N hN hI0 hI1 hn hal hab w h hhi Ba Bb hra hrb
  · exact sTwo_mul lo hi b ins gs os av bv a bb N hN hI0 hI1 hn hal hab w h hhi Ba Bb hra hrb
  · exact sTwo_and lo hi b ins gs os av bv a bb N hN hI0 hI1 hn hal hab w h hhi Ba Bb hra hrb
  · exact sTwo_or lo hi b ins gs os av bv a bb N hN hI0 hI1 hn hal hab w h hhi Ba Bb hra hrb
  · exact sTwo_xor lo hi b ins gs os av bv a bb N hN hI0 hI1 hn hal hab w h hhi Ba Bb hra hrb
  · exact sTwo_eq lo hi b ins gs os av bv a bb N hN hI0 hI1 hn hal hab w h hhi Ba Bb hra hrb
  · exact sTwo_less lo hi b ins gs os av bv a bb N hN hI0 hI1 hn hal hab w h hhi Ba Bb hra hrb
  · exact sTwo_lessS lo hi b ins gs os av bv a bb N hN hI0 hI1 hn hal1 hal hab w h hhi Ba Bb hra hrb
  · exact sTwo_both lo hi b ins gs os av bv a bb N hN hI0 hI1 hn hal hab w h hhi Ba Bb hra hrb
  · exact sTwo_either lo hi b ins gs os av bv a bb N hN hI0 hI1 hn hal hab w h hhi Ba Bb hra hrb
end Go.Proofs.YtpjllhlbdcanlaaDoor

namespace Go.Proofs.YtpjllhlbdcanlaaDoor
open Go Go.RowKit
open M
set_option linter.unusedVariables false

abbrev ptr (b : Nat) : Value := .pointer (some ⟨b, 0, none⟩)
abbrev ptrs (bs : List Nat) : List Value := bs.map ptr
/-- a slice whose elements point to these blocks -/
def PtrsAt (w : World) (S : Nat → Prop) (v : Value) (bs : List Nat) : Prop :=
  bs.length ≤ 9223372036854775807 ∧ ((bs = [] ∧ ∃ (a : Option Addr) (cap : Nat), v = .slice a 0 cap) ∨
  ∃ g off cap : Nat, v = .slice (some ⟨g, off, none⟩) bs.length cap ∧ S g ∧ ∀ (i b : Nat), bs[i]? = some b → w.cell? ⟨g, off + i, none⟩ = some (ptr b))
/-- a node in memory: its op, its number, its kind, its size, its parts -/
def NodeAt (w : World) (S : Nat → Prop) (b : Nat) (x : Nd) (kind : Int) (size : Nat) (ps : List Nat) : Prop :=
  S b ∧ w.cell? ⟨b, 0, none⟩ = some (.int .i64 x.1) ∧ w.cell? ⟨b, 1, none⟩ = some (.int .u64 x.2) ∧ w.cell? ⟨b, 2, none⟩ = some (.int .i64 kind) ∧ w.cell? ⟨b, 3, none⟩ = some (.int .i64 size) ∧
  ∃ v, w.cell? ⟨b, 4, none⟩ = some v ∧ PtrsAt w S v ps
def TrAt (w : World) (S : Nat → Prop) : Tr → Nat → Prop
  | .leaf x, b => NodeAt w S b x (ownOf x.1) 1 []
  | .one x a, b => ∃ p, NodeAt w S b x (ownOf x.1) (Tr.one x a).size [p] ∧ TrAt w S a p
  | .two x a c, b => ∃ p q, NodeAt w S b x (ownOf x.1) (Tr.two x a c).size [p, q] ∧ TrAt w S a p ∧ TrAt w S c q
/-- trees side by side -/
def TrsAt (w : World) (S : Nat → Prop) (l : List Tr) (ps : List Nat) : Prop := l.length = ps.length ∧ ∀ (i : Nat) (a : Tr) (p : Nat), l[i]? = some a → ps[i]? = some p → TrAt w S a p
theorem PtrsAt.frame {w w' : World} {S S' : Nat → Prop} {v : Value} {bs : List Nat} (h : PtrsAt w S v bs) (hs : ∀ k, S k → S' k) (hk : ∀ k, S k → w'.heap[k]? = w.heap[k]?) : PtrsAt w' S' v bs := by
  obtain ⟨h1, h2⟩ := h
  refine ⟨h1, ?_⟩
  rcases h2 with h2 | ⟨g, off, cap, hv, hg, hc⟩
  · exact Or.inl h2
  · refine Or.inr ⟨g, off, cap, hv, hs g hg, fun i b hb => ?_⟩
    rw [World.cell?_of_block (w := w) (a := ⟨g, off + i, none⟩) (hk g hg)]
    exact hc i b hb
theorem NodeAt.frame {w w' : World} {S S' : Nat → Prop} {b : Nat} {x : Nd} {kind : Int} {size : Nat} {ps : List Nat} (h : NodeAt w S b x kind size ps) (hs : ∀ k, S k → S' k) (hk : ∀ k, S k → w'.heap[k]? = w.heap[k]?) : NodeAt w' S' b x kind size ps := by
  obtain ⟨h0, h1, h2, h3, h4, v, h5, h6⟩ := h
  have hb := hk b h0
  exact ⟨hs b h0, by rw [World.cell?_of_block (w := w) (a := ⟨b, 0, none⟩) hb]; exact h1, by rw [World.cell?_of_block (w := w) (a := ⟨b, 1, none⟩) hb]; exact h2, by rw [World.cell?_of_block (w := w) (a := ⟨b, 2, none⟩) hb]; exact h3, by rw [World.cell?_of_block (w := w) (a := ⟨b, 3, none⟩) hb]; exact h4, v, by rw [World.cell?_of_block (w := w) (a := ⟨b, 4, none⟩) hb]; exact h5, h6.frame hs hk⟩
theorem TrAt.frame {w w' : World} {S S' : Nat → Prop} (hs : ∀ k, S k → S' k) (hk : ∀ k, S k → w'.heap[k]? = w.heap[k]?) : ∀ {t : Tr} {b : Nat}, TrAt w S t b → TrAt w' S' t b
  | .leaf x, b, h => NodeAt.frame h hs hk
  | .one x a, b, ⟨p, h1, h2⟩ => ⟨p, h1.frame hs hk, TrAt.frame hs hk h2⟩
  | .two x a c, b, ⟨p, q, h1, h2, h3⟩ => ⟨p, q, h1.frame hs hk, TrAt.frame hs hk h2, TrAt.frame hs hk h3⟩
theorem TrsAt.frame {w w' : World} {S S' : Nat → Prop} {l : List Tr} {ps : List Nat} (hs : ∀ k, S k → S' k) (hk : ∀ k, S k → w'.heap[k]? = w.heap[k]?) (h : TrsAt w S l ps) : TrsAt w' S' l ps :=
  ⟨h.1, fun i a p ha hp => TrAt.frame hs hk (h.2 i a p ha hp)⟩
theorem trAt_open {w : World} {S : Nat → Prop} {t : Tr} {b : Nat} (h : TrAt w S t b) : ∃ ps, NodeAt w S b t.nd t.kind t.size ps ∧ TrsAt w S t.parts ps := by
  cases t with
  | leaf x => exact ⟨[], h, rfl, fun i a p ha _ => by simp [Tr.parts] at ha⟩
  | one x a =>
    obtain ⟨p, h1, h2⟩ := h
    refine ⟨[p], h1, rfl, fun i c q hc hq => ?_⟩
    match i with
    | 0 =>
      simp [Tr.parts] at hc hq
      subst hc hq
      exact h2
    | i + 1 => simp at hq
  | two x a c =>
    obtain ⟨p, q, h1, h2, h3⟩ := h
    refine ⟨[p, q], h1, rfl, fun i d r hd hr => ?_⟩
    match i with
    | 0 =>
      simp [Tr.parts] at hd hr
      subst hd hr
      exact h2
    | 1 =>
      simp [Tr.parts] at hd hr
      subst hd hr
      exact h3
    | i + 2 => simp at hr
theorem trAt_shut {w : World} {S : Nat → Prop} {x : Nd} {l : List Tr} {b : Nat} {ps : List Nat} (hl : l.length ≤ 2) (h : NodeAt w S b x (ownOf x.1) (1 + sizes l) ps) (hp : TrsAt w S l ps) : TrAt w S (Tr.over x l) b := by
  obtain ⟨h1, h2⟩ := hp
  match l, hl, ps, h, h1, h2 with
  | [], _, [], h, _, _ => exact h
  | [a], _, [p], h, _, h2 => exact ⟨p, h, h2 0 a p rfl rfl⟩
  | [a, c], _, [p, q], h, _, h2 =>
    have e : 1 + sizes [a, c] = (Tr.two x a c).size := by simp only [sizes, Tr.size]; omega
    rw [e] at h
    exact ⟨p, q, h, h2 0 a p rfl rfl, h2 1 c q rfl rfl⟩
  | _ :: _ :: _ :: _, hl, _, _, _, _ => simp at hl
/-- all that lies in a world -/
abbrev Old (w : World) : Nat → Prop := fun k => k < w.heap.size
/-- all that lies in a world but the block of a row -/
abbrev OldBut (w : World) (v : Value) : Nat → Prop := fun k => k < w.heap.size ∧ some k ≠ v.ownBlock
theorem TrAt.below {w w' : World} {t : Tr} {b : Nat} (h : TrAt w (Old w) t b) (hb : Below w.heap.size w w') : TrAt w' (Old w') t b :=
  TrAt.frame (fun k hk => Nat.lt_of_lt_of_le hk hb.size) (fun k hk => hb.block k hk) h
theorem TrsAt.below {w w' : World} {l : List Tr} {ps : List Nat} (h : TrsAt w (Old w) l ps) (hb : Below w.heap.size w w') : TrsAt w' (Old w') l ps :=
  TrsAt.frame (fun k hk => Nat.lt_of_lt_of_le hk hb.size) (fun k hk => hb.block k hk) h
theorem PtrsAt.below {w w' : World} {v : Value} {bs : List Nat} (h : PtrsAt w (Old w) v bs) (hb : Below w.heap.size w w') : PtrsAt w' (Old w') v bs :=
  PtrsAt.frame h (fun k hk => Nat.lt_of_lt_of_le hk hb.size) (fun k hk => hb.block k hk)
/-- a row that is owned points -/
theorem ptrs_of_own {w : World} {B : Nat} {v : Value} {bs : List Nat} (h : w.ownsRow B 83 1 v bs.length (ptrs bs)) (hl : bs.length ≤ 9223372036854775807) : PtrsAt w (Old w) v bs := by
  refine ⟨hl, ?_⟩
  rcases h.2 with ⟨rfl, h0⟩ | ⟨g, cap, cur, rfl, hg, hh, _, _, _, ht⟩
  · exact Or.inl ⟨List.length_eq_zero_iff.1 h0, none, 0, rfl⟩
  · refine Or.inr ⟨g, 0, cap, rfl, (Array.getElem?_eq_some_iff.1 hh).1, fun i b hb => ?_⟩
    have hc := h.cells (g := g) rfl i (ptr b) (by simp [ptrs, hb])
    rw [show ((⟨g, 0, none⟩ : Addr).add i) = ⟨g, 0 + i, none⟩ from by unfold Addr.add; split <;> simp_all] at hc
    exact hc
theorem heap_set {w : World} {b o : Nat} {v : Value} {c : Array Value} {e : TypeId} {f : Nat × Nat} (h : w.heap[b]? = some (.cells c e f)) : (w.setCell ⟨b, o, none⟩ v).heap[b]? = some (.cells (c.setIfInBounds o v) e f) := by
  simp [World.setCell, Array.getElem?_modify, h]
theorem cell_heap {w : World} {b o : Nat} {c : Array Value} {e : TypeId} {f : Nat × Nat} (h : w.heap[b]? = some (.cells c e f)) : w.cell? ⟨b, o, none⟩ = c[o]? := by
  simp [World.cell?, h]
end Go.Proofs.YtpjllhlbdcanlaaDoor

namespace Go.Proofs.YtpjllhlbdcanlaaDoor
open Go Go.RowKit
open M
set_option linter.unusedVariables false
set_option linter.unusedSimpArgs false

/-- how many operations have not come up -/
def undone (l : Array Bool) : Nat := (l.toList.filter (fun b => !b)).length
theorem filter_set : ∀ (l : List Bool) (i : Nat), l[i]? = some false → ((l.set i true).filter (fun b => !b)).length + 1 = (l.filter (fun b => !b)).length
  | [], i, h => by simp at h
  | x :: l, 0, h => by
    simp at h
    subst h
    simp
  | x :: l, i + 1, h => by
    have ih := filter_set l i (by simpa using h)
    cases x <;> simp [List.set, ih]
theorem undone_set {l : Array Bool} {i : Nat} (hi : l.getD i true = false) : undone (l.setIfInBounds i true) + 1 = undone l := by
  have h : l.toList[i]? = some false := by
    rw [Array.getElem?_toList]
    rw [Array.getD_eq_getD_getElem?] at hi
    cases e : l[i]? with
    | none => rw [e] at hi; simp at hi
    | some x => rw [e] at hi; simp at hi; rw [hi]
  unfold undone
  rw [Array.toList_setIfInBounds]
  exact filter_set l.toList i h
theorem wpAny_inv {P : Program} {md : Region.Mode} {ops : Array Oper} {Q : Exit → Act → World → Prop} (I : Array Bool → Act → World → Prop)
    (hdone : ∀ l a w, I l a w → Region.ready md ops l = [] → Q .normal a w) (hstep : ∀ l a w, I l a w → ∀ i ∈ Region.ready md ops l, wpOp P ops Q i (I (l.setIfInBounds i true)) a w) :
    ∀ (fuel : Nat) (l : Array Bool) (a : Act) (w : World), I l a w → undone l ≤ fuel → wpAny P md ops Q fuel l a w
  | 0, l, a, w, h, hu => by
    have hr : Region.ready md ops l = [] := by
      cases e : Region.ready md ops l with
      | nil => rfl
      | cons i r =>
        have hi : i ∈ Region.ready md ops l := by rw [e]; simp
        have := undone_set (mem_ready.1 hi).1
        omega
    exact ⟨hr, hdone l a w h hr⟩
  | fuel + 1, l, a, w, h, hu => ⟨hdone l a w h, fun i hi => wpOp_mono (fun a' w' h' => wpAny_inv I hdone hstep fuel _ a' w' h' (by have := undone_set (mem_ready.1 hi).1; omega)) (hstep l a w h i hi)⟩
theorem wpOp_run {P : Program} {ops : Array Oper} {Q : Exit → Act → World → Prop} {i : Nat} {o : Oper} {a : Act} {w : World} {K' : Act → World → Prop} (ho : ops[i]? = some o) (hg : o.guard = none)
    (h : ∀ K : Act → World → Prop, (∀ a w, K' a w → K a w) → o.wp P a w K Q) : wpOp P ops Q i K' a w := by
  unfold wpOp
  rw [ho]
  simp only
  rw [if_pos (by simp [Region.wanted, hg])]
  exact Or.inl (h K' (fun _ _ h => h))
theorem CellT.set {w : World} {k k' : Nat} {t t' : TypeId} {u v x : Value} (h : CellT w k t u) (h' : CellT w k' t' v) (n : t ≠ t') : CellT (w.setCell ⟨k, 0, none⟩ x) k' t' v := by
  unfold CellT at *
  rw [Below.heap_setCell _ _ _ _ (show k' ≠ k from fun e => by
    rw [e, h] at h'
    simp only [Option.some.injEq] at h'
    injection h' with _ h8
    exact n h8)]
  exact h'
theorem CellT.self {w : World} {k : Nat} {t : TypeId} {u x : Value} (h : CellT w k t u) : CellT (w.setCell ⟨k, 0, none⟩ x) k t x := by
  have e : w.heap[k]? = some (.cells #[u] t (0, 0)) := h
  exact heap_set e
theorem CellT.frozen {w : World} {k : Nat} {t : TypeId} {u : Value} (h : CellT w k t u) : w.frozen? ⟨k, 0, none⟩ = false := by
  have e : w.heap[k]? = some (.cells #[u] t (0, 0)) := h
  simp [World.frozen?, e]
theorem BitsV.set {w : World} {k b : Nat} {t : TypeId} {u v x : Value} (h' : BitsV w v b) (h : CellT w k t u) (n : t ≠ 118) : BitsV (w.setCell ⟨k, 0, none⟩ x) v b := by
  obtain ⟨cb, h1, h2⟩ := h'
  exact ⟨cb, h1, h.set h2 n⟩
theorem NotsV.set {w : World} {k b : Nat} {t : TypeId} {u v x : Value} (h' : NotsV w v b) (h : CellT w k t u) (n : t ≠ 118) : NotsV (w.setCell ⟨k, 0, none⟩ x) v b := by
  obtain ⟨cb, h1, h2⟩ := h'
  exact ⟨cb, h1, h.set h2 n⟩
theorem PairsV.set {w : World} {k b : Nat} {t : TypeId} {u v x : Value} (h' : PairsV w v b) (h : CellT w k t u) (n : t ≠ 118) : PairsV (w.setCell ⟨k, 0, none⟩ x) v b := by
  obtain ⟨cb, h1, h2⟩ := h'
  exact ⟨cb, h1, h.set h2 n⟩
theorem TimesV.set {w : World} {k b : Nat} {t : TypeId} {u v x : Value} (h' : TimesV w v b) (h : CellT w k t u) (n : t ≠ 118) (n2 : t ≠ 130) : TimesV (w.setCell ⟨k, 0, none⟩ x) v b := by
  obtain ⟨cc, cb, bv, h1, h2, h3, h4⟩ := h'
  exact ⟨cc, cb, bv, h1, h.set h2 n2, h3.set h n, h.set h4 n⟩
theorem LessV.set {w : World} {k b : Nat} {t : TypeId} {u v x : Value} (h' : LessV w v b) (h : CellT w k t u) (n : t ≠ 118) (n2 : t ≠ 132) : LessV (w.setCell ⟨k, 0, none⟩ x) v b := by
  obtain ⟨cc, cb, bv, h1, h2, h3, h4⟩ := h'
  exact ⟨cc, cb, bv, h1, h.set h2 n2, h3.set h n, h.set h4 n⟩
theorem ready_none {md : Region.Mode} {ops : Array Oper} {l : Array Bool} (hr : Region.ready md ops l = []) (i : Nat) {o : Oper} (ho : ops[i]? = some o) (hl : l.getD i true = false) (hd : (o.after.toList.all fun e => l.getD e.on false) = true) : False := by
  have h : i ∈ Region.ready md ops l := mem_ready.2 ⟨hl, o, ho, fun e he _ => List.all_eq_true.1 hd e (Array.mem_def.1 he)⟩
  rw [hr] at h
  cases h
theorem ready_lt {md : Region.Mode} {ops : Array Oper} {l : Array Bool} {i : Nat} (hi : i ∈ Region.ready md ops l) : i < ops.size := by
  unfold Region.ready at hi
  rw [List.mem_filter, List.mem_range] at hi
  exact hi.1
theorem ready_dep {md : Region.Mode} {ops : Array Oper} {l : Array Bool} {i : Nat} {o : Oper} (hi : i ∈ Region.ready md ops l) (ho : ops[i]? = some o) : l.getD i true = false ∧ ∀ e ∈ o.after, Region.binds md e = true → l.getD e.on false = true := by
  obtain ⟨h1, o', h2, h3⟩ := mem_ready.1 hi
  rw [ho] at h2
  obtain rfl := Option.some.inj h2
  exact ⟨h1, h3⟩
structure Reg3 (b cb : Nat) (w0 w : World) (l0 l1 l2 l3 l4 l5 l6 l7 l8 l9 l10 l11 : Bool) (s0 s1 s2 s3 s4 s5 s6 s7 s8 : Value) : Prop where
  bel : Below w0.heap.size w0 w
  cc : CellT w cb 118 (.pointer (some ⟨b, 0, none⟩))
  ld0 : l0 = true → s0 = .pointer (some ⟨b, 0, none⟩)
  ld1 : l2 = true → s1 = .pointer (some ⟨b, 0, none⟩)
  ld2 : l4 = true → s2 = .pointer (some ⟨b, 0, none⟩)
  cl0 : l1 = true → BitsV w s3 b
  cl1 : l3 = true → NotsV w s4 b
  cl2 : l5 = true → PairsV w s5 b
  bk0 : l6 = true → ∃ k u, s6 = .pointer (some ⟨k, 0, none⟩) ∧ w0.heap.size ≤ k ∧ CellT w k 130 u ∧ (l9 = true → u = s3)
  bk1 : l7 = true → ∃ k u, s7 = .pointer (some ⟨k, 0, none⟩) ∧ w0.heap.size ≤ k ∧ CellT w k 132 u ∧ (l10 = true → u = s4)
  bk2 : l8 = true → ∃ k u, s8 = .pointer (some ⟨k, 0, none⟩) ∧ w0.heap.size ≤ k ∧ CellT w k 105 u ∧ (l11 = true → u = s5)
  st0 : l9 = true → l1 = true ∧ l6 = true
  st1 : l10 = true → l3 = true ∧ l7 = true
  st2 : l11 = true → l5 = true ∧ l8 = true
theorem Reg3.below {b cb : Nat} {w0 w w' : World} {l0 l1 l2 l3 l4 l5 l6 l7 l8 l9 l10 l11 : Bool} {s0 s1 s2 s3 s4 s5 s6 s7 s8 : Value} (h : Reg3 b cb w0 w l0 l1 l2 l3 l4 l5 l6 l7 l8 l9 l10 l11 s0 s1 s2 s3 s4 s5 s6 s7 s8) (hb : Below w.heap.size w w') : Reg3 b cb w0 w' l0 l1 l2 l3 l4 l5 l6 l7 l8 l9 l10 l11 s0 s1 s2 s3 s4 s5 s6 s7 s8 where
  bel := h.bel.trans (hb.mono h.bel.size)
  cc := h.cc.below hb
  ld0 := h.ld0
  ld1 := h.ld1
  ld2 := h.ld2
  cl0 := fun e => (h.cl0 e).below hb
  cl1 := fun e => (h.cl1 e).below hb
  cl2 := fun e => (h.cl2 e).below hb
  bk0 := fun e => by
    obtain ⟨k, u, h1, h2, h3, h4⟩ := h.bk0 e
    exact ⟨k, u, h1, h2, h3.below hb, h4⟩
  bk1 := fun e => by
    obtain ⟨k, u, h1, h2, h3, h4⟩ := h.bk1 e
    exact ⟨k, u, h1, h2, h3.below hb, h4⟩
  bk2 := fun e => by
    obtain ⟨k, u, h1, h2, h3, h4⟩ := h.bk2 e
    exact ⟨k, u, h1, h2, h3.below hb, h4⟩
  st0 := h.st0
  st1 := h.st1
  st2 := h.st2
/-- what has come up ahead of what comes up -/
def depReg3 (l0 l1 l2 l3 l4 l5 l6 l7 l8 l9 l10 l11 : Bool) : Nat → Bool
  | 0 => !l0
  | 1 => l0 && !l1
  | 2 => !l2
  | 3 => l2 && !l3
  | 4 => !l4
  | 5 => l4 && !l5
  | 6 => !l6
  | 7 => !l7
  | 8 => !l8
  | 9 => l6 && l1
  | 10 => l7 && l3
  | 11 => l8 && l5
  | _ => false
structure Reg2 (b cb : Nat) (w0 w : World) (l0 l1 l2 l3 l4 l5 l6 l7 : Bool) (s0 s1 s2 s3 s4 s5 : Value) : Prop where
  bel : Below w0.heap.size w0 w
  cc : CellT w cb 118 (.pointer (some ⟨b, 0, none⟩))
  ld0 : l0 = true → s0 = .pointer (some ⟨b, 0, none⟩)
  ld1 : l2 = true → s1 = .pointer (some ⟨b, 0, none⟩)
  cl0 : l1 = true → TimesV w s2 b
  cl1 : l3 = true → LessV w s3 b
  bk0 : l4 = true → ∃ k u, s4 = .pointer (some ⟨k, 0, none⟩) ∧ w0.heap.size ≤ k ∧ CellT w k 128 u ∧ (l6 = true → u = s2)
  bk1 : l5 = true → ∃ k u, s5 = .pointer (some ⟨k, 0, none⟩) ∧ w0.heap.size ≤ k ∧ CellT w k 129 u ∧ (l7 = true → u = s3)
  st0 : l6 = true → l1 = true ∧ l4 = true
  st1 : l7 = true → l3 = true ∧ l5 = true
theorem Reg2.below {b cb : Nat} {w0 w w' : World} {l0 l1 l2 l3 l4 l5 l6 l7 : Bool} {s0 s1 s2 s3 s4 s5 : Value} (h : Reg2 b cb w0 w l0 l1 l2 l3 l4 l5 l6 l7 s0 s1 s2 s3 s4 s5) (hb : Below w.heap.size w w') : Reg2 b cb w0 w' l0 l1 l2 l3 l4 l5 l6 l7 s0 s1 s2 s3 s4 s5 where
  bel := h.bel.trans (hb.mono h.bel.size)
  cc := h.cc.below hb
  ld0 := h.ld0
  ld1 := h.ld1
  cl0 := fun e => (h.cl0 e).below hb
  cl1 := fun e => (h.cl1 e).below hb
  bk0 := fun e => by
    obtain ⟨k, u, h1, h2, h3, h4⟩ := h.bk0 e
    exact ⟨k, u, h1, h2, h3.below hb, h4⟩
  bk1 := fun e => by
    obtain ⟨k, u, h1, h2, h3, h4⟩ := h.bk1 e
    exact ⟨k, u, h1, h2, h3.below hb, h4⟩
  st0 := h.st0
  st1 := h.st1
/-- what has come up ahead of what comes up -/
def depReg2 (l0 l1 l2 l3 l4 l5 l6 l7 : Bool) : Nat → Bool
  | 0 => !l0
  | 1 => l0 && !l1
  | 2 => !l2
  | 3 => l2 && !l3
  | 4 => !l4
  | 5 => !l5
  | 6 => l4 && l1
  | 7 => l5 && l3
  | _ => false
end Go.Proofs.YtpjllhlbdcanlaaDoor
