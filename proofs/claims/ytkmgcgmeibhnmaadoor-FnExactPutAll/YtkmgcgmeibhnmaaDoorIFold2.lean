/-
  The program's leafOf, fold and FoldTerm.
-/
import Derived.Test.YtkmgcgmeibhnmaaDoorIFold
import Derived.Test.YtkmgcgmeibhnmaaDoorTreeM2
namespace Go.Proofs.YtkmgcgmeibhnmaaDoor
open Go Go.RowKit
open M
set_option linter.unusedVariables false

/-- the tree that nodeOver made, among all that lies there -/
theorem tr_all {w w' : World} {S : Nat → Prop} {t : Tr} {b : Nat} (hS : ∀ k, S k → k < w.heap.size) (hb : Below w.heap.size w w') (h : TrAt w' (fun k => S k ∨ (w.heap.size ≤ k ∧ k < w'.heap.size)) t b) : TrAt w' (Old w') t b :=
  TrAt.frame (fun k hk => by
    rcases hk with hk | hk
    · exact Nat.lt_of_lt_of_le (hS k hk) hb.size
    · exact hk.2) (fun _ _ => rfl) h
/-- blocks of S or made since w, which lie there and are not the row's -/
abbrev Mix (S : Nat → Prop) (w wr : World) (v : Value) : Nat → Prop := fun k => (S k ∨ w.heap.size ≤ k) ∧ OldBut wr v k
theorem mix_next {S : Nat → Prop} {w w3 w7 : World} {v v0 v7 : Value} {o : Obj} {l : List Tr} {ps : List Nat} (ht : TrsAt w3 (Mix S w w3 v) l ps) (grow : (w3.alloc o).grownBy w7 v0.ownBlock) (hat : v7.ownBlock = v0.ownBlock ∨ v7.ownBlock = some (w3.heap.size + 1)) (hvb : v0.ownBlock = v.ownBlock) : TrsAt w7 (Mix S w w7 v7) l ps := by
  have hs := grow.size
  rw [show (w3.alloc o).heap.size = w3.heap.size + 1 from by simp] at hs
  refine TrsAt.frame (fun k hk => ⟨hk.1, ?_, ?_⟩) (fun k hk => ?_) ht
  · have := hk.2.1
    omega
  · rcases hat with h | h
    · rw [h, hvb]
      exact hk.2.2
    · rw [h]
      intro e
      have := Option.some.inj e
      have := hk.2.1
      omega
  · rw [grow.block k (by have := hk.2.1; simp; omega) (by rw [hvb]; exact hk.2.2)]
    exact Below.heap_alloc _ _ _ hk.2.1
/-- S or made since w -/
abbrev New (S : Nat → Prop) (w w' : World) : Nat → Prop := fun k => S k ∨ (w.heap.size ≤ k ∧ k < w'.heap.size)
theorem new_low {S : Nat → Prop} {w w1 w' : World} {t : Tr} {b : Nat} (hs : w.heap.size ≤ w1.heap.size) (h : TrAt w' (New S w1 w') t b) : TrAt w' (New S w w') t b :=
  TrAt.frame (fun k hk => hk.elim Or.inl fun h => Or.inr ⟨Nat.le_trans hs h.1, h.2⟩) (fun _ _ => rfl) h
set_option maxRecDepth 100000 in
theorem leafOf_any (S : Nat → Prop) (kind n : Int) (hk : kind = 1 ∨ kind = 2) (w : World) (hS : ∀ k, S k → k < w.heap.size) :
    Calls Tryd.prog 102 #[.int .i64 kind, .int .u64 n] w fun e w' => ∃ b, e = .returned (ptr b) ∧ TrAt w' (New S w w') (.leaf (if kind = 2 then 20 else 1, n)) b ∧ Below w.heap.size w w' := by
  have G : Hid (∀ op : Int, op = 20 ∨ op = 1 → Calls Tryd.prog 79 #[.agg #[.int .i64 op, .int .u64 n], .slice none 0 0] w fun e w' => ∃ b, e = .returned (ptr b) ∧ TrAt w' (New S w w') (.leaf (op, n)) b ∧ Below w.heap.size w w') := by
    intro op hop
    refine (nodeOver_made op n [] [] (.slice none 0 0) w S hS ⟨by simp, Or.inl ⟨rfl, none, 0, rfl⟩⟩ ⟨rfl, fun i a p ha _ => by simp at ha⟩ (by rcases hop with rfl | rfl <;> decide) (by rcases hop with rfl | rfl <;> rfl) (fun q hq => by cases hq) (by simp [sizes])).mono ?_
    rintro e w' ⟨b, he, htr, hb⟩
    exact ⟨b, he, htr, hb⟩
  rcases hk with rfl | rfl
  · have g := G.out 1 (Or.inr rfl)
    clear G
    go_enter Tryd.func102, Tryd.ntmps102
    go_wp2_with fail
    refine g.mono ?_
    rintro e w1 ⟨b, rfl, htr, hb⟩
    have HT : Hid _ := htr
    have HB : Hid _ := hb
    clear g htr hb
    go_wp2_with fail
    go_ret
    exact ⟨_, rfl, HT.out, HB.out⟩
  · have g := G.out 20 (Or.inl rfl)
    clear G
    go_enter Tryd.func102, Tryd.ntmps102
    go_wp2_with fail
    refine g.mono ?_
    rintro e w1 ⟨b, rfl, htr, hb⟩
    have HT : Hid _ := htr
    have HB : Hid _ := hb
    clear g htr hb
    go_wp2_with fail
    go_ret
    exact ⟨_, rfl, HT.out, HB.out⟩
/-- what fold does with a tree -/
def FoldP (k : Nat) (vars : Int) (r : Tr) : Prop := ∀ (S : Nat → Prop) (b : Nat) (w : World), (∀ k, S k → k < w.heap.size) → Tab w → TrAt w (Old w) r b → r.Ok k vars → Pos r → r.size ≤ 100000 →
  Calls Tryd.prog 72 #[ptr b, .int .i64 k] w fun e w' => ∃ b', e = .returned (ptr b') ∧ TrAt w' (New S w w') (trFold k r) b' ∧ Below w.heap.size w w'
set_option maxRecDepth 100000 in
set_option maxHeartbeats 4000000 in
theorem fold_step (k : Nat) (hk1 : 1 ≤ k) (hk : k ≤ 64) (vars : Int) (hv4 : vars ≤ 4) (r : Tr) (ih : ∀ q ∈ r.parts, FoldP k vars q) : FoldP k vars r := by
  intro S b w hSW hT htr hok hp hsz
  have g1 := hasVars_any r k vars hok hp hv4 b w htr
  cases hv : trVar r with
  | false =>
    rw [hv] at g1
    rw [trFold_no k r hv]
    have gV : ∀ w1, Below w.heap.size w w1 → Calls Tryd.prog 68 #[ptr b, .int .i64 k, .slice none 0 0] w1 fun e w' => e = .returned (.int .u64 (trVal k [] r)) ∧ Below w1.heap.size w1 w' :=
      fun w1 hb => value_any k hk1 hk vars [] (.slice none 0 0) (by simp) (by simp) r b w1 (hT.below hb hT.some) (htr.below hb) (Or.inl ⟨rfl, none, 0, rfl⟩) hok hp (novar_below hok hv _)
    have gL : ∀ w1, Below w.heap.size w w1 → Calls Tryd.prog 102 #[.int .i64 r.kind, .int .u64 (trVal k [] r)] w1 fun e w' => ∃ b, e = .returned (ptr b) ∧ TrAt w' (New S w1 w') (.leaf (litN r.nd.1 (trVal k [] r))) b ∧ Below w1.heap.size w1 w' :=
      fun w1 hb => leafOf_any S r.kind (trVal k [] r) (Tr.kind_pos hok) w1 (fun k hk => Nat.lt_of_lt_of_le (hSW k hk) hb.size)
    obtain ⟨ps, ⟨hb0, _, _, n2, _⟩, _⟩ := trAt_open htr
    have GV : Hid _ := gV
    have GL : Hid _ := gL
    have HN2 : Hid (∀ w1, Below w.heap.size w w1 → w1.cell? ⟨b, 2, none⟩ = some (.int .i64 r.kind)) := fun w1 hb => by
      rw [hb.cell (p := ⟨b, 2, none⟩) hb0]
      exact n2
    clear ih hT htr hok hp hv gV gL n2
    generalize trVal k [] r = vv at *
    go_enter Tryd.func72, Tryd.ntmps72
    go_wp2_with fail
    refine g1.mono ?_
    rintro e w1 ⟨rfl, hb1⟩
    clear g1
    have n2 := HN2.out w1 hb1
    have HB1 : Hid _ := hb1
    clear hb1
    go_wp2_with fail
    go_region_with (first | (go_at_call 68; refine (GV.out _ HB1.out.drew).mono ?_; rintro e w2 ⟨rfl, hb2⟩; have HB2 : Hid (Below w.heap.size w w2) := HB1.out.drew.trans (hb2.mono HB1.out.size); have n2' := HN2.out w2 HB2.out; clear hb2) | (go_at_call 102; refine (GL.out _ HB2.out).mono ?_; rintro e w3 ⟨b3, rfl, ht3, hb3⟩; have HT3 : Hid _ := new_low HB2.out.size ht3; have HB3 : Hid (Below w.heap.size w w3) := HB2.out.trans (hb3.mono HB2.out.size); clear ht3 hb3))
    all_goals
      go_wp2_with fail
      go_ret
      exact ⟨_, rfl, HT3.out, HB3.out⟩
  | true =>
    rw [hv] at g1
    rw [trFold_yes k r hv]
    obtain ⟨ps, ⟨hb0, n0, n1, _, _, pvl, n4, hpv⟩, hpt⟩ := trAt_open htr
    obtain ⟨pa, pc, hpsh⟩ := hpv.shape
    have hpl2 : ps.length ≤ 2 := by
      have h2 : r.parts.length ≤ 2 := by cases r <;> simp [Tr.parts]
      have := hpt.1
      omega
    have HN : Hid (∀ w1, Below w.heap.size w w1 → w1.cell? ⟨b, 0, none⟩ = some (.int .i64 r.nd.1) ∧ w1.cell? ⟨b, 1, none⟩ = some (.int .u64 r.nd.2) ∧ w1.cell? ⟨b, 4, none⟩ = some pvl) := fun w1 hb => by
      refine ⟨?_, ?_, ?_⟩
      · rw [hb.cell (p := ⟨b, 0, none⟩) hb0]
        exact n0
      · rw [hb.cell (p := ⟨b, 1, none⟩) hb0]
        exact n1
      · rw [hb.cell (p := ⟨b, 4, none⟩) hb0]
        exact n4
    have HIH : Hid (∀ (j q' : Nat) (q : Tr) (w1 : World), r.parts[j]? = some q → ps[j]? = some q' → Below w.heap.size w w1 → Calls Tryd.prog 72 #[ptr q', .int .i64 k] w1 fun e w' => ∃ b', e = .returned (ptr b') ∧ TrAt w' (New S w1 w') (trFold k q) b' ∧ Below w1.heap.size w1 w') := by
      intro j q' q w1 hq hq' hb1
      have hmem := List.mem_of_getElem? hq
      have hfl : ∀ x ∈ q.flat, x ∈ r.flat := by
        intro x hx
        rw [Tr.flat_eq r]
        exact List.mem_append_left _ (List.mem_flatMap.2 ⟨q, hmem, hx⟩)
      have hqs : q.size ≤ r.size := by
        rw [Tr.size_eq r]
        have := size_le_sizes hmem
        omega
      exact ih q hmem S q' w1 (fun k hk => Nat.lt_of_lt_of_le (hSW k hk) hb1.size) (hT.below hb1 hT.some) ((hpt.2 j q q' hq hq').below hb1) (Tr.ok_parts hok q hmem).2 (fun x hx => hp x (hfl x hx)) (by omega)
    have HMADE : Hid (∀ (bs : List Nat) (v : Value) (w1 : World) (S1 : Nat → Prop), (∀ k, S1 k → k < w1.heap.size) → PtrsAt w1 (Old w1) v bs → TrsAt w1 S1 (r.parts.map (trFold k)) bs → Calls Tryd.prog 79 #[.agg #[.int .i64 r.nd.1, .int .u64 r.nd.2], v] w1 fun e w' => ∃ b', e = .returned (ptr b') ∧ TrAt w' (New S1 w1 w') (Tr.over r.nd (r.parts.map (trFold k))) b' ∧ Below w1.heap.size w1 w') := by
      intro bs v w1 S1 hS1 h1 h2
      obtain ⟨m1, m2, m3⟩ := Tr.ok_nd hok
      refine nodeOver_made r.nd.1 r.nd.2 (r.parts.map (trFold k)) bs v w1 S1 hS1 h1 h2 m1 (by simpa using m3) ?_ ?_
      · intro q hq
        obtain ⟨q0, hq0, rfl⟩ := List.mem_map.1 hq
        rw [trFold_kind k q0 (Tr.ok_parts hok q0 hq0).2]
        exact (Tr.ok_parts hok q0 hq0).1
      · have h3 : ∀ l : List Tr, sizes (l.map (trFold k)) ≤ sizes l := by
          intro l
          induction l with
          | nil => simp [sizes]
          | cons a l ihl =>
            have := trFold_size k a
            simp only [List.map_cons, sizes]
            omega
        have h4 := h3 r.parts
        have h5 := Tr.size_eq r
        omega
    have HPV : Hid _ := hpv
    have HL : Hid (r.parts.length = ps.length) := hpt.1
    have HSW : Hid _ := hSW
    obtain ⟨i0, hi, hz0, hz1, hz2⟩ := info_parts infoPtr
    clear ih hT htr hok hp hv hpv hpt n0 n1 n4 hb0 hSW
    subst hpsh
    generalize hTR : Tr.over r.nd (r.parts.map (trFold k)) = TR at *
    clear hTR
    generalize r.nd.1 = op at *
    generalize r.nd.2 = n at *
    go_enter Tryd.func72, Tryd.ntmps72
    go_wp2_with fail
    refine g1.mono ?_
    rintro e w1 ⟨rfl, hb1⟩
    clear g1
    obtain ⟨_, _, n4⟩ := HN.out w1 hb1
    have HB1 : Hid (Below w.heap.size w w1) := hb1
    clear hb1
    go_wp2_with fail
    go_loopw [5, 24] (fun v i wr => ∃ (j : Nat) (bs : List Nat), j ≤ ps.length ∧ i = .int .i64 j ∧ Hid (wr.ownsRow w.heap.size 83 1 v bs.length (ptrs bs)) ∧ Hid (TrsAt wr (Mix S w wr v) ((r.parts.take j).map (trFold k)) bs) ∧ Hid (Below w.heap.size w wr)) (fun _ i _ => ps.length - (intOf i).toNat)
    case atStart => exact ⟨0, [], by omega, rfl, World.ownsRow_nil _ _ _ _, ⟨rfl, fun i a p ha _ => by simp at ha⟩, HB1⟩
    case round =>
      obtain ⟨j, bs, hj, rfl, HO, HS, HB⟩ := hrel
      have hbl : bs.length = j := by
        have h1 := HS.out.1
        have h2 := HL.out
        simp at h1
        omega
      by_cases hlt' : j < ps.length
      · obtain ⟨p, hp⟩ : ∃ p, ps[j]? = some p := ⟨ps[j], List.getElem?_eq_getElem hlt'⟩
        obtain ⟨q, hq⟩ : ∃ q, r.parts[j]? = some q := ⟨r.parts[j]'(by have := HL.out; omega), List.getElem?_eq_getElem _⟩
        obtain ⟨g, off, rfl, hg, c0⟩ := PtrsAt.at HPV.out hp
        rw [← HB.out.cell (p := ⟨g, off + j, none⟩) hg] at c0
        have gI := HIH.out j p q wr hq hp HB.out
        have HE : Hid ((r.parts.take j).map (trFold k) ++ [trFold k q] = (r.parts.take (j + 1)).map (trFold k)) := by
          show _ = _
          rw [List.take_add_one, hq]
          simp
        obtain ⟨av, cv, hsv⟩ := own_shape HO.out
        have HBL : Hid (bs.length = j) := hbl
        have hb2' : bs.length ≤ 2 := by omega
        clear hp hq hg hbl
        generalize hNL : (r.parts.take (j + 1)).map (trFold k) = NL at *
        have HNL : Hid _ := hNL
        clear hNL
        generalize trFold k q = tq at *
        subst hsv
        go_wp2_with fail
        refine gI.mono ?_
        rintro e w2 ⟨b2, rfl, ht2, hb2⟩
        have HB2 : Hid (Below w.heap.size w w2) := HB.out.trans (hb2.mono HB.out.size)
        have HS2 : Hid (TrsAt w2 (Mix S w w2 (.slice av bs.length cv)) NL (bs ++ [b2])) := by
          show TrsAt _ _ _ _
          rw [← HE.out]
          refine trs_snoc (TrsAt.frame (fun k hk => ⟨hk.1, Nat.lt_of_lt_of_le hk.2.1 hb2.size, hk.2.2⟩) (fun k hk => hb2.block k hk.2.1) HS.out) (TrAt.frame (fun k hk => ?_) (fun _ _ => rfl) ht2)
          rcases hk with hk | hk
          · have h1 := HSW.out k hk
            have h2 := HB2.out.size
            exact ⟨Or.inl hk, by omega, fun e => by have := (HO.out.lt k e.symm).1; omega⟩
          · have h2 := HB.out.size
            exact ⟨Or.inr (by omega), hk.2, fun e => by have := (HO.out.lt k e.symm).2; omega⟩
        have own2 : w2.ownsRow w.heap.size 83 1 (.slice av bs.length cv) bs.length (ptrs bs) := owns_below HO.out hb2
        have HO2 : Hid _ := own2
        have HLX : Hid (ptrs bs ++ [ptr b2] = ptrs (bs ++ [b2]) ∧ bs.length + 1 = (bs ++ [b2]).length) := by
          constructor
          · simp [ptrs]
          · simp
        have own1 := own2.alloc (.cells #[ptr b2] 83)
        generalize ptrs bs = xs0 at own1 HLX
        generalize bs ++ [b2] = NB at *
        have HBx : Hid (Below w.heap.size w (w2.alloc (.cells #[ptr b2] 83))) := HB2.out.alloc HB2.out.size _
        have cellsN := onePtr_cells w2 b2
        clear gI ht2 hb2 own2
        go_wp2_with (at_builtin; refine wpList_append_own_at _ rfl _ _ 85 rfl w.heap.size 83 i0 (.pointer none) 1 8 Tryd.underlying85 hi hz0 hz1 hz2 rfl (by decide) _ _ _ rfl own1 ⟨w2.heap.size, 0, none⟩ 1 1 [ptr b2] rfl rfl cellsN (by intro u hu; simp at hu; subst hu; rfl) (by unfold maxLen; omega) (by omega) (by have h := HB2.out.size; simp; omega) ?_)
        intro v7 w7 own7 grow7 _ hat7
        have HO7 : Hid (w7.ownsRow w.heap.size 83 1 v7 NB.length (ptrs NB)) := by
          show World.ownsRow _ _ _ _ _ _ _
          rw [← HLX.out.1, ← HLX.out.2]
          exact own7
        have HT7 : Hid (TrsAt w7 (Mix S w w7 v7) NL NB) := mix_next HS2.out grow7 hat7 rfl
        have HB7 : Hid (Below w.heap.size w w7) := HBx.out.grown grow7 HBx.out.size (fun k hk => (World.ownsRow.lt HO2.out k hk).1)
        clear own1 own7 grow7 hat7 cellsN
        go_wp2_with fail
        go_roundw
        case rel => exact ⟨j + 1, NB, by omega, by go_num, HO7, by rw [HNL.out]; exact HT7, HB7⟩
        case measure => simp [intOf]; omega
      · obtain rfl : j = ps.length := by omega
        have hall : (r.parts.take ps.length).map (trFold k) = r.parts.map (trFold k) := by
          rw [← HL.out, List.take_length]
        have hS2 := HS.out
        rw [hall] at hS2
        obtain ⟨av, cv, hsv⟩ := own_shape HO.out
        have g9 := HMADE.out bs u5 wr (Mix S w wr u5) (fun k hk => hk.2.1) (ptrs_of_own HO.out (by omega)) hS2
        obtain ⟨n0, n1, _⟩ := HN.out wr HB.out
        clear hS2 hall HS HIH HPV HMADE hbl
        subst hsv
        go_wp2_with fail
        refine g9.mono ?_
        rintro e w9 ⟨b9, rfl, ht9, hb9⟩
        have HT9 : Hid (TrAt w9 (fun k => S k ∨ (w.heap.size ≤ k ∧ k < w9.heap.size)) TR b9) := by
          refine TrAt.frame (fun k hk => ?_) (fun _ _ => rfl) ht9
          have h2 := HB.out.size
          have h3 := hb9.size
          rcases hk with hk | hk
          · rcases hk.1 with h1 | h1
            · exact Or.inl h1
            · exact Or.inr ⟨h1, Nat.lt_of_lt_of_le hk.2.1 h3⟩
          · exact Or.inr ⟨by omega, hk.2⟩
        have HB9 : Hid (Below w.heap.size w w9) := HB.out.trans (hb9.mono HB.out.size)
        clear g9 ht9 hb9
        go_wp2_with fail
        go_ret
        exact ⟨_, rfl, HT9.out, HB9.out⟩
theorem fold_any (k : Nat) (hk1 : 1 ≤ k) (hk : k ≤ 64) (vars : Int) (hv4 : vars ≤ 4) : ∀ r : Tr, FoldP k vars r := Tr.ind (fold_step k hk1 hk vars hv4)
end Go.Proofs.YtkmgcgmeibhnmaaDoor
