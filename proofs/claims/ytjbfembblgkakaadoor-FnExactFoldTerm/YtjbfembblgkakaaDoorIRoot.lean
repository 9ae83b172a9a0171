/-
  The tree of a term: the program's rootOf.
-/
import Derived.Test.YtjbfembblgkakaaDoorINode2
import Derived.Test.YtjbfembblgkakaaDoorLGood
import Derived.Maps.AppendAt
namespace Go.Proofs.YtjbfembblgkakaaDoor
open Go Go.RowKit
open M
set_option linter.unusedVariables false

theorem rootOf_out (wide vars : Int) (a : Option Addr) (len cap : Nat) (hlen : len ≤ 9223372036854775807) (h : ¬ (wideB wide = true ∧ 1 ≤ vars ∧ vars ≤ 4 ∧ len ≤ 48)) (w : World) :
    Calls Tryd.prog 79 #[.int .i64 wide, .int .i64 vars, .slice a len cap] w fun e w' => e = .returned (.pointer none) ∧ w' = w := by
  have g1 := goodWide_any wide w
  cases hw : wideB wide with
  | false =>
    rw [hw] at g1
    clear hw h
    go_enter Tryd.func79, Tryd.ntmps79
    go_wp2_with fail
    refine g1.mono ?_
    rintro e w' ⟨rfl, rfl⟩
    clear g1
    go_wp2_with fail
    go_ret
    exact ⟨rfl, rfl⟩
  | true =>
    rw [hw] at g1
    by_cases hv : 1 ≤ vars ∧ vars ≤ 4
    · have g2 := goodVars_yes vars hv w
      have hl : 48 < len := by
        by_cases h48 : 48 < len
        · exact h48
        · exact absurd ⟨hw, hv.1, hv.2, by omega⟩ h
      clear hw h hv
      go_enter Tryd.func79, Tryd.ntmps79
      go_wp2_with fail
      refine g1.mono ?_
      rintro e w' ⟨rfl, rfl⟩
      clear g1
      go_wp2_with fail
      refine g2.mono ?_
      rintro e w' ⟨rfl, rfl⟩
      clear g2
      go_wp2_with fail
      go_ret
      exact ⟨rfl, rfl⟩
    · have g2 := goodVars_no vars hv w
      clear hw h hv
      go_enter Tryd.func79, Tryd.ntmps79
      go_wp2_with fail
      refine g1.mono ?_
      rintro e w' ⟨rfl, rfl⟩
      clear g1
      go_wp2_with fail
      refine g2.mono ?_
      rintro e w' ⟨rfl, rfl⟩
      clear g2
      go_wp2_with fail
      go_ret
      exact ⟨rfl, rfl⟩
set_option maxRecDepth 100000 in
theorem rootOf_nil (k : Nat) (vars : Int) (a : Option Addr) (cap : Nat) (hw : wideB k = true) (hv : 1 ≤ vars ∧ vars ≤ 4) (w : World) :
    Calls Tryd.prog 79 #[.int .i64 k, .int .i64 vars, .slice a 0 cap] w fun e w' => e = .returned (.pointer none) ∧ w' = w := by
  have g1 := goodWide_any k w
  rw [hw] at g1
  have g2 := goodVars_yes vars hv w
  clear hw hv
  go_enter Tryd.func79, Tryd.ntmps79
  go_wp2_with fail
  refine g1.mono ?_
  rintro e w' ⟨rfl, rfl⟩
  clear g1
  go_wp2_with fail
  refine g2.mono ?_
  rintro e w' ⟨rfl, rfl⟩
  clear g2
  go_wp2_with fail
  go_loop [7, 30] (fun v i => v = .slice none 0 0 ∧ i = .int .i64 0) (fun _ _ => 0)
  case atStart => exact ⟨rfl, rfl⟩
  case round =>
    obtain ⟨rfl, rfl⟩ := hrel
    go_wp2_with fail
    go_ret
    exact ⟨rfl, rfl⟩
theorem step_kind {k vars : Int} {x : Nd} {p : List (Ent Tr)} (hle : manyOf x.1 ≤ p.length) (h : ∃ e ∈ p.take (manyOf x.1), e.kind ≠ partOf x.1) : stepK k vars (p.map Ent.kind).reverse x = none := by
  have hm := manyOf_le x.1
  unfold stepK
  split
  · rfl
  obtain ⟨e, he, hk⟩ := h
  generalize manyOf x.1 = m at *
  generalize partOf x.1 = q at *
  match m, hm, p, hle, he with
  | 0, _, p, _, he => simp at he
  | 1, _, d :: r, _, he =>
    simp at he
    subst he
    simp [popN, hk]
  | 2, _, d :: c :: r, _, he =>
    simp at he
    rcases he with rfl | rfl
    · simp [popN, hk]
    · simp only [popN, List.map_cons, List.reverse_cons, List.getLast?_concat, List.dropLast_concat]
      split
      · simp [hk]
      · rfl
theorem step_tree {k vars : Int} {j : Nat} {x : Nd} {p : List (Ent Tr)} (h1 : ¬ ownOf x.1 = 0) (h2 : okN k vars x.1 x.2 = true) (hle : manyOf x.1 ≤ p.length) (h : ∀ e ∈ p.take (manyOf x.1), e.kind = partOf x.1) :
    ∃ a0, stepE k vars Tr.leaf Tr.one Tr.two j p x = some (⟨a0, ownOf x.1, Tr.over x ((p.take (manyOf x.1)).reverse.map Ent.val)⟩ :: p.drop (manyOf x.1)) := by
  have hm := manyOf_le x.1
  unfold stepE
  rw [if_neg (by rw [h2]; simp [h1])]
  generalize manyOf x.1 = m at *
  generalize partOf x.1 = q at *
  match m, hm, p, hle, h with
  | 0, _, p, _, _ => exact ⟨j, rfl⟩
  | 1, _, d :: r, _, h =>
    have hd := h d (by simp)
    refine ⟨d.at0, ?_⟩
    simp [hd, Tr.over]
  | 2, _, d :: c :: r, _, h =>
    have hd := h d (by simp)
    have hc := h c (by simp)
    refine ⟨c.at0, ?_⟩
    simp [hd, hc, Tr.over]
theorem own_low {w : World} {B g n cap rest : Nat} {bs : List Nat} (h : w.ownsRow B 101 1 (.slice (some ⟨g, 0, none⟩) n cap) n (ptrs bs)) (hn : n = bs.length) (hr : rest ≤ n) : w.ownsRow B 101 1 (.slice (some ⟨g, 0, none⟩) rest cap) rest (ptrs (bs.take rest)) := by
  subst hn
  refine ⟨by simp [ptrs]; omega, ?_⟩
  rcases h.2 with ⟨h1, _⟩ | ⟨g', cap', cur, h1, hg, hh, h2, h3, h4, h5⟩
  · cases h1
  · simp at h1
    obtain ⟨rfl, rfl⟩ := h1
    refine Or.inr ⟨g, cap, cur, rfl, hg, hh, by omega, h3, h4, ?_⟩
    have h6 := congrArg (List.take rest) h5
    rw [List.take_take] at h6
    simp only [Nat.mul_one] at h6 ⊢
    rw [Nat.min_eq_left hr] at h6
    rw [h6]
    simp [ptrs, List.map_take]
theorem own_high {w : World} {B g n cap rest : Nat} {bs : List Nat} (h : w.ownsRow B 101 1 (.slice (some ⟨g, 0, none⟩) n cap) n (ptrs bs)) (hn : n = bs.length) (hr : rest ≤ n) (hl : n ≤ 48) :
    PtrsAt w (Old w) (.slice (if cap = rest then some ⟨g, 0, none⟩ else some ⟨g, rest, none⟩) (n - rest) (cap - rest)) (bs.drop rest) := by
  subst hn
  have hlt := (h.lt g rfl).2
  refine ⟨by simp; omega, ?_⟩
  by_cases h0 : rest = bs.length
  · subst h0
    exact Or.inl ⟨by simp, (if cap = bs.length then some ⟨g, 0, none⟩ else some ⟨g, bs.length, none⟩), cap - bs.length, by simp⟩
  · have hc : rest < cap := by
      rcases h.2 with ⟨h1, _⟩ | ⟨g', cap', cur, h1, hg, hh, h2, _⟩
      · cases h1
      · simp at h1
        omega
    refine Or.inr ⟨g, rest, cap - rest, by rw [if_neg (by omega)]; simp, hlt, fun i b hb => ?_⟩
    have hcell := h.cells (g := g) rfl (rest + i) (ptr b) (by
      rw [List.getElem?_drop] at hb
      simp [ptrs, hb])
    rw [show ((⟨g, 0, none⟩ : Addr).add (rest + i)) = ⟨g, rest + i, none⟩ from by unfold Addr.add; split <;> simp_all] at hcell
    exact hcell
theorem trs_drop {w : World} {S : Nat → Prop} {l : List Tr} {ps : List Nat} (h : TrsAt w S l ps) (r : Nat) : TrsAt w S (l.drop r) (ps.drop r) :=
  ⟨by simp [h.1], fun i a p ha hp => h.2 (r + i) a p (by rw [List.getElem?_drop] at ha; exact ha) (by rw [List.getElem?_drop] at hp; exact hp)⟩
theorem trs_take {w : World} {S : Nat → Prop} {l : List Tr} {ps : List Nat} (h : TrsAt w S l ps) (r : Nat) : TrsAt w S (l.take r) (ps.take r) :=
  ⟨by simp [h.1], fun i a p ha hp => h.2 i a p (by rw [List.getElem?_take] at ha; split at ha; exact ha; cases ha) (by rw [List.getElem?_take] at hp; split at hp; exact hp; cases hp)⟩
theorem trs_snoc {w : World} {S : Nat → Prop} {l : List Tr} {ps : List Nat} {a : Tr} {p : Nat} (h : TrsAt w S l ps) (ha : TrAt w S a p) : TrsAt w S (l ++ [a]) (ps ++ [p]) := by
  refine ⟨by simp [h.1], fun i c q hc hq => ?_⟩
  have hl := h.1
  by_cases hi : i < l.length
  · rw [List.getElem?_append_left hi] at hc
    rw [List.getElem?_append_left (by omega)] at hq
    exact h.2 i c q hc hq
  · rw [List.getElem?_append_right (by omega)] at hc hq
    rw [hl] at hc
    generalize i - ps.length = j at hc hq
    match j, hc, hq with
    | 0, hc, hq =>
      simp at hc hq
      subst hc hq
      exact ha
    | j + 1, hc, hq => simp at hq
theorem pile_next {w3 w7 : World} {v v0 v7 : Value} {o : Obj} {l : List Tr} {ps : List Nat} (ht : TrsAt w3 (OldBut w3 v) l ps) (grow : (w3.alloc o).grownBy w7 v0.ownBlock) (hat : v7.ownBlock = v0.ownBlock ∨ v7.ownBlock = some (w3.heap.size + 1)) (hvb : v0.ownBlock = v.ownBlock) : TrsAt w7 (OldBut w7 v7) l ps := by
  have hs := grow.size
  rw [show (w3.alloc o).heap.size = w3.heap.size + 1 from by simp] at hs
  refine TrsAt.frame (fun k hk => ⟨by omega, ?_⟩) (fun k hk => ?_) ht
  · rcases hat with h | h
    · rw [h, hvb]
      exact hk.2
    · rw [h]
      intro e
      have := Option.some.inj e
      omega
  · rw [grow.block k (by simp; omega) (by rw [hvb]; exact hk.2)]
    exact Below.heap_alloc _ _ _ hk.1
theorem PtrsAt.shape {w : World} {S : Nat → Prop} {v : Value} {bs : List Nat} (h : PtrsAt w S v bs) : ∃ (a : Option Addr) (cap : Nat), v = .slice a bs.length cap := by
  rcases h.2 with ⟨rfl, a, cap, h⟩ | ⟨g, off, cap, h, _⟩
  · exact ⟨a, cap, h⟩
  · exact ⟨_, cap, h⟩
theorem size_le_sizes {l : List Tr} {a : Tr} (h : a ∈ l) : a.size ≤ sizes l := by
  induction l with
  | nil => cases h
  | cons b l ih =>
    simp only [sizes]
    rcases List.mem_cons.1 h with rfl | h
    · omega
    · have := ih h
      omega
/-- parts of which one is of another kind -/
theorem nodeOver_mixed (op n : Int) (l : List Tr) (ps : List Nat) (v : Value) (w : World) (S : Nat → Prop) (hS : ∀ k, S k → k < w.heap.size) (hv : PtrsAt w (Old w) v ps)
    (ht : TrsAt w S l ps) (hm : manyOf op = l.length) (hk : ¬ (¬ ownOf op = 0 ∧ ∀ q ∈ l, q.kind = partOf op)) (hsz : sizes l ≤ 1000000) :
    Calls Tryd.prog 139 #[.agg #[.int .i64 op, .int .u64 n], v] w fun e w' => e = .returned (.pointer none) ∧ Below w.heap.size w w' := by
  by_cases h0 : ownOf op = 0
  · obtain ⟨a, cap, rfl⟩ := hv.shape
    exact nodeOver_shape op n a _ cap hv.1 (Or.inl h0) w
  · have hbad : ¬ ∀ q ∈ l, q.kind = partOf op := fun h => hk ⟨h0, h⟩
    obtain ⟨a, cap, hsh⟩ := hv.shape
    have hzl : (((ps.zip l).map some : List (Option (Nat × Tr)))).length = ps.length := by
      have := ht.1
      simp
      omega
    rw [hsh, ← hzl]
    refine nodeOver_bad op n ((ps.zip l).map some) a cap w h0 (by rw [hzl, hm, ht.1]) ?_ ?_ ?_
    · intro i q hq
      rw [List.getElem?_map, Option.map_eq_some_iff] at hq
      obtain ⟨⟨b, c⟩, hbc, rfl⟩ := hq
      obtain ⟨hb, hc⟩ := List.getElem?_zip_eq_some.1 hbc
      rcases hv.2 with ⟨rfl, _⟩ | ⟨g, off, cap', h, hg, hcell⟩
      · simp at hb
      · rw [hsh] at h
        simp at h
        exact ⟨g, off, h.1, hg, hcell i b hb⟩
    · intro b c hbc
      obtain ⟨x, hx, he⟩ := List.mem_map.1 hbc
      obtain rfl := Option.some.inj he
      obtain ⟨i, hi⟩ := List.mem_iff_getElem?.1 hx
      obtain ⟨hb, hc⟩ := List.getElem?_zip_eq_some.1 hi
      refine ⟨TrAt.frame (fun k hk => hS k hk) (fun _ _ => rfl) (ht.2 i c b hc hb), ?_⟩
      have h9 : c.size ≤ sizes l := size_le_sizes (List.mem_of_getElem? hc)
      omega
    · intro hall
      refine hbad (fun q hq => ?_)
      obtain ⟨i, hi⟩ := List.mem_iff_getElem?.1 hq
      have hil := (List.getElem?_eq_some_iff.1 hi).1
      obtain ⟨b, hb⟩ : ∃ b, ps[i]? = some b := ⟨ps[i]'(by have := ht.1; omega), List.getElem?_eq_getElem _⟩
      have hz : (ps.zip l)[i]? = some (b, q) := List.getElem?_zip_eq_some.2 ⟨hb, hi⟩
      obtain ⟨b', a', he, hk'⟩ := hall (some (b, q)) (List.mem_map.2 ⟨(b, q), List.mem_of_getElem? hz, rfl⟩)
      simp at he
      rw [he.2]
      exact hk'
theorem sizes_flat (l : List Tr) : sizes l = (l.flatMap Tr.flat).length := by
  induction l with
  | nil => rfl
  | cons a l ih => simp [sizes, ih, Tr.flat_len]
theorem pile_sizes {k vars : Int} {t : List Nd} {j : Nat} {p : List (Ent Tr)} (h : pileT k vars t j = some p) : sizes (p.reverse.map Ent.val) ≤ t.length := by
  have h2 := (pileT_ok j p h).2
  rw [sizes_flat, List.flatMap_map, h2]
  simp
  omega
theorem pile_end {k : Nat} {vars : Int} {t : List Nd} {p : List (Ent Tr)} (hk1 : 1 ≤ k) (hk : k ≤ 64) (hv : 1 ≤ vars) (hv4 : vars ≤ 4) (hl : t.length ≤ 48) (h : pileT k vars t t.length = some p) :
    (p.length ≠ 1 → kindL k vars t = 0) ∧ ∀ e, p = [e] → pileT k vars t t.length = some [⟨0, e.val.kind, e.val⟩] := by
  have hf := foldK_of_pileT h
  rw [List.take_length] at hf
  by_cases h1 : 1 ≤ t.length
  · have hg : wideB k = true ∧ 1 ≤ vars ∧ vars ≤ 4 ∧ 1 ≤ t.length ∧ t.length ≤ 48 := ⟨decide_eq_true (by omega), hv, hv4, h1, hl⟩
    have he := kind_end hg (by rw [List.take_length]; exact hf)
    constructor
    · intro hp
      rw [he]
      unfold root1
      rw [if_neg (by simpa using hp)]
    · rintro e rfl
      obtain ⟨k1, k2⟩ := (pileT_ok _ _ h).1 e (by simp)
      have hpos : 0 < kindL k vars t := by
        rw [he]
        have := Tr.kind_pos k1
        simp [root1]
        omega
      obtain ⟨_, _, _, _, _, r, hr, _⟩ := root_tree hpos
      rw [hr]
      have e1 : pileT k vars t t.length = some [e] := h
      rw [hr] at e1
      simp at e1
      subst e1
      rfl
  · have h0 : t = [] := List.length_eq_zero_iff.1 (by omega)
    subst h0
    simp [pileE] at h
    subst h
    constructor
    · intro _
      exact kind_out (by simp)
    · intro e he
      cases he
set_option maxRecDepth 100000 in
set_option maxHeartbeats 4000000 in
theorem rootOf_in (k : Nat) (vars : Int) (b off cap : Nat) (t : List Nd) (hk1 : 1 ≤ k) (hk : k ≤ 64) (hv : 1 ≤ vars) (hv4 : vars ≤ 4) (hl : t.length ≤ 48) (hok : ∀ x ∈ t, NdOk x) (w : World) (hT : Tab w) (hlt : b < w.heap.size)
    (hc : ∀ (i : Nat) (x : Nd), t[i]? = some x → w.cell? ⟨b, off + i * 2, none⟩ = some (.int .i64 x.1) ∧ w.cell? ⟨b, off + i * 2 + 1, none⟩ = some (.int .u64 x.2)) :
    Calls Tryd.prog 79 #[.int .i64 k, .int .i64 vars, .slice (some ⟨b, off, none⟩) t.length cap] w fun e w' => Below w.heap.size w w' ∧
      ((kindL k vars t = 0 ∧ e = .returned (.pointer none)) ∨ ∃ (r : Tr) (p : Nat), pileT k vars t t.length = some [⟨0, r.kind, r⟩] ∧ e = .returned (ptr p) ∧ TrAt w' (Old w') r p) := by
  have hw : wideB k = true := decide_eq_true (by omega)
  have g1 := goodWide_any k w
  rw [hw] at g1
  have g2 := goodVars_yes vars ⟨hv, hv4⟩ w
  clear hw
  obtain ⟨i0, hi, hz0, hz1, hz2⟩ := info_parts infoPtr
  go_enter Tryd.func79, Tryd.ntmps79
  go_wp2_with fail
  refine g1.mono ?_
  rintro e w' ⟨rfl, rfl⟩
  clear g1
  go_wp2_with fail
  refine g2.mono ?_
  rintro e w' ⟨rfl, rfl⟩
  clear g2
  go_wp2_with fail
  have HC : Hid _ := hc
  have HOK : Hid _ := hok
  have HT : Hid (Tab w') := hT
  clear hc hok hT
  go_loopw [7, 30] (fun v i wr => ∃ (j : Nat) (p : List (Ent Tr)) (bs : List Nat), j ≤ t.length ∧ i = .int .i64 j ∧ Hid (pileT k vars t j = some p) ∧ Hid (wr.ownsRow w'.heap.size 101 1 v bs.length (ptrs bs)) ∧ Hid (TrsAt wr (OldBut wr v) (p.reverse.map Ent.val) bs) ∧ Hid (Below w'.heap.size w' wr)) (fun _ i _ => t.length - (intOf i).toNat)
  case atStart => exact ⟨0, [], [], by omega, rfl, rfl, World.ownsRow_nil _ _ _ _, ⟨rfl, fun i a p ha _ => by simp at ha⟩, Below.refl _ _⟩
  case round =>
    obtain ⟨j, p, bs, hj, rfl, HF, HO, HS, HB⟩ := hrel
    have hpl : p.length = bs.length := by
      have := HS.out.1
      simpa using this
    by_cases hlt' : j < t.length
    · obtain ⟨⟨op, n⟩, hx⟩ : ∃ x, t[j]? = some x := ⟨t[j], List.getElem?_eq_getElem hlt'⟩
      obtain ⟨ho0, ho1, hn0, hn1⟩ := HOK.out (op, n) (List.mem_of_getElem? hx)
      simp only at ho0 ho1 hn0 hn1
      obtain ⟨c0, c1⟩ := HC.out j (op, n) hx
      rw [← HB.out.cell (p := ⟨b, off + j * 2, none⟩) hlt] at c0
      rw [← HB.out.cell (p := ⟨b, off + j * 2 + 1, none⟩) hlt] at c1
      simp only at c0 c1
      have HX : Hid (t[j]? = some (op, n)) := hx
      have hb1 : Below w'.heap.size w' (wr.alloc (.cells #[.int .i64 op, .int .u64 n] 112)) := HB.out.alloc HB.out.size _
      have g1 := shapeOf_any op (wr.alloc (.cells #[.int .i64 op, .int .u64 n] 112))
      have g2 := goodN_any k vars op n (by omega) (by omega) hn0 hn1 (wr.alloc (.cells #[.int .i64 op, .int .u64 n] 112)) (HT.out.below hb1 HT.out.some)
      have HBa : Hid (Below w'.heap.size w' (wr.alloc (.cells #[.int .i64 op, .int .u64 n] 112))) := hb1
      have hpj : bs.length ≤ 48 := by
        have h1 := foldK_of_pileT HF.out
        have h2 := foldK_len _ _ _ h1
        simp at h2
        omega
      have hml := manyOf_le op
      have HPL : Hid (p.length = bs.length) := hpl
      obtain ⟨ad, cp, hv7⟩ := own_shape HO.out
      clear hx hb1 hpl
      cases z2 : okN k vars op n with
      | false =>
        have HK : Hid (kindL k vars t = 0) := kind_stop HX.out (foldK_of_pileT HF.out) (step_num z2)
        rw [z2] at g2
        clear z2
        generalize ownOf op = o at *
        generalize manyOf op = m at *
        generalize wantOf op = q at *
        subst hv7
        go_wp2_with fail
        refine g1.mono ?_
        rintro e w2 ⟨rfl, rfl⟩
        clear g1
        go_wp2_with fail
        refine g2.mono ?_
        rintro e w2 ⟨rfl, hb2⟩
        clear g2
        have HB2 : Hid (Below w'.heap.size w' w2) := HBa.out.trans (hb2.mono HBa.out.size)
        clear hb2
        go_wp2_with fail
        go_ret
        exact ⟨HB2.out, Or.inl ⟨HK.out, rfl⟩⟩
      | true =>
        rw [z2] at g2
        by_cases z3 : bs.length < manyOf op
        · have HK : Hid (kindL k vars t = 0) := kind_stop HX.out (foldK_of_pileT HF.out) (step_few (by have := HPL.out; simp; omega))
          clear z2
          generalize ownOf op = o at *
          generalize manyOf op = m at *
          generalize wantOf op = q at *
          subst hv7
          go_wp2_with fail
          refine g1.mono ?_
          rintro e w2 ⟨rfl, rfl⟩
          clear g1
          go_wp2_with fail
          refine g2.mono ?_
          rintro e w2 ⟨rfl, hb2⟩
          clear g2
          have HB2 : Hid (Below w'.heap.size w' w2) := HBa.out.trans (hb2.mono HBa.out.size)
          clear hb2
          go_wp2_with fail
          go_ret
          exact ⟨HB2.out, Or.inl ⟨HK.out, rfl⟩⟩
        · subst hv7
          obtain ⟨m, hmm⟩ : ∃ m, m = manyOf op := ⟨_, rfl⟩
          rw [← hmm] at g1 z3 hml
          have HMM : Hid (m = manyOf op) := hmm
          clear hmm
          generalize hqq : wantOf op = q at g1
          generalize hoo : ownOf op = o at g1
          go_wp2_with fail
          refine g1.mono ?_
          rintro e w2 ⟨rfl, rfl⟩
          clear g1
          go_wp2_with fail
          refine g2.mono ?_
          rintro e w2 ⟨rfl, hb2⟩
          clear g2
          have HB2 : Hid (Below w'.heap.size w' w2) := HBa.out.trans (hb2.mono HBa.out.size)
          have e0 : w2.cell? ⟨wr.heap.size, 0, none⟩ = some (.int .i64 op) := by
            rw [hb2.cell (p := ⟨wr.heap.size, 0, none⟩) (by simp)]
            simp
          have e1 : w2.cell? ⟨wr.heap.size, 1, none⟩ = some (.int .u64 n) := by
            rw [hb2.cell (p := ⟨wr.heap.size, 1, none⟩) (by simp)]
            simp
          obtain ⟨rest, hrest⟩ : ∃ rest : Nat, (bs.length : Int) - (m : Int) = (rest : Int) := ⟨bs.length - m, by omega⟩
          have hr1 : rest ≤ bs.length := by omega
          have HR : Hid (rest + m = bs.length) := (by omega : rest + m = bs.length)
          go_wp2_with fail
          clear hrest
          have hp1 : Hid (TrsAt w2 (OldBut w2 (.slice ad bs.length cp)) (p.reverse.map Ent.val) bs ∧ w2.ownsRow w'.heap.size 101 1 (.slice ad bs.length cp) bs.length (ptrs bs)) := by
            have hba : Below wr.heap.size wr w2 := ((Below.refl _ _).alloc (Nat.le_refl _) _).trans (hb2.mono (by simp))
            exact ⟨TrsAt.frame (fun k hk => ⟨Nat.lt_of_lt_of_le hk.1 hba.size, hk.2⟩) (fun k hk => hba.block k hk.1) HS.out, owns_below HO.out hba⟩
          have HLP : Hid ((p.reverse.map Ent.val).drop rest = (p.take m).reverse.map Ent.val ∧ (p.reverse.map Ent.val).take rest = (p.drop m).reverse.map Ent.val) := by
            have h1 := HPL.out
            have h2 := HR.out
            constructor
            · rw [← List.map_drop, List.drop_reverse, show p.length - rest = m from by omega]
            · rw [← List.map_take, List.take_reverse, show p.length - rest = m from by omega]
          by_cases hgood : ¬ ownOf op = 0 ∧ ∀ e ∈ p.take m, e.kind = partOf op
          · obtain ⟨a0, hst⟩ := step_tree (j := j) (k := k) (vars := vars) (x := (op, n)) (p := p) hgood.1 z2 (by have := HMM.out; have := HPL.out; have := HR.out; simp only; omega) (by rw [show manyOf (op, n).1 = m from HMM.out.symm]; exact hgood.2)
            have HF2 : Hid (pileT k vars t (j + 1) = some (⟨a0, ownOf op, Tr.over (op, n) ((p.take m).reverse.map Ent.val)⟩ :: p.drop m)) := by
              show pileE k vars Tr.leaf Tr.one Tr.two t (j + 1) = _
              rw [pileE, show pileE k vars Tr.leaf Tr.one Tr.two t j = some p from HF.out, HX.out]
              simp only [Option.bind_some]
              rw [hst, ← show m = manyOf (op, n).1 from HMM.out]
            have GE : Hid (∀ (sl : Value) (w1 : World), PtrsAt w1 (Old w1) sl (bs.drop rest) → Below w2.heap.size w2 w1 → Calls Tryd.prog 139 #[.agg #[.int .i64 op, .int .u64 n], sl] w1 fun e w3 => ∃ pb, e = .returned (ptr pb) ∧
                TrsAt w3 (OldBut w3 (.slice ad bs.length cp)) ((p.drop m).reverse.map Ent.val ++ [Tr.over (op, n) ((p.take m).reverse.map Ent.val)]) (bs.take rest ++ [pb]) ∧ w3.ownsRow w'.heap.size 101 1 (.slice ad bs.length cp) bs.length (ptrs bs) ∧ Below w'.heap.size w' w3) := by
              intro sl w1 hsl hb3
              obtain ⟨h1, h2⟩ := hp1.out
              have h1' : TrsAt w1 (OldBut w1 (.slice ad bs.length cp)) (p.reverse.map Ent.val) bs := TrsAt.frame (fun k hk => ⟨Nat.lt_of_lt_of_le hk.1 hb3.size, hk.2⟩) (fun k hk => hb3.block k hk.1) h1
              have h2' := owns_below h2 hb3
              have hd := trs_drop h1' rest
              rw [HLP.out.1] at hd
              have ht := trs_take h1' rest
              rw [HLP.out.2] at ht
              have hkk : ∀ q ∈ (p.take m).reverse.map Ent.val, q.kind = partOf op := by
                intro q hq
                obtain ⟨e, he, rfl⟩ := List.mem_map.1 hq
                have he' : e ∈ p.take m := by simpa using he
                rw [← ((pileT_ok j p HF.out).1 e (List.mem_of_mem_take he')).2]
                exact hgood.2 e he'
              have hsz : sizes ((p.take m).reverse.map Ent.val) ≤ 1000000 := by
                have h3 := pile_sizes HF.out
                have h4 := sizes_append ((p.reverse.map Ent.val).take rest) ((p.reverse.map Ent.val).drop rest)
                rw [List.take_append_drop, HLP.out.1] at h4
                omega
              refine (nodeOver_made op n _ (bs.drop rest) sl w1 (OldBut w1 (.slice ad bs.length cp)) (fun k hk => hk.1) hsl hd hgood.1 ?_ hkk hsz).mono ?_
              · rw [← HMM.out]
                have := HPL.out
                have := HR.out
                simp
                omega
              · rintro e w3 ⟨pb, he, htr, hb4⟩
                have hS : ∀ k, OldBut w1 (.slice ad bs.length cp) k → OldBut w3 (.slice ad bs.length cp) k := fun k hk => ⟨Nat.lt_of_lt_of_le hk.1 hb4.size, hk.2⟩
                refine ⟨pb, he, trs_snoc (TrsAt.frame hS (fun k hk => hb4.block k hk.1) ht) (TrAt.frame (fun k hk => ?_) (fun _ _ => rfl) htr), owns_below h2' hb4, HB2.out.trans ((hb3.trans (hb4.mono hb3.size)).mono HB2.out.size)⟩
                rcases hk with hk | ⟨hk1, hk2⟩
                · exact hS k hk
                · refine ⟨hk2, fun e => ?_⟩
                  have := (h2'.lt k e.symm).2
                  omega
            clear hgood hst HF
            have HSH : Hid _ := hp1.out.2
            have HN2 : Hid ((p.drop m).reverse.map Ent.val ++ [Tr.over (op, n) ((p.take m).reverse.map Ent.val)] = ((⟨a0, ownOf op, Tr.over (op, n) ((p.take m).reverse.map Ent.val)⟩ :: p.drop m).reverse.map Ent.val)) := by
              show _ = _
              simp
            generalize hNL : (p.drop m).reverse.map Ent.val ++ [Tr.over (op, n) ((p.take m).reverse.map Ent.val)] = NL at *
            generalize hNP : (⟨a0, ownOf op, Tr.over (op, n) ((p.take m).reverse.map Ent.val)⟩ :: p.drop m : List (Ent Tr)) = NP at *
            clear hNL hNP HLP
            rcases HO.out.2 with ⟨hnil, hb0⟩ | ⟨g, cap', cur, hv, hg, hh, hcap1, hcap2, hcap3, hcur⟩
            · have hbs : bs = [] := List.length_eq_zero_iff.1 hb0
              subst hbs
              obtain rfl : rest = 0 := by simp at hr1; exact hr1
              obtain ⟨rfl, rfl⟩ : ad = none ∧ cp = 0 := by
                simp at hnil
                exact hnil
              have GC := fun (w1 : World) (hb3 : Below w2.heap.size w2 w1) => GE.out (.slice none 0 0) w1 ⟨by simp, Or.inl ⟨rfl, none, 0, rfl⟩⟩ hb3
              have hd2 : Below w2.heap.size w2 w2.drew := (Below.refl _ _).drew
              clear hnil hb0 HO hr1 hp1 HSH GE HPL HS
              go_region_with (go_at_call 139; refine (GC _ hd2).mono ?_; rintro e w3 ⟨pb, rfl, ht3, ho3, hb3⟩; have HT3 : Hid _ := ht3; have HO3 : Hid _ := ho3; have HB3 : Hid _ := hb3; clear ht3 ho3 hb3)
              all_goals clear GC hd2
              all_goals
                have own1 : (w3.alloc (.cells #[ptr pb] 101)).ownsRow w'.heap.size 101 1 (.slice none 0 0) 0 [] := World.ownsRow_nil _ _ _ _
                have HBx : Hid (Below w'.heap.size w' (w3.alloc (.cells #[ptr pb] 101))) := HB3.out.alloc HB3.out.size _
                have cellsN := onePtr_cells w3 pb
                go_wp2_with (at_builtin; refine wpList_append_own_at _ rfl _ _ 118 rfl w'.heap.size 101 i0 (.pointer none) 1 8 Tryd.underlying118 hi hz0 hz1 hz2 rfl (by decide) _ _ _ rfl own1 ⟨w3.heap.size, 0, none⟩ 1 1 [ptr pb] rfl rfl cellsN (by intro u hu; simp at hu; subst hu; rfl) (by unfold maxLen; omega) (by omega) (by have h := HB3.out.size; simp; omega) ?_)
                intro v7 w7 own7 grow7 _ hat7
                have HO7 : Hid (w7.ownsRow w'.heap.size 101 1 v7 ([pb] : List Nat).length (ptrs [pb])) := own7
                have HT7 : Hid (TrsAt w7 (OldBut w7 v7) (NP.reverse.map Ent.val) [pb]) := by
                  show TrsAt _ _ _ _
                  rw [← HN2.out]
                  exact pile_next HT3.out grow7 hat7 rfl
                have HB7 : Hid (Below w'.heap.size w' w7) := HBx.out.grown grow7 HBx.out.size (fun k hk => by cases hk)
                clear own1 own7 grow7 hat7 cellsN
                go_wp2_with fail
                go_roundw
                case rel => exact ⟨j + 1, NP, [pb], by omega, by go_num, HF2, HO7, HT7, HB7⟩
                case measure => simp [intOf]; omega
            · obtain ⟨rfl, rfl⟩ : ad = some ⟨g, 0, none⟩ ∧ cap' = cp := by
                simp at hv
                exact ⟨hv.1, hv.2.symm⟩
              have hcap2' : cap' ≤ 9223372036854775807 := hcap2
              have GC := fun (w1 : World) (hb3 : Below w2.heap.size w2 w1) => GE.out _ w1 (own_high (owns_below HSH.out hb3) rfl hr1 hpj) hb3
              obtain ⟨asl, hasl⟩ : ∃ asl, (if cap' = rest then some (⟨g, 0, none⟩ : Addr) else some ⟨g, rest, none⟩) = asl := ⟨_, rfl⟩
              rw [hasl] at GC
              have hd2 : Below w2.heap.size w2 w2.drew := (Below.refl _ _).drew
              have HG0 : Hid (w'.heap.size ≤ g) := hg
              clear hv hcur hcap2 hh HO hg hp1 HSH GE HPL HS
              go_region_with (go_at_call 139; refine (GC _ hd2).mono ?_; rintro e w3 ⟨pb, rfl, ht3, ho3, hb3⟩; have HT3 : Hid _ := ht3; have HO3 : Hid _ := ho3; have HB3 : Hid _ := hb3; clear ht3 ho3 hb3)
              all_goals clear GC hd2 hasl
              all_goals
                have own1 := (own_low HO3.out rfl hr1).alloc (.cells #[ptr pb] 101)
                have HLX : Hid (ptrs (bs.take rest) ++ [ptr pb] = ptrs (bs.take rest ++ [pb]) ∧ rest + 1 = (bs.take rest ++ [pb]).length) := by
                  constructor
                  · simp [ptrs]
                  · simp
                    omega
                generalize ptrs (bs.take rest) = xs0 at own1 HLX
                generalize bs.take rest ++ [pb] = NB at *
                have HBx : Hid (Below w'.heap.size w' (w3.alloc (.cells #[ptr pb] 101))) := HB3.out.alloc HB3.out.size _
                have cellsN := onePtr_cells w3 pb
                go_wp2_with (at_builtin; refine wpList_append_own_at _ rfl _ _ 118 rfl w'.heap.size 101 i0 (.pointer none) 1 8 Tryd.underlying118 hi hz0 hz1 hz2 rfl (by decide) _ _ _ rfl own1 ⟨w3.heap.size, 0, none⟩ 1 1 [ptr pb] rfl rfl cellsN (by intro u hu; simp at hu; subst hu; rfl) (by unfold maxLen; omega) (by omega) (by have h := HB3.out.size; simp; omega) ?_)
                intro v7 w7 own7 grow7 _ hat7
                have HO7 : Hid (w7.ownsRow w'.heap.size 101 1 v7 NB.length (ptrs NB)) := by
                  show World.ownsRow _ _ _ _ _ _ _
                  rw [← HLX.out.1, ← HLX.out.2]
                  exact own7
                have HT7 : Hid (TrsAt w7 (OldBut w7 v7) (NP.reverse.map Ent.val) NB) := by
                  show TrsAt _ _ _ _
                  rw [← HN2.out]
                  exact pile_next HT3.out grow7 hat7 rfl
                have HB7 : Hid (Below w'.heap.size w' w7) := HBx.out.grown grow7 HBx.out.size (fun k hk => by
                  have e : g = k := Option.some.inj hk
                  rw [← e]
                  exact HG0.out)
                clear own1 own7 grow7 hat7 cellsN
                go_wp2_with fail
                go_roundw
                case rel => exact ⟨j + 1, NP, NB, by omega, by go_num, HF2, HO7, HT7, HB7⟩
                case measure => simp [intOf]; omega
          · have HK : Hid (kindL k vars t = 0) := by
              show _ = _
              by_cases h0 : ownOf op = 0
              · exact kind_stop HX.out (foldK_of_pileT HF.out) (step_own h0)
              · refine kind_stop HX.out (foldK_of_pileT HF.out) (step_kind (x := (op, n)) (by have := HMM.out; have := HPL.out; have := HR.out; simp only; omega) ?_)
                rw [show manyOf (op, n).1 = m from HMM.out.symm]
                refine Classical.byContradiction fun hne => hgood ⟨h0, fun e he => Classical.byContradiction fun hk' => hne ⟨e, he, hk'⟩⟩
            have GE : Hid (∀ (sl : Value) (w1 : World), PtrsAt w1 (Old w1) sl (bs.drop rest) → Below w2.heap.size w2 w1 → Calls Tryd.prog 139 #[.agg #[.int .i64 op, .int .u64 n], sl] w1 fun e w3 => e = .returned (.pointer none) ∧ Below w'.heap.size w' w3) := by
              intro sl w1 hsl hb3
              obtain ⟨h1, h2⟩ := hp1.out
              have h1' : TrsAt w1 (OldBut w1 (.slice ad bs.length cp)) (p.reverse.map Ent.val) bs := TrsAt.frame (fun k hk => ⟨Nat.lt_of_lt_of_le hk.1 hb3.size, hk.2⟩) (fun k hk => hb3.block k hk.1) h1
              have hd := trs_drop h1' rest
              rw [HLP.out.1] at hd
              have hsz : sizes ((p.take m).reverse.map Ent.val) ≤ 1000000 := by
                have h3 := pile_sizes HF.out
                have h4 := sizes_append ((p.reverse.map Ent.val).take rest) ((p.reverse.map Ent.val).drop rest)
                rw [List.take_append_drop, HLP.out.1] at h4
                omega
              refine (nodeOver_mixed op n _ (bs.drop rest) sl w1 (OldBut w1 (.slice ad bs.length cp)) (fun k hk => hk.1) hsl hd ?_ ?_ hsz).mono ?_
              · rw [← HMM.out]
                have := HPL.out
                have := HR.out
                simp
                omega
              · rintro ⟨h0, hall⟩
                refine hgood ⟨h0, fun e he => ?_⟩
                rw [((pileT_ok j p HF.out).1 e (List.mem_of_mem_take he)).2]
                exact hall e.val (List.mem_map.2 ⟨e, by simpa using he, rfl⟩)
              · rintro e w3 ⟨he, hb4⟩
                exact ⟨he, HB2.out.trans ((hb3.trans (hb4.mono hb3.size)).mono HB2.out.size)⟩
            clear hgood HF HLP
            have HSH : Hid _ := hp1.out.2
            rcases HO.out.2 with ⟨hnil, hb0⟩ | ⟨g, cap', cur, hv, hg, hh, hcap1, hcap2, hcap3, hcur⟩
            · have hbs : bs = [] := List.length_eq_zero_iff.1 hb0
              subst hbs
              obtain rfl : rest = 0 := by simp at hr1; exact hr1
              obtain ⟨rfl, rfl⟩ : ad = none ∧ cp = 0 := by
                simp at hnil
                exact hnil
              have GC := fun (w1 : World) (hb3 : Below w2.heap.size w2 w1) => GE.out (.slice none 0 0) w1 ⟨by simp, Or.inl ⟨rfl, none, 0, rfl⟩⟩ hb3
              have hd2 : Below w2.heap.size w2 w2.drew := (Below.refl _ _).drew
              clear hnil hb0 HO hr1 hp1 HSH GE HPL HS
              go_region_with (go_at_call 139; refine (GC _ hd2).mono ?_; rintro e w3 ⟨rfl, hb3⟩; have HB3 : Hid _ := hb3; clear hb3)
              all_goals clear GC hd2
              all_goals
                go_wp2_with fail
                go_ret
                exact ⟨HB3.out, Or.inl ⟨HK.out, rfl⟩⟩
            · obtain ⟨rfl, rfl⟩ : ad = some ⟨g, 0, none⟩ ∧ cap' = cp := by
                simp at hv
                exact ⟨hv.1, hv.2.symm⟩
              have hcap2' : cap' ≤ 9223372036854775807 := hcap2
              have GC := fun (w1 : World) (hb3 : Below w2.heap.size w2 w1) => GE.out _ w1 (own_high (owns_below HSH.out hb3) rfl hr1 hpj) hb3
              obtain ⟨asl, hasl⟩ : ∃ asl, (if cap' = rest then some (⟨g, 0, none⟩ : Addr) else some ⟨g, rest, none⟩) = asl := ⟨_, rfl⟩
              rw [hasl] at GC
              have hd2 : Below w2.heap.size w2 w2.drew := (Below.refl _ _).drew
              clear hv hcur hcap2 hh HO hg hp1 HSH GE HPL HS
              go_region_with (go_at_call 139; refine (GC _ hd2).mono ?_; rintro e w3 ⟨rfl, hb3⟩; have HB3 : Hid _ := hb3; clear hb3)
              all_goals clear GC hd2 hasl
              all_goals
                go_wp2_with fail
                go_ret
                exact ⟨HB3.out, Or.inl ⟨HK.out, rfl⟩⟩
    · obtain rfl : j = t.length := by omega
      have HE := pile_end hk1 hk hv hv4 hl HF.out
      obtain ⟨ad, cp, hv7⟩ := own_shape HO.out
      by_cases h1 : bs.length = 1
      · obtain ⟨b0, rfl⟩ := List.length_eq_one_iff.1 h1
        obtain ⟨e0, rfl⟩ : ∃ e0, p = [e0] := List.length_eq_one_iff.1 hpl
        have hr := HE.2 e0 rfl
        have htr : TrAt wr (Old wr) e0.val b0 := TrAt.frame (fun k hk => hk.1) (fun _ _ => rfl) (HS.out.2 0 e0.val b0 rfl rfl)
        rcases HO.out.2 with ⟨_, hb0⟩ | ⟨g, cap', cur, hv, hg, hh, _⟩
        · simp at hb0
        have hcell := HO.out.cells (g := g) (by rw [hv]; rfl) 0 (ptr b0) rfl
        have hcell' : wr.cell? ⟨g, 0, none⟩ = some (ptr b0) := hcell
        have HR : Hid (Below w'.heap.size w' wr ∧ ∃ r : Tr, pileT k vars t t.length = some [⟨0, r.kind, r⟩] ∧ TrAt wr (Old wr) r b0) := ⟨HB.out, e0.val, hr, htr⟩
        clear hcell hr htr HE hh HO HS HF HB hv7
        subst hv
        go_wp2_with fail
        go_ret
        obtain ⟨h1, r, h2, h4⟩ := HR.out
        exact ⟨h1, Or.inr ⟨r, b0, h2, rfl, h4⟩⟩
      · have HK : Hid (kindL k vars t = 0) := HE.1 (by omega)
        have hne : ((bs.length : Int) != 1) = true := bne_iff_ne.2 (by omega)
        have hb48 : bs.length ≤ 48 := by
          have h1 := foldK_of_pileT HF.out
          have h2 := foldK_len _ _ _ h1
          simp at h2
          omega
        clear HE HF HS HO
        subst hv7
        go_wp2_with fail
        go_ret
        exact ⟨HB.out, Or.inl ⟨HK.out, rfl⟩⟩
theorem kindL_zero {wide vars : Int} {t : List Nd} (h : ¬ 0 < kindL wide vars t) : kindL wide vars t = 0 := by
  have h0 : kindL wide vars t = 0 ∨ 0 < kindL wide vars t := by
    by_cases hg : wideB wide = true ∧ 1 ≤ vars ∧ vars ≤ 4 ∧ 1 ≤ t.length ∧ t.length ≤ 48
    · cases hf : foldK wide vars t [] with
      | none => exact Or.inl (kind_none hf)
      | some q =>
        obtain ⟨p, hp, hq⟩ := pileE_kinds wide vars Tr.leaf Tr.one Tr.two t t.length q (Nat.le_refl _) (by rw [List.take_length]; exact hf)
        rw [kind_end hg (by rw [List.take_length]; exact hf)]
        unfold root1
        split
        · rename_i h1
          right
          obtain ⟨e, rfl⟩ : ∃ e, p = [e] := List.length_eq_one_iff.1 (by rw [← hq] at h1; simpa using h1)
          obtain ⟨k1, k2⟩ := (pileT_ok _ _ hp).1 e (by simp)
          have := Tr.kind_pos k1
          rw [← hq]
          simp
          omega
        · exact Or.inl rfl
    · exact Or.inl (kind_out hg)
  omega
/-- the root of a term that is not good: none -/
theorem rootOf_no (wide vars : Int) (v : Value) (t : List Nd) (w : World) (hT : Tab w) (h : NodesAt w v t) (hk : ¬ 0 < kindL wide vars t) :
    Calls Tryd.prog 79 #[.int .i64 wide, .int .i64 vars, v] w fun e w' => e = .returned (.pointer none) ∧ Below w.heap.size w w' := by
  by_cases hg : wideB wide = true ∧ 1 ≤ vars ∧ vars ≤ 4 ∧ t.length ≤ 48
  · obtain ⟨h1, h2, h3, h4⟩ := hg
    obtain ⟨k, rfl, hk1, hk64⟩ := wideB_true h1
    obtain ⟨hok, hlen, hN⟩ := h
    rcases hN with ⟨rfl, a, cap, rfl⟩ | ⟨b, off, cap, rfl, hlt, hc⟩
    · have g := rootOf_nil k vars a cap h1 ⟨h2, h3⟩ w
      refine g.mono ?_
      rintro e w' ⟨he, rfl⟩
      exact ⟨he, Below.refl _ _⟩
    · refine (rootOf_in k vars b off cap t hk1 hk64 h2 h3 h4 hok w hT hlt hc).mono ?_
      rintro e w' ⟨hb, ⟨_, he⟩ | ⟨r, p, hr, _⟩⟩
      · exact ⟨he, hb⟩
      · exfalso
        have hf := foldK_of_pileT hr
        have hl1 : 1 ≤ t.length := by
          by_cases h0 : 1 ≤ t.length
          · exact h0
          · obtain rfl : t = [] := List.length_eq_zero_iff.1 (by omega)
            simp [pileE] at hr
        have he := kind_end ⟨h1, h2, h3, hl1, h4⟩ hf
        have hkp : r.kind = 1 ∨ r.kind = 2 := Tr.kind_pos ((pileT_ok _ _ hr).1 _ (List.mem_singleton.2 rfl)).1
        simp [root1] at he
        omega
  · obtain ⟨a, cap, rfl⟩ := h.shape
    refine (rootOf_out wide vars a t.length cap h.2.1 hg w).mono ?_
    rintro e w' ⟨he, rfl⟩
    exact ⟨he, Below.refl _ _⟩
theorem rootOf_yes (wide vars : Int) (v : Value) (t : List Nd) (w : World) (hT : Tab w) (h : NodesAt w v t) (r : Tr) (hk : 0 < kindL wide vars t) (hr : pileT wide vars t t.length = some [⟨0, r.kind, r⟩]) :
    Calls Tryd.prog 79 #[.int .i64 wide, .int .i64 vars, v] w fun e w' => ∃ p, e = .returned (ptr p) ∧ TrAt w' (Old w') r p ∧ Below w.heap.size w w' := by
  obtain ⟨h1, h2, h3, h4, h5, _⟩ := root_tree hk
  obtain ⟨k, rfl, hk1, hk64⟩ := wideB_true h1
  obtain ⟨hok, hlen, hN⟩ := h
  rcases hN with ⟨rfl, _⟩ | ⟨b, off, cap, rfl, hlt, hc⟩
  · simp at h4
  refine (rootOf_in k vars b off cap t hk1 hk64 h2 h3 h5 hok w hT hlt hc).mono ?_
  rintro e w' ⟨hb, ⟨h0, _⟩ | ⟨r', p, hr', he, htr⟩⟩
  · omega
  · rw [hr] at hr'
    simp at hr'
    obtain rfl := hr'.2
    exact ⟨p, he, htr, hb⟩
end Go.Proofs.YtjbfembblgkakaaDoor
