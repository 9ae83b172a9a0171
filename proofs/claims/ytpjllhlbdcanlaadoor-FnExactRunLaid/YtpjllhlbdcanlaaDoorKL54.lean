/-
  The tree of a term: the program's rootOf.
  The walk of the exact law of JoinTerms, out of what the program's own function does.
  The nodes of a tree laid in a row: the program's layBehind and nodesOf, and with them TurnTerm and JoinTerms.
  The program's nodesOf, TurnTerm and JoinTerms.
  The program's plain and IsPlain, and the model's IsPlain.
  Plain mathematics: the wires of a tree that is laid out; what GatesFor answers.
  What an op makes of its parts' values: the program's numberOf, holdsOf and bitOf.
  The program's recursive laying of a tree.
  The model's IsPlain.
  The model's l5Gates: the circuit of a term by the pile of wires.
  The model's l5Gates: the circuit of a term by the pile of wires, node by node.
  The program's laid: the circuit of a tree.
  Which wides can be laid out: the program's and the model's word for it.
  The program's GatesFor.
  The model's GatesFor.
  One bit of a word, as the program's own shift and mask tell it.
  The program's BitsOf.
-/
import Derived.Test.YtpjllhlbdcanlaaDoorKL53
import Derived.Test.YtpjllhlbdcanlaaDoorLGood
import Derived.Maps.AppendAt
import Derived.Test.YtpjllhlbdcanlaaDoorLTurn
import Derived.Test.YtpjllhlbdcanlaaDoorKL51
import Derived.Test.YtpjllhlbdcanlaaDoorGood2
import Derived.Test.YtpjllhlbdcanlaaDoorVal2
import Derived.Test.YtpjllhlbdcanlaaDoorKL52
import Derived.Test.YtpjllhlbdcanlaaDoorWords
import Derived.Test.YtpjllhlbdcanlaaDoorGood
import Derived.Test.YtpjllhlbdcanlaaDoorIGood4
import Derived.Test.YtpjllhlbdcanlaaDoorMoved
import Derived.Test.YtpjllhlbdcanlaaDoorStrong
import Derived.Test.YtpjllhlbdcanlaaDoorVars
import Derived.Test.YtpjllhlbdcanlaaDoorRun
import Derived.Test.YtpjllhlbdcanlaaDoorPut
import Derived.Test.YtpjllhlbdcanlaaDoorValueOf
namespace Go.Proofs.YtpjllhlbdcanlaaDoor
open Go Go.RowKit
open M
set_option linter.unusedVariables false

theorem rootOf_out (wide vars : Int) (a : Option Addr) (len cap : Nat) (hlen : len ≤ 9223372036854775807) (h : ¬ (wideB wide = true ∧ 1 ≤ vars ∧ vars ≤ 4 ∧ len ≤ 48)) (w : World) :
    Calls Tryd.prog 53 #[.int .i64 wide, .int .i64 vars, .slice a len cap] w fun e w' => e = .returned (.pointer none) ∧ w' = w := by
  have g1 := goodWide_any wide w
  cases hw : wideB wide with
  | false =>
    rw [hw] at g1
    clear hw h
    go_enter Tryd.func53, Tryd.ntmps53
    go_wp2_with fail
    refine g1.mono ?_
    rintro e w' ⟨rfl, rfl⟩
    clear g1
    go_wp2_with fail
    go_ret
    exact ⟨rfl, rfl⟩
  | true =>
    rw [hw] at g1
    by_cases hv : 1 ≤ vars ∧ vars ≤ 4
    · have g2 := goodVars_yes vars hv w
      have hl : 48 < len := by
        by_cases h48 : 48 < len
        · exact h48
        · exact absurd ⟨hw, hv.1, hv.2, by omega⟩ h
      clear hw h hv
      go_enter Tryd.func53, Tryd.ntmps53
      go_wp2_with fail
      refine g1.mono ?_
      rintro e w' ⟨rfl, rfl⟩
      clear g1
      go_wp2_with fail
      refine g2.mono ?_
      rintro e w' ⟨rfl, rfl⟩
      clear g2
      go_wp2_with fail
      go_ret
      exact ⟨rfl, rfl⟩
    · have g2 := goodVars_no vars hv w
      clear hw h hv
      go_enter Tryd.func53, Tryd.ntmps53
      go_wp2_with fail
      refine g1.mono ?_
      rintro e w' ⟨rfl, rfl⟩
      clear g1
      go_wp2_with fail
      refine g2.mono ?_
      rintro e w' ⟨rfl, rfl⟩
      clear g2
      go_wp2_with fail
      go_ret
      exact ⟨rfl, rfl⟩
set_option maxRecDepth 100000 in
theorem rootOf_nil (k : Nat) (vars : Int) (a : Option Addr) (cap : Nat) (hw : wideB k = true) (hv : 1 ≤ vars ∧ vars ≤ 4) (w : World) :
    Calls Tryd.prog 53 #[.int .i64 k, .int .i64 vars, .slice a 0 cap] w fun e w' => e = .returned (.pointer none) ∧ w' = w := by
  have g1 := goodWide_any k w
  rw [hw] at g1
  have g2 := goodVars_yes vars hv w
  clear hw hv
  go_enter Tryd.func53, Tryd.ntmps53
  go_wp2_with fail
  refine g1.mono ?_
  rintro e w' ⟨rfl, rfl⟩
  clear g1
  go_wp2_with fail
  refine g2.mono ?_
  rintro e w' ⟨rfl, rfl⟩
  clear g2
  go_wp2_with fail
  go_loop [7, 30] (fun v i => v = .slice none 0 0 ∧ i = .int .i64 0) (fun _ _ => 0)
  case atStart => exact ⟨rfl, rfl⟩
  case round =>
    obtain ⟨rfl, rfl⟩ := hrel
    go_wp2_with fail
    go_ret
    exact ⟨rfl, rfl⟩
theorem step_kind {k vars : Int} {x : Nd} {p : List (Ent Tr)} (hle : manyOf x.1 ≤ p.length) (h : ∃ e ∈ p.take (manyOf x.1), e.kind ≠ partOf x.1) : stepK k vars (p.map Ent.kind).reverse x = none := by
  have hm := manyOf_le x.1
  unfold stepK
  split
  · rfl
  obtain ⟨e, he, hk⟩ := h
  generalize manyOf x.1 = m at *
  generalize partOf x.1 = q at *
  match m, hm, p, hle, he with
  | 0, _, p, _, he => simp at he
  | 1, _, d :: r, _, he =>
    simp at he
    subst he
    simp [popN, hk]
  | 2, _, d :: c :: r, _, he =>
    simp at he
    rcases he with rfl | rfl
    · simp [popN, hk]
    · simp only [popN, List.map_cons, List.reverse_cons, List.getLast?_concat, List.dropLast_concat]
      split
      · simp [hk]
      · rfl
theorem step_tree {k vars : Int} {j : Nat} {x : Nd} {p : List (Ent Tr)} (h1 : ¬ ownOf x.1 = 0) (h2 : okN k vars x.1 x.2 = true) (hle : manyOf x.1 ≤ p.length) (h : ∀ e ∈ p.take (manyOf x.1), e.kind = partOf x.1) :
    ∃ a0, stepE k vars Tr.leaf Tr.one Tr.two j p x = some (⟨a0, ownOf x.1, Tr.over x ((p.take (manyOf x.1)).reverse.map Ent.val)⟩ :: p.drop (manyOf x.1)) := by
  have hm := manyOf_le x.1
  unfold stepE
  rw [if_neg (by rw [h2]; simp [h1])]
  generalize manyOf x.1 = m at *
  generalize partOf x.1 = q at *
  match m, hm, p, hle, h with
  | 0, _, p, _, _ => exact ⟨j, rfl⟩
  | 1, _, d :: r, _, h =>
    have hd := h d (by simp)
    refine ⟨d.at0, ?_⟩
    simp [hd, Tr.over]
  | 2, _, d :: c :: r, _, h =>
    have hd := h d (by simp)
    have hc := h c (by simp)
    refine ⟨c.at0, ?_⟩
    simp [hd, hc, Tr.over]
theorem own_low {w : World} {B g n cap rest : Nat} {bs : List Nat} (h : w.ownsRow B 83 1 (.slice (some ⟨g, 0, none⟩) n cap) n (ptrs bs)) (hn : n = bs.length) (hr : rest ≤ n) : w.ownsRow B 83 1 (.slice (some ⟨g, 0, none⟩) rest cap) rest (ptrs (bs.take rest)) := by
  subst hn
  refine ⟨by simp [ptrs]; omega, ?_⟩
  rcases h.2 with ⟨h1, _⟩ | ⟨g', cap', cur, h1, hg, hh, h2, h3, h4, h5⟩
  · cases h1
  · simp at h1
    obtain ⟨rfl, rfl⟩ := h1
    refine Or.inr ⟨g, cap, cur, rfl, hg, hh, by omega, h3, h4, ?_⟩
    have h6 := congrArg (List.take rest) h5
    rw [List.take_take] at h6
    simp only [Nat.mul_one] at h6 ⊢
    rw [Nat.min_eq_left hr] at h6
    rw [h6]
    simp [ptrs, List.map_take]
theorem own_high {w : World} {B g n cap rest : Nat} {bs : List Nat} (h : w.ownsRow B 83 1 (.slice (some ⟨g, 0, none⟩) n cap) n (ptrs bs)) (hn : n = bs.length) (hr : rest ≤ n) (hl : n ≤ 48) :
    PtrsAt w (Old w) (.slice (if cap = rest then some ⟨g, 0, none⟩ else some ⟨g, rest, none⟩) (n - rest) (cap - rest)) (bs.drop rest) := by
  subst hn
  have hlt := (h.lt g rfl).2
  refine ⟨by simp; omega, ?_⟩
  by_cases h0 : rest = bs.length
  · subst h0
    exact Or.inl ⟨by simp, (if cap = bs.length then some ⟨g, 0, none⟩ else some ⟨g, bs.length, none⟩), cap - bs.length, by simp⟩
  · have hc : rest < cap := by
      rcases h.2 with ⟨h1, _⟩ | ⟨g', cap', cur, h1, hg, hh, h2, _⟩
      · cases h1
      · simp at h1
        omega
    refine Or.inr ⟨g, rest, cap - rest, by rw [if_neg (by omega)]; simp, hlt, fun i b hb => ?_⟩
    have hcell := h.cells (g := g) rfl (rest + i) (ptr b) (by
      rw [List.getElem?_drop] at hb
      simp [ptrs, hb])
    rw [show ((⟨g, 0, none⟩ : Addr).add (rest + i)) = ⟨g, rest + i, none⟩ from by unfold Addr.add; split <;> simp_all] at hcell
    exact hcell
theorem trs_drop {w : World} {S : Nat → Prop} {l : List Tr} {ps : List Nat} (h : TrsAt w S l ps) (r : Nat) : TrsAt w S (l.drop r) (ps.drop r) :=
  ⟨by simp [h.1], fun i a p ha hp => h.2 (r + i) a p (by rw [List.getElem?_drop] at ha; exact ha) (by rw [List.getElem?_drop] at hp; exact hp)⟩
theorem trs_take {w : World} {S : Nat → Prop} {l : List Tr} {ps : List Nat} (h : TrsAt w S l ps) (r : Nat) : TrsAt w S (l.take r) (ps.take r) :=
  ⟨by simp [h.1], fun i a p ha hp => h.2 i a p (by rw [List.getElem?_take] at ha; split at ha; exact ha; cases ha) (by rw [List.getElem?_take] at hp; split at hp; exact hp; cases hp)⟩
theorem trs_snoc {w : World} {S : Nat → Prop} {l : List Tr} {ps : List Nat} {a : Tr} {p : Nat} (h : TrsAt w S l ps) (ha : TrAt w S a p) : TrsAt w S (l ++ [a]) (ps ++ [p]) := by
  refine ⟨by simp [h.1], fun i c q hc hq => ?_⟩
  have hl := h.1
  by_cases hi : i < l.length
  · rw [List.getElem?_append_left hi] at hc
    rw [List.getElem?_append_left (by omega)] at hq
    exact h.2 i c q hc hq
  · rw [List.getElem?_append_right (by omega)] at hc hq
    rw [hl] at hc
    generalize i - ps.length = j at hc hq
    match j, hc, hq with
    | 0, hc, hq =>
      simp at hc hq
      subst hc hq
      exact ha
    | j + 1, hc, hq => simp at hq
theorem pile_next {w3 w7 : World} {v v0 v7 : Value} {o : Obj} {l : List Tr} {ps : List Nat} (ht : TrsAt w3 (OldBut w3 v) l ps) (grow : (w3.alloc o).grownBy w7 v0.ownBlock) (hat : v7.ownBlock = v0.ownBlock ∨ v7.ownBlock = some (w3.heap.size + 1)) (hvb : v0.ownBlock = v.ownBlock) : TrsAt w7 (OldBut w7 v7) l ps := by
  have hs := grow.size
  rw [show (w3.alloc o).heap.size = w3.heap.size + 1 from by simp] at hs
  refine TrsAt.frame (fun k hk => ⟨by omega, ?_⟩) (fun k hk => ?_) ht
  · rcases hat with h | h
    · rw [h, hvb]
      exact hk.2
    · rw [h]
      intro e
      have := Option.some.inj e
      omega
  · rw [grow.block k (by simp; omega) (by rw [hvb]; exact hk.2)]
    exact Below.heap_alloc _ _ _ hk.1
theorem PtrsAt.shape {w : World} {S : Nat → Prop} {v : Value} {bs : List Nat} (h : PtrsAt w S v bs) : ∃ (a : Option Addr) (cap : Nat), v = .slice a bs.length cap := by
  rcases h.2 with ⟨rfl, a, cap, h⟩ | ⟨g, off, cap, h, _⟩
  · exact ⟨a, cap, h⟩
  · exact ⟨_, cap, h⟩
theorem size_le_sizes {l : List Tr} {a : Tr} (h : a ∈ l) : a.size ≤ sizes l := by
  induction l with
  | nil => cases h
  | cons b l ih =>
    simp only [sizes]
    rcases List.mem_cons.1 h with rfl | h
    · omega
    · have := ih h
      omega
/-- parts of which one is of another kind -/
theorem nodeOver_mixed (op n : Int) (l : List Tr) (ps : List Nat) (v : Value) (w : World) (S : Nat → Prop) (hS : ∀ k, S k → k < w.heap.size) (hv : PtrsAt w (Old w) v ps)
    (ht : TrsAt w S l ps) (hm : manyOf op = l.length) (hk : ¬ (¬ ownOf op = 0 ∧ ∀ q ∈ l, q.kind = partOf op)) (hsz : sizes l ≤ 1000000) :
    Calls Tryd.prog 82 #[.agg #[.int .i64 op, .int .u64 n], v] w fun e w' => e = .returned (.pointer none) ∧ Below w.heap.size w w' := by
  by_cases h0 : ownOf op = 0
  · obtain ⟨a, cap, rfl⟩ := hv.shape
    exact nodeOver_shape op n a _ cap hv.1 (Or.inl h0) w
  · have hbad : ¬ ∀ q ∈ l, q.kind = partOf op := fun h => hk ⟨h0, h⟩
    obtain ⟨a, cap, hsh⟩ := hv.shape
    have hzl : (((ps.zip l).map some : List (Option (Nat × Tr)))).length = ps.length := by
      have := ht.1
      simp
      omega
    rw [hsh, ← hzl]
    refine nodeOver_bad op n ((ps.zip l).map some) a cap w h0 (by rw [hzl, hm, ht.1]) ?_ ?_ ?_
    · intro i q hq
      rw [List.getElem?_map, Option.map_eq_some_iff] at hq
      obtain ⟨⟨b, c⟩, hbc, rfl⟩ := hq
      obtain ⟨hb, hc⟩ := List.getElem?_zip_eq_some.1 hbc
      rcases hv.2 with ⟨rfl, _⟩ | ⟨g, off, cap', h, hg, hcell⟩
      · simp at hb
      · rw [hsh] at h
        simp at h
        exact ⟨g, off, h.1, hg, hcell i b hb⟩
    · intro b c hbc
      obtain ⟨x, hx, he⟩ := List.mem_map.1 hbc
      obtain rfl := Option.some.inj he
      obtain ⟨i, hi⟩ := List.mem_iff_getElem?.1 hx
      obtain ⟨hb, hc⟩ := List.getElem?_zip_eq_some.1 hi
      refine ⟨TrAt.frame (fun k hk => hS k hk) (fun _ _ => rfl) (ht.2 i c b hc hb), ?_⟩
      have h9 : c.size ≤ sizes l := size_le_sizes (List.mem_of_getElem? hc)
      omega
    · intro hall
      refine hbad (fun q hq => ?_)
      obtain ⟨i, hi⟩ := List.mem_iff_getElem?.1 hq
      have hil := (List.getElem?_eq_some_iff.1 hi).1
      obtain ⟨b, hb⟩ : ∃ b, ps[i]? = some b := ⟨ps[i]'(by have := ht.1; omega), List.getElem?_eq_getElem _⟩
      have hz : (ps.zip l)[i]? = some (b, q) := List.getElem?_zip_eq_some.2 ⟨hb, hi⟩
      obtain ⟨b', a', he, hk'⟩ := hall (some (b, q)) (List.mem_map.2 ⟨(b, q), List.mem_of_getElem? hz, rfl⟩)
      simp at he
      rw [he.2]
      exact hk'
theorem sizes_flat (l : List Tr) : sizes l = (l.flatMap Tr.flat).length := by
  induction l with
  | nil => rfl
  | cons a l ih => simp [sizes, ih, Tr.flat_len]
theorem pile_sizes {k vars : Int} {t : List Nd} {j : Nat} {p : List (Ent Tr)} (h : pileT k vars t j = some p) : sizes (p.reverse.map Ent.val) ≤ t.length := by
  have h2 := (pileT_ok j p h).2
  rw [sizes_flat, List.flatMap_map, h2]
  simp
  omega
theorem pile_end {k : Nat} {vars : Int} {t : List Nd} {p : List (Ent Tr)} (hk1 : 1 ≤ k) (hk : k ≤ 64) (hv : 1 ≤ vars) (hv4 : vars ≤ 4) (hl : t.length ≤ 48) (h : pileT k vars t t.length = some p) :
    (p.length ≠ 1 → kindL k vars t = 0) ∧ ∀ e, p = [e] → pileT k vars t t.length = some [⟨0, e.val.kind, e.val⟩] := by
  have hf := foldK_of_pileT h
  rw [List.take_length] at hf
  by_cases h1 : 1 ≤ t.length
  · have hg : wideB k = true ∧ 1 ≤ vars ∧ vars ≤ 4 ∧ 1 ≤ t.length ∧ t.length ≤ 48 := ⟨decide_eq_true (by omega), hv, hv4, h1, hl⟩
    have he := kind_end hg (by rw [List.take_length]; exact hf)
    constructor
    · intro hp
      rw [he]
      unfold root1
      rw [if_neg (by simpa using hp)]
    · rintro e rfl
      obtain ⟨k1, k2⟩ := (pileT_ok _ _ h).1 e (by simp)
      have hpos : 0 < kindL k vars t := by
        rw [he]
        have := Tr.kind_pos k1
        simp [root1]
        omega
      obtain ⟨_, _, _, _, _, r, hr, _⟩ := root_tree hpos
      rw [hr]
      have e1 : pileT k vars t t.length = some [e] := h
      rw [hr] at e1
      simp at e1
      subst e1
      rfl
  · have h0 : t = [] := List.length_eq_zero_iff.1 (by omega)
    subst h0
    simp [pileE] at h
    subst h
    constructor
    · intro _
      exact kind_out (by simp)
    · intro e he
      cases he
set_option maxRecDepth 100000 in
set_option maxHeartbeats 4000000 in
theorem rootOf_in (k : Nat) (vars : Int) (b off cap : Nat) (t : List Nd) (hk1 : 1 ≤ k) (hk : k ≤ 64) (hv : 1 ≤ vars) (hv4 : vars ≤ 4) (hl : t.length ≤ 48) (hok : ∀ x ∈ t, NdOk x) (w : World) (hT : Tab w) (hlt : b < w.heap.size)
    (hc : ∀ (i : Nat) (x : Nd), t[i]? = some x → w.cell? ⟨b, off + i * 2, none⟩ = some (.int .i64 x.1) ∧ w.cell? ⟨b, off + i * 2 + 1, none⟩ = some (.int .u64 x.2)) :
    Calls Tryd.prog 53 #[.int .i64 k, .int .i64 vars, .slice (some ⟨b, off, none⟩) t.length cap] w fun e w' => Below w.heap.size w w' ∧
      ((kindL k vars t = 0 ∧ e = .returned (.pointer none)) ∨ ∃ (r : Tr) (p : Nat), pileT k vars t t.length = some [⟨0, r.kind, r⟩] ∧ e = .returned (ptr p) ∧ TrAt w' (Old w') r p) := by
  have hw : wideB k = true := decide_eq_true (by omega)
  have g1 := goodWide_any k w
  rw [hw] at g1
  have g2 := goodVars_yes vars ⟨hv, hv4⟩ w
  clear hw
  obtain ⟨i0, hi, hz0, hz1, hz2⟩ := info_parts infoPtr
  go_enter Tryd.func53, Tryd.ntmps53
  go_wp2_with fail
  refine g1.mono ?_
  rintro e w' ⟨rfl, rfl⟩
  clear g1
  go_wp2_with fail
  refine g2.mono ?_
  rintro e w' ⟨rfl, rfl⟩
  clear g2
  go_wp2_with fail
  have HC : Hid _ := hc
  have HOK : Hid _ := hok
  have HT : Hid (Tab w') := hT
  clear hc hok hT
  go_loopw [7, 30] (fun v i wr => ∃ (j : Nat) (p : List (Ent Tr)) (bs : List Nat), j ≤ t.length ∧ i = .int .i64 j ∧ Hid (pileT k vars t j = some p) ∧ Hid (wr.ownsRow w'.heap.size 83 1 v bs.length (ptrs bs)) ∧ Hid (TrsAt wr (OldBut wr v) (p.reverse.map Ent.val) bs) ∧ Hid (Below w'.heap.size w' wr)) (fun _ i _ => t.length - (intOf i).toNat)
  case atStart => exact ⟨0, [], [], by omega, rfl, rfl, World.ownsRow_nil _ _ _ _, ⟨rfl, fun i a p ha _ => by simp at ha⟩, Below.refl _ _⟩
  case round =>
    obtain ⟨j, p, bs, hj, rfl, HF, HO, HS, HB⟩ := hrel
    have hpl : p.length = bs.length := by
      have := HS.out.1
      simpa using this
    by_cases hlt' : j < t.length
    · obtain ⟨⟨op, n⟩, hx⟩ : ∃ x, t[j]? = some x := ⟨t[j], List.getElem?_eq_getElem hlt'⟩
      obtain ⟨ho0, ho1, hn0, hn1⟩ := HOK.out (op, n) (List.mem_of_getElem? hx)
      simp only at ho0 ho1 hn0 hn1
      obtain ⟨c0, c1⟩ := HC.out j (op, n) hx
      rw [← HB.out.cell (p := ⟨b, off + j * 2, none⟩) hlt] at c0
      rw [← HB.out.cell (p := ⟨b, off + j * 2 + 1, none⟩) hlt] at c1
      simp only at c0 c1
      have HX : Hid (t[j]? = some (op, n)) := hx
      have hb1 : Below w'.heap.size w' (wr.alloc (.cells #[.int .i64 op, .int .u64 n] 80)) := HB.out.alloc HB.out.size _
      have g1 := shapeOf_any op (wr.alloc (.cells #[.int .i64 op, .int .u64 n] 80))
      have g2 := goodN_any k vars op n (by omega) (by omega) hn0 hn1 (wr.alloc (.cells #[.int .i64 op, .int .u64 n] 80)) (HT.out.below hb1 HT.out.some)
      have HBa : Hid (Below w'.heap.size w' (wr.alloc (.cells #[.int .i64 op, .int .u64 n] 80))) := hb1
      have hpj : bs.length ≤ 48 := by
        have h1 := foldK_of_pileT HF.out
        have h2 := foldK_len _ _ _ h1
        simp at h2
        omega
      have hml := manyOf_le op
      have HPL : Hid (p.length = bs.length) := hpl
      obtain ⟨ad, cp, hv7⟩ := own_shape HO.out
      clear hx hb1 hpl
      cases z2 : okN k vars op n with
      | false =>
        have HK : Hid (kindL k vars t = 0) := kind_stop HX.out (foldK_of_pileT HF.out) (step_num z2)
        rw [z2] at g2
        clear z2
        generalize ownOf op = o at *
        generalize manyOf op = m at *
        generalize wantOf op = q at *
        subst hv7
        go_wp2_with fail
        refine g1.mono ?_
        rintro e w2 ⟨rfl, rfl⟩
        clear g1
        go_wp2_with fail
        refine g2.mono ?_
        rintro e w2 ⟨rfl, hb2⟩
        clear g2
        have HB2 : Hid (Below w'.heap.size w' w2) := HBa.out.trans (hb2.mono HBa.out.size)
        clear hb2
        go_wp2_with fail
        go_ret
        exact ⟨HB2.out, Or.inl ⟨HK.out, rfl⟩⟩
      | true =>
        rw [z2] at g2
        by_cases z3 : bs.length < manyOf op
        · have HK : Hid (kindL k vars t = 0) := kind_stop HX.out (foldK_of_pileT HF.out) (step_few (by have := HPL.out; simp; omega))
          clear z2
          generalize ownOf op = o at *
          generalize manyOf op = m at *
          generalize wantOf op = q at *
          subst hv7
          go_wp2_with fail
          refine g1.mono ?_
          rintro e w2 ⟨rfl, rfl⟩
          clear g1
          go_wp2_with fail
          refine g2.mono ?_
          rintro e w2 ⟨rfl, hb2⟩
          clear g2
          have HB2 : Hid (Below w'.heap.size w' w2) := HBa.out.trans (hb2.mono HBa.out.size)
          clear hb2
          go_wp2_with fail
          go_ret
          exact ⟨HB2.out, Or.inl ⟨HK.out, rfl⟩⟩
        · subst hv7
          obtain ⟨m, hmm⟩ : ∃ m, m = manyOf op := ⟨_, rfl⟩
          rw [← hmm] at g1 z3 hml
          have HMM : Hid (m = manyOf op) := hmm
          clear hmm
          generalize hqq : wantOf op = q at g1
          generalize hoo : ownOf op = o at g1
          go_wp2_with fail
          refine g1.mono ?_
          rintro e w2 ⟨rfl, rfl⟩
          clear g1
          go_wp2_with fail
          refine g2.mono ?_
          rintro e w2 ⟨rfl, hb2⟩
          clear g2
          have HB2 : Hid (Below w'.heap.size w' w2) := HBa.out.trans (hb2.mono HBa.out.size)
          have e0 : w2.cell? ⟨wr.heap.size, 0, none⟩ = some (.int .i64 op) := by
            rw [hb2.cell (p := ⟨wr.heap.size, 0, none⟩) (by simp)]
            simp
          have e1 : w2.cell? ⟨wr.heap.size, 1, none⟩ = some (.int .u64 n) := by
            rw [hb2.cell (p := ⟨wr.heap.size, 1, none⟩) (by simp)]
            simp
          obtain ⟨rest, hrest⟩ : ∃ rest : Nat, (bs.length : Int) - (m : Int) = (rest : Int) := ⟨bs.length - m, by omega⟩
          have hr1 : rest ≤ bs.length := by omega
          have HR : Hid (rest + m = bs.length) := (by omega : rest + m = bs.length)
          go_wp2_with fail
          clear hrest
          have hp1 : Hid (TrsAt w2 (OldBut w2 (.slice ad bs.length cp)) (p.reverse.map Ent.val) bs ∧ w2.ownsRow w'.heap.size 83 1 (.slice ad bs.length cp) bs.length (ptrs bs)) := by
            have hba : Below wr.heap.size wr w2 := ((Below.refl _ _).alloc (Nat.le_refl _) _).trans (hb2.mono (by simp))
            exact ⟨TrsAt.frame (fun k hk => ⟨Nat.lt_of_lt_of_le hk.1 hba.size, hk.2⟩) (fun k hk => hba.block k hk.1) HS.out, owns_below HO.out hba⟩
          have HLP : Hid ((p.reverse.map Ent.val).drop rest = (p.take m).reverse.map Ent.val ∧ (p.reverse.map Ent.val).take rest = (p.drop m).reverse.map Ent.val) := by
            have h1 := HPL.out
            have h2 := HR.out
            constructor
            · rw [← List.map_drop, List.drop_reverse, show p.length - rest = m from by omega]
            · rw [← List.map_take, List.take_reverse, show p.length - rest = m from by omega]
          by_cases hgood : ¬ ownOf op = 0 ∧ ∀ e ∈ p.take m, e.kind = partOf op
          · obtain ⟨a0, hst⟩ := step_tree (j := j) (k := k) (vars := vars) (x := (op, n)) (p := p) hgood.1 z2 (by have := HMM.out; have := HPL.out; have := HR.out; simp only; omega) (by rw [show manyOf (op, n).1 = m from HMM.out.symm]; exact hgood.2)
            have HF2 : Hid (pileT k vars t (j + 1) = some (⟨a0, ownOf op, Tr.over (op, n) ((p.take m).reverse.map Ent.val)⟩ :: p.drop m)) := by
              show pileE k vars Tr.leaf Tr.one Tr.two t (j + 1) = _
              rw [pileE, show pileE k vars Tr.leaf Tr.one Tr.two t j = some p from HF.out, HX.out]
              simp only [Option.bind_some]
              rw [hst, ← show m = manyOf (op, n).1 from HMM.out]
            have GE : Hid (∀ (sl : Value) (w1 : World), PtrsAt w1 (Old w1) sl (bs.drop rest) → Below w2.heap.size w2 w1 → Calls Tryd.prog 82 #[.agg #[.int .i64 op, .int .u64 n], sl] w1 fun e w3 => ∃ pb, e = .returned (ptr pb) ∧
                TrsAt w3 (OldBut w3 (.slice ad bs.length cp)) ((p.drop m).reverse.map Ent.val ++ [Tr.over (op, n) ((p.take m).reverse.map Ent.val)]) (bs.take rest ++ [pb]) ∧ w3.ownsRow w'.heap.size 83 1 (.slice ad bs.length cp) bs.length (ptrs bs) ∧ Below w'.heap.size w' w3) := by
              intro sl w1 hsl hb3
              obtain ⟨h1, h2⟩ := hp1.out
              have h1' : TrsAt w1 (OldBut w1 (.slice ad bs.length cp)) (p.reverse.map Ent.val) bs := TrsAt.frame (fun k hk => ⟨Nat.lt_of_lt_of_le hk.1 hb3.size, hk.2⟩) (fun k hk => hb3.block k hk.1) h1
              have h2' := owns_below h2 hb3
              have hd := trs_drop h1' rest
              rw [HLP.out.1] at hd
              have ht := trs_take h1' rest
              rw [HLP.out.2] at ht
              have hkk : ∀ q ∈ (p.take m).reverse.map Ent.val, q.kind = partOf op := by
                intro q hq
                obtain ⟨e, he, rfl⟩ := List.mem_map.1 hq
                have he' : e ∈ p.take m := by simpa using he
                rw [← ((pileT_ok j p HF.out).1 e (List.mem_of_mem_take he')).2]
                exact hgood.2 e he'
              have hsz : sizes ((p.take m).reverse.map Ent.val) ≤ 1000000 := by
                have h3 := pile_sizes HF.out
                have h4 := sizes_append ((p.reverse.map Ent.val).take rest) ((p.reverse.map Ent.val).drop rest)
                rw [List.take_append_drop, HLP.out.1] at h4
                omega
              refine (nodeOver_made op n _ (bs.drop rest) sl w1 (OldBut w1 (.slice ad bs.length cp)) (fun k hk => hk.1) hsl hd hgood.1 ?_ hkk hsz).mono ?_
              · rw [← HMM.out]
                have := HPL.out
                have := HR.out
                simp
                omega
              · rintro e w3 ⟨pb, he, htr, hb4⟩
                have hS : ∀ k, OldBut w1 (.slice ad bs.length cp) k → OldBut w3 (.slice ad bs.length cp) k := fun k hk => ⟨Nat.lt_of_lt_of_le hk.1 hb4.size, hk.2⟩
                refine ⟨pb, he, trs_snoc (TrsAt.frame hS (fun k hk => hb4.block k hk.1) ht) (TrAt.frame (fun k hk => ?_) (fun _ _ => rfl) htr), owns_below h2' hb4, HB2.out.trans ((hb3.trans (hb4.mono hb3.size)).mono HB2.out.size)⟩
                rcases hk with hk | ⟨hk1, hk2⟩
                · exact hS k hk
                · refine ⟨hk2, fun e => ?_⟩
                  have := (h2'.lt k e.symm).2
                  omega
            clear hgood hst HF
            have HSH : Hid _ := hp1.out.2
            have HN2 : Hid ((p.drop m).reverse.map Ent.val ++ [Tr.over (op, n) ((p.take m).reverse.map Ent.val)] = ((⟨a0, ownOf op, Tr.over (op, n) ((p.take m).reverse.map Ent.val)⟩ :: p.drop m).reverse.map Ent.val)) := by
              show _ = _
              simp
            generalize hNL : (p.drop m).reverse.map Ent.val ++ [Tr.over (op, n) ((p.take m).reverse.map Ent.val)] = NL at *
            generalize hNP : (⟨a0, ownOf op, Tr.over (op, n) ((p.take m).reverse.map Ent.val)⟩ :: p.drop m : List (Ent Tr)) = NP at *
            clear hNL hNP HLP
            rcases HO.out.2 with ⟨hnil, hb0⟩ | ⟨g, cap', cur, hv, hg, hh, hcap1, hcap2, hcap3, hcur⟩
            · have hbs : bs = [] := List.length_eq_zero_iff.1 hb0
              subst hbs
              obtain rfl : rest = 0 := by simp at hr1; exact hr1
              obtain ⟨rfl, rfl⟩ : ad = none ∧ cp = 0 := by
                simp at hnil
                exact hnil
              have GC := fun (w1 : World) (hb3 : Below w2.heap.size w2 w1) => GE.out (.slice none 0 0) w1 ⟨by simp, Or.inl ⟨rfl, none, 0, rfl⟩⟩ hb3
              have hd2 : Below w2.heap.size w2 w2.drew := (Below.refl _ _).drew
              clear hnil hb0 HO hr1 hp1 HSH GE HPL HS
              go_region_with (go_at_call 82; refine (GC _ hd2).mono ?_; rintro e w3 ⟨pb, rfl, ht3, ho3, hb3⟩; have HT3 : Hid _ := ht3; have HO3 : Hid _ := ho3; have HB3 : Hid _ := hb3; clear ht3 ho3 hb3)
              all_goals clear GC hd2
              all_goals
                have own1 : (w3.alloc (.cells #[ptr pb] 83)).ownsRow w'.heap.size 83 1 (.slice none 0 0) 0 [] := World.ownsRow_nil _ _ _ _
                have HBx : Hid (Below w'.heap.size w' (w3.alloc (.cells #[ptr pb] 83))) := HB3.out.alloc HB3.out.size _
                have cellsN := onePtr_cells w3 pb
                go_wp2_with (at_builtin; refine wpList_append_own_at _ rfl _ _ 111 rfl w'.heap.size 83 i0 (.pointer none) 1 8 Tryd.underlying111 hi hz0 hz1 hz2 rfl (by decide) _ _ _ rfl own1 ⟨w3.heap.size, 0, none⟩ 1 1 [ptr pb] rfl rfl cellsN (by intro u hu; simp at hu; subst hu; rfl) (by unfold maxLen; omega) (by omega) (by have h := HB3.out.size; simp; omega) ?_)
                intro v7 w7 own7 grow7 _ hat7
                have HO7 : Hid (w7.ownsRow w'.heap.size 83 1 v7 ([pb] : List Nat).length (ptrs [pb])) := own7
                have HT7 : Hid (TrsAt w7 (OldBut w7 v7) (NP.reverse.map Ent.val) [pb]) := by
                  show TrsAt _ _ _ _
                  rw [← HN2.out]
                  exact pile_next HT3.out grow7 hat7 rfl
                have HB7 : Hid (Below w'.heap.size w' w7) := HBx.out.grown grow7 HBx.out.size (fun k hk => by cases hk)
                clear own1 own7 grow7 hat7 cellsN
                go_wp2_with fail
                go_roundw
                case rel => exact ⟨j + 1, NP, [pb], by omega, by go_num, HF2, HO7, HT7, HB7⟩
                case measure => simp [intOf]; omega
            · obtain ⟨rfl, rfl⟩ : ad = some ⟨g, 0, none⟩ ∧ cap' = cp := by
                simp at hv
                exact ⟨hv.1, hv.2.symm⟩
              have hcap2' : cap' ≤ 9223372036854775807 := hcap2
              have GC := fun (w1 : World) (hb3 : Below w2.heap.size w2 w1) => GE.out _ w1 (own_high (owns_below HSH.out hb3) rfl hr1 hpj) hb3
              obtain ⟨asl, hasl⟩ : ∃ asl, (if cap' = rest then some (⟨g, 0, none⟩ : Addr) else some ⟨g, rest, none⟩) = asl := ⟨_, rfl⟩
              rw [hasl] at GC
              have hd2 : Below w2.heap.size w2 w2.drew := (Below.refl _ _).drew
              have HG0 : Hid (w'.heap.size ≤ g) := hg
              clear hv hcur hcap2 hh HO hg hp1 HSH GE HPL HS
              go_region_with (go_at_call 82; refine (GC _ hd2).mono ?_; rintro e w3 ⟨pb, rfl, ht3, ho3, hb3⟩; have HT3 : Hid _ := ht3; have HO3 : Hid _ := ho3; have HB3 : Hid _ := hb3; clear ht3 ho3 hb3)
              all_goals clear GC hd2 hasl
              all_goals
                have own1 := (own_low HO3.out rfl hr1).alloc (.cells #[ptr pb] 83)
                have HLX : Hid (ptrs (bs.take rest) ++ [ptr pb] = ptrs (bs.take rest ++ [pb]) ∧ rest + 1 = (bs.take rest ++ [pb]).length) := by
                  constructor
                  · simp [ptrs]
                  · simp
                    omega
                generalize ptrs (bs.take rest) = xs0 at own1 HLX
                generalize bs.take rest ++ [pb] = NB at *
                have HBx : Hid (Below w'.heap.size w' (w3.alloc (.cells #[ptr pb] 83))) := HB3.out.alloc HB3.out.size _
                have cellsN := onePtr_cells w3 pb
                go_wp2_with (at_builtin; refine wpList_append_own_at _ rfl _ _ 111 rfl w'.heap.size 83 i0 (.pointer none) 1 8 Tryd.underlying111 hi hz0 hz1 hz2 rfl (by decide) _ _ _ rfl own1 ⟨w3.heap.size, 0, none⟩ 1 1 [ptr pb] rfl rfl cellsN (by intro u hu; simp at hu; subst hu; rfl) (by unfold maxLen; omega) (by omega) (by have h := HB3.out.size; simp; omega) ?_)
                intro v7 w7 own7 grow7 _ hat7
                have HO7 : Hid (w7.ownsRow w'.heap.size 83 1 v7 NB.length (ptrs NB)) := by
                  show World.ownsRow _ _ _ _ _ _ _
                  rw [← HLX.out.1, ← HLX.out.2]
                  exact own7
                have HT7 : Hid (TrsAt w7 (OldBut w7 v7) (NP.reverse.map Ent.val) NB) := by
                  show TrsAt _ _ _ _
                  rw [← HN2.out]
                  exact pile_next HT3.out grow7 hat7 rfl
                have HB7 : Hid (Below w'.heap.size w' w7) := HBx.out.grown grow7 HBx.out.size (fun k hk => by
                  have e : g = k := Option.some.inj hk
                  rw [← e]
                  exact HG0.out)
                clear own1 own7 grow7 hat7 cellsN
                go_wp2_with fail
                go_roundw
                case rel => exact ⟨j + 1, NP, NB, by omega, by go_num, HF2, HO7, HT7, HB7⟩
                case measure => simp [intOf]; omega
          · have HK : Hid (kindL k vars t = 0) := by
              show _ = _
              by_cases h0 : ownOf op = 0
              · exact kind_stop HX.out (foldK_of_pileT HF.out) (step_own h0)
              · refine kind_stop HX.out (foldK_of_pileT HF.out) (step_kind (x := (op, n)) (by have := HMM.out; have := HPL.out; have := HR.out; simp only; omega) ?_)
                rw [show manyOf (op, n).1 = m from HMM.out.symm]
                refine Classical.byContradiction fun hne => hgood ⟨h0, fun e he => Classical.byContradiction fun hk' => hne ⟨e, he, hk'⟩⟩
            have GE : Hid (∀ (sl : Value) (w1 : World), PtrsAt w1 (Old w1) sl (bs.drop rest) → Below w2.heap.size w2 w1 → Calls Tryd.prog 82 #[.agg #[.int .i64 op, .int .u64 n], sl] w1 fun e w3 => e = .returned (.pointer none) ∧ Below w'.heap.size w' w3) := by
              intro sl w1 hsl hb3
              obtain ⟨h1, h2⟩ := hp1.out
              have h1' : TrsAt w1 (OldBut w1 (.slice ad bs.length cp)) (p.reverse.map Ent.val) bs := TrsAt.frame (fun k hk => ⟨Nat.lt_of_lt_of_le hk.1 hb3.size, hk.2⟩) (fun k hk => hb3.block k hk.1) h1
              have hd := trs_drop h1' rest
              rw [HLP.out.1] at hd
              have hsz : sizes ((p.take m).reverse.map Ent.val) ≤ 1000000 := by
                have h3 := pile_sizes HF.out
                have h4 := sizes_append ((p.reverse.map Ent.val).take rest) ((p.reverse.map Ent.val).drop rest)
                rw [List.take_append_drop, HLP.out.1] at h4
                omega
              refine (nodeOver_mixed op n _ (bs.drop rest) sl w1 (OldBut w1 (.slice ad bs.length cp)) (fun k hk => hk.1) hsl hd ?_ ?_ hsz).mono ?_
              · rw [← HMM.out]
                have := HPL.out
                have := HR.out
                simp
                omega
              · rintro ⟨h0, hall⟩
                refine hgood ⟨h0, fun e he => ?_⟩
                rw [((pileT_ok j p HF.out).1 e (List.mem_of_mem_take he)).2]
                exact hall e.val (List.mem_map.2 ⟨e, by simpa using he, rfl⟩)
              · rintro e w3 ⟨he, hb4⟩
                exact ⟨he, HB2.out.trans ((hb3.trans (hb4.mono hb3.size)).mono HB2.out.size)⟩
            clear hgood HF HLP
            have HSH : Hid _ := hp1.out.2
            rcases HO.out.2 with ⟨hnil, hb0⟩ | ⟨g, cap', cur, hv, hg, hh, hcap1, hcap2, hcap3, hcur⟩
            · have hbs : bs = [] := List.length_eq_zero_iff.1 hb0
              subst hbs
              obtain rfl : rest = 0 := by simp at hr1; exact hr1
              obtain ⟨rfl, rfl⟩ : ad = none ∧ cp = 0 := by
                simp at hnil
                exact hnil
              have GC := fun (w1 : World) (hb3 : Below w2.heap.size w2 w1) => GE.out (.slice none 0 0) w1 ⟨by simp, Or.inl ⟨rfl, none, 0, rfl⟩⟩ hb3
              have hd2 : Below w2.heap.size w2 w2.drew := (Below.refl _ _).drew
              clear hnil hb0 HO hr1 hp1 HSH GE HPL HS
              go_region_with (go_at_call 82; refine (GC _ hd2).mono ?_; rintro e w3 ⟨rfl, hb3⟩; have HB3 : Hid _ := hb3; clear hb3)
              all_goals clear GC hd2
              all_goals
                go_wp2_with fail
                go_ret
                exact ⟨HB3.out, Or.inl ⟨HK.out, rfl⟩⟩
            · obtain ⟨rfl, rfl⟩ : ad = some ⟨g, 0, none⟩ ∧ cap' = cp := by
                simp at hv
                exact ⟨hv.1, hv.2.symm⟩
              have hcap2' : cap' ≤ 9223372036854775807 := hcap2
              have GC := fun (w1 : World) (hb3 : Below w2.heap.size w2 w1) => GE.out _ w1 (own_high (owns_below HSH.out hb3) rfl hr1 hpj) hb3
              obtain ⟨asl, hasl⟩ : ∃ asl, (if cap' = rest then some (⟨g, 0, none⟩ : Addr) else some ⟨g, rest, none⟩) = asl := ⟨_, rfl⟩
              rw [hasl] at GC
              have hd2 : Below w2.heap.size w2 w2.drew := (Below.refl _ _).drew
              clear hv hcur hcap2 hh HO hg hp1 HSH GE HPL HS
              go_region_with (go_at_call 82; refine (GC _ hd2).mono ?_; rintro e w3 ⟨rfl, hb3⟩; have HB3 : Hid _ := hb3; clear hb3)
              all_goals clear GC hd2 hasl
              all_goals
                go_wp2_with fail
                go_ret
                exact ⟨HB3.out, Or.inl ⟨HK.out, rfl⟩⟩
    · obtain rfl : j = t.length := by omega
      have HE := pile_end hk1 hk hv hv4 hl HF.out
      obtain ⟨ad, cp, hv7⟩ := own_shape HO.out
      by_cases h1 : bs.length = 1
      · obtain ⟨b0, rfl⟩ := List.length_eq_one_iff.1 h1
        obtain ⟨e0, rfl⟩ : ∃ e0, p = [e0] := List.length_eq_one_iff.1 hpl
        have hr := HE.2 e0 rfl
        have htr : TrAt wr (Old wr) e0.val b0 := TrAt.frame (fun k hk => hk.1) (fun _ _ => rfl) (HS.out.2 0 e0.val b0 rfl rfl)
        rcases HO.out.2 with ⟨_, hb0⟩ | ⟨g, cap', cur, hv, hg, hh, _⟩
        · simp at hb0
        have hcell := HO.out.cells (g := g) (by rw [hv]; rfl) 0 (ptr b0) rfl
        have hcell' : wr.cell? ⟨g, 0, none⟩ = some (ptr b0) := hcell
        have HR : Hid (Below w'.heap.size w' wr ∧ ∃ r : Tr, pileT k vars t t.length = some [⟨0, r.kind, r⟩] ∧ TrAt wr (Old wr) r b0) := ⟨HB.out, e0.val, hr, htr⟩
        clear hcell hr htr HE hh HO HS HF HB hv7
        subst hv
        go_wp2_with fail
        go_ret
        obtain ⟨h1, r, h2, h4⟩ := HR.out
        exact ⟨h1, Or.inr ⟨r, b0, h2, rfl, h4⟩⟩
      · have HK : Hid (kindL k vars t = 0) := HE.1 (by omega)
        have hne : ((bs.length : Int) != 1) = true := bne_iff_ne.2 (by omega)
        have hb48 : bs.length ≤ 48 := by
          have h1 := foldK_of_pileT HF.out
          have h2 := foldK_len _ _ _ h1
          simp at h2
          omega
        clear HE HF HS HO
        subst hv7
        go_wp2_with fail
        go_ret
        exact ⟨HB.out, Or.inl ⟨HK.out, rfl⟩⟩
theorem kindL_zero {wide vars : Int} {t : List Nd} (h : ¬ 0 < kindL wide vars t) : kindL wide vars t = 0 := by
  have h0 : kindL wide vars t = 0 ∨ 0 < kindL wide vars t := by
    by_cases hg : wideB wide = true ∧ 1 ≤ vars ∧ vars ≤ 4 ∧ 1 ≤ t.length ∧ t.length ≤ 48
    · cases hf : foldK wide vars t [] with
      | none => exact Or.inl (kind_none hf)
      | some q =>
        obtain ⟨p, hp, hq⟩ := pileE_kinds wide vars Tr.leaf Tr.one Tr.two t t.length q (Nat.le_refl _) (by rw [List.take_length]; exact hf)
        rw [kind_end hg (by rw [List.take_length]; exact hf)]
        unfold root1
        split
        · rename_i h1
          right
          obtain ⟨e, rfl⟩ : ∃ e, p = [e] := List.length_eq_one_iff.1 (by rw [← hq] at h1; simpa using h1)
          obtain ⟨k1, k2⟩ := (pileT_ok _ _ hp).1 e (by simp)
          have := Tr.kind_pos k1
          rw [← hq]
          simp
          omega
        · exact Or.inl rfl
    · exact Or.inl (kind_out hg)
  omega
/-- the root of a term that is not good: none -/
theorem rootOf_no (wide vars : Int) (v : Value) (t : List Nd) (w : World) (hT : Tab w) (h : NodesAt w v t) (hk : ¬ 0 < kindL wide vars t) :
    Calls Tryd.prog 53 #[.int .i64 wide, .int .i64 vars, v] w fun e w' => e = .returned (.pointer none) ∧ Below w.heap.size w w' := by
  by_cases hg : wideB wide = true ∧ 1 ≤ vars ∧ vars ≤ 4 ∧ t.length ≤ 48
  · obtain ⟨h1, h2, h3, h4⟩ := hg
    obtain ⟨k, rfl, hk1, hk64⟩ := wideB_true h1
    obtain ⟨hok, hlen, hN⟩ := h
    rcases hN with ⟨rfl, a, cap, rfl⟩ | ⟨b, off, cap, rfl, hlt, hc⟩
    · have g := rootOf_nil k vars a cap h1 ⟨h2, h3⟩ w
      refine g.mono ?_
      rintro e w' ⟨he, rfl⟩
      exact ⟨he, Below.refl _ _⟩
    · refine (rootOf_in k vars b off cap t hk1 hk64 h2 h3 h4 hok w hT hlt hc).mono ?_
      rintro e w' ⟨hb, ⟨_, he⟩ | ⟨r, p, hr, _⟩⟩
      · exact ⟨he, hb⟩
      · exfalso
        have hf := foldK_of_pileT hr
        have hl1 : 1 ≤ t.length := by
          by_cases h0 : 1 ≤ t.length
          · exact h0
          · obtain rfl : t = [] := List.length_eq_zero_iff.1 (by omega)
            simp [pileE] at hr
        have he := kind_end ⟨h1, h2, h3, hl1, h4⟩ hf
        have hkp : r.kind = 1 ∨ r.kind = 2 := Tr.kind_pos ((pileT_ok _ _ hr).1 _ (List.mem_singleton.2 rfl)).1
        simp [root1] at he
        omega
  · obtain ⟨a, cap, rfl⟩ := h.shape
    refine (rootOf_out wide vars a t.length cap h.2.1 hg w).mono ?_
    rintro e w' ⟨he, rfl⟩
    exact ⟨he, Below.refl _ _⟩
theorem rootOf_yes (wide vars : Int) (v : Value) (t : List Nd) (w : World) (hT : Tab w) (h : NodesAt w v t) (r : Tr) (hk : 0 < kindL wide vars t) (hr : pileT wide vars t t.length = some [⟨0, r.kind, r⟩]) :
    Calls Tryd.prog 53 #[.int .i64 wide, .int .i64 vars, v] w fun e w' => ∃ p, e = .returned (ptr p) ∧ TrAt w' (Old w') r p ∧ Below w.heap.size w w' := by
  obtain ⟨h1, h2, h3, h4, h5, _⟩ := root_tree hk
  obtain ⟨k, rfl, hk1, hk64⟩ := wideB_true h1
  obtain ⟨hok, hlen, hN⟩ := h
  rcases hN with ⟨rfl, _⟩ | ⟨b, off, cap, rfl, hlt, hc⟩
  · simp at h4
  refine (rootOf_in k vars b off cap t hk1 hk64 h2 h3 h5 hok w hT hlt hc).mono ?_
  rintro e w' ⟨hb, ⟨h0, _⟩ | ⟨r', p, hr', he, htr⟩⟩
  · omega
  · rw [hr] at hr'
    simp at hr'
    obtain rfl := hr'.2
    exact ⟨p, he, htr, hb⟩
end Go.Proofs.YtpjllhlbdcanlaaDoor

namespace Go.Proofs.YtpjllhlbdcanlaaDoor
open Go Go.RowKit
open M
set_option linter.unusedVariables false

theorem joinTerms_reads0 (wide vars op : Int) (a b : List Nd) (hwide0 : -9223372036854775808 ≤ wide) (hwide1 : wide ≤ 9223372036854775807) (hvars0 : -9223372036854775808 ≤ vars) (hvars1 : vars ≤ 9223372036854775807) (ho0 : -9223372036854775808 ≤ op) (ho1 : op ≤ 9223372036854775807) (hok : ∀ x ∈ a, NdOk x) (hl : a.length ≤ 1048576) (hokb : ∀ x ∈ b, NdOk x) (hlb : b.length ≤ 1048576) :
    ∀ (w1 : World) (B : Nat) (v1 : Value), OwnNodes w1 B v1 (joinL wide vars op a b) → NodesAt w1 v1 (joinL wide vars op a b) := by
  intro w1 B v1 ho
  refine nodes_of_own ?_ ?_ ho
  · intro x hx
    unfold joinL madeL at hx
    split at hx
    · split at hx
      · rcases List.mem_append.1 hx with h | h
        · rcases List.mem_append.1 h with h | h
          · exact hok x h
          · exact hokb x h
        · simp at h
          subst h
          exact ⟨ho0, ho1, by simp, by simp⟩
      · cases hx
    · cases hx
  · unfold joinL madeL
    split
    · split
      · simp
        omega
      · simp
    · simp
theorem joinTerms_len0 (wide vars op : Int) (a b : List Nd) : (joinL wide vars op a b).length ≤ a.length + b.length + 1 := by
  unfold joinL madeL
  split
  · split
    · simp
      omega
    · simp
  · simp
end Go.Proofs.YtpjllhlbdcanlaaDoor

namespace Go.Proofs.YtpjllhlbdcanlaaDoor
open Go Go.RowKit
open M
set_option linter.unusedVariables false

/-- all but a row is as it was, and the row is the old one or a new one -/
def Laid (w w' : World) (v v' : Value) : Prop := w.grownBy w' v.ownBlock ∧ (v'.ownBlock = v.ownBlock ∨ ∃ k, v'.ownBlock = some k ∧ w.heap.size ≤ k)
theorem Laid.refl (w : World) (v : Value) : Laid w w v v := ⟨⟨rfl, rfl, rfl, Nat.le_refl _, fun _ _ _ => rfl⟩, Or.inl rfl⟩
theorem Laid.apart {w w' : World} {v v' : Value} (h : Laid w w' v v') {k : Nat} (hk : OldBut w v k) : OldBut w' v' k ∧ w'.heap[k]? = w.heap[k]? := by
  refine ⟨⟨Nat.lt_of_lt_of_le hk.1 h.1.size, ?_⟩, h.1.block k hk.1 hk.2⟩
  rcases h.2 with e | ⟨g, e, hg⟩
  · rw [e]
    exact hk.2
  · rw [e]
    intro e2
    have := Option.some.inj e2
    have := hk.1
    omega
theorem Laid.trans {w w1 w2 : World} {v v1 v2 : Value} (h : Laid w w1 v v1) (h' : Laid w1 w2 v1 v2) : Laid w w2 v v2 := by
  refine ⟨⟨h'.1.os.trans h.1.os, h'.1.tape.trans h.1.tape, h'.1.output.trans h.1.output, Nat.le_trans h.1.size h'.1.size, fun k hk hne => ?_⟩, ?_⟩
  · have h1 := h.apart (k := k) ⟨hk, hne⟩
    rw [h'.1.block k h1.1.1 h1.1.2]
    exact h1.2
  · rcases h'.2 with e | ⟨g, e, hg⟩
    · rw [e]
      exact h.2
    · exact Or.inr ⟨g, e, Nat.le_trans h.1.size hg⟩
theorem Laid.tree {w w' : World} {v v' : Value} {t : Tr} {b : Nat} (h : Laid w w' v v') (ht : TrAt w (OldBut w v) t b) : TrAt w' (OldBut w' v') t b :=
  TrAt.frame (fun k hk => (h.apart hk).1) (fun k hk => (h.apart hk).2) ht
theorem flats_take {l : List Tr} {j : Nat} {a : Tr} (h : l[j]? = some a) : (l.take (j + 1)).flatMap Tr.flat = (l.take j).flatMap Tr.flat ++ a.flat := by
  rw [List.take_add_one, h, List.flatMap_append]
  simp
theorem PtrsAt.at {w : World} {S : Nat → Prop} {a : Option Addr} {n cap : Nat} {ps : List Nat} (h : PtrsAt w S (.slice a n cap) ps) {j p : Nat} (hp : ps[j]? = some p) : ∃ g off : Nat, a = some ⟨g, off, none⟩ ∧ S g ∧ w.cell? ⟨g, off + j, none⟩ = some (ptr p) := by
  rcases h.2 with ⟨rfl, _⟩ | ⟨g, off, cap', h1, h2, h3⟩
  · simp at hp
  · simp at h1
    exact ⟨g, off, h1.1, h2, h3 j p hp⟩
end Go.Proofs.YtpjllhlbdcanlaaDoor

namespace Go.Proofs.YtpjllhlbdcanlaaDoor
open Go Go.RowKit
open M
set_option linter.unusedVariables false

/-- parts that are not those that the op wants -/
theorem nodeOver_not (op n : Int) (qs : List (Option (Nat × Tr))) (g : Nat) (cap : Nat) (w : World) (hl : qs.length ≤ 48) (hg : g < w.heap.size)
    (hc : ∀ (i : Nat) (q : Option (Nat × Tr)), qs[i]? = some q → w.cell? ⟨g, i, none⟩ = some (pv q))
    (ht : ∀ (b : Nat) (a : Tr), some (b, a) ∈ qs → TrAt w (Old w) a b ∧ a.size ≤ 1000000)
    (hbad : ¬ (¬ ownOf op = 0 ∧ manyOf op = qs.length ∧ ∀ q ∈ qs, ∃ b a, q = some (b, a) ∧ a.kind = partOf op)) :
    Calls Tryd.prog 82 #[.agg #[.int .i64 op, .int .u64 n], .slice (some ⟨g, 0, none⟩) qs.length cap] w fun e w' => e = .returned (.pointer none) ∧ Below w.heap.size w w' := by
  by_cases h0 : ownOf op = 0 ∨ qs.length ≠ manyOf op
  · exact nodeOver_shape op n _ _ cap (by omega) h0 w
  · have h1 : ¬ ownOf op = 0 := fun e => h0 (Or.inl e)
    have h2 : manyOf op = qs.length := Classical.byContradiction fun e => h0 (Or.inr (fun e2 => e e2.symm))
    exact nodeOver_bad op n qs _ cap w h1 h2 (fun i q hq => ⟨g, 0, rfl, hg, by rw [Nat.zero_add]; exact hc i q hq⟩) ht (fun h => hbad ⟨h1, h2, h⟩)
/-- a root that may be none -/
def RootQ (wide vars : Int) (t : List Nd) (q : Option (Nat × Tr)) (w : World) : Prop :=
  match q with
  | none => ¬ 0 < kindL wide vars t
  | some (b, r) => 0 < kindL wide vars t ∧ pileT wide vars t t.length = some [⟨0, r.kind, r⟩] ∧ TrAt w (Old w) r b ∧ r.Ok wide vars ∧ r.flat = t ∧ r.kind = kindL wide vars t ∧ t.length ≤ 48 ∧ wideB wide = true ∧ 1 ≤ vars ∧ vars ≤ 4
theorem RootQ.below {wide vars : Int} {t : List Nd} {q : Option (Nat × Tr)} {w w' : World} (h : RootQ wide vars t q w) (hb : Below w.heap.size w w') : RootQ wide vars t q w' := by
  match q, h with
  | none, h => exact h
  | some (b, r), ⟨h1, h2, h3, h4⟩ => exact ⟨h1, h2, h3.below hb, h4⟩
theorem rootOf_q (wide vars : Int) (v : Value) (t : List Nd) (w : World) (hT : Tab w) (h : NodesAt w v t) :
    Calls Tryd.prog 53 #[.int .i64 wide, .int .i64 vars, v] w fun e w' => ∃ q, e = .returned (pv q) ∧ RootQ wide vars t q w' ∧ Below w.heap.size w w' := by
  by_cases hk : 0 < kindL wide vars t
  · obtain ⟨g1, g2, g3, g4, g5, r, hr, k1, k2, k3⟩ := root_tree hk
    refine (rootOf_yes wide vars v t w hT h r hk hr).mono ?_
    rintro e w' ⟨p, he, htr, hb⟩
    exact ⟨some (p, r), he, ⟨hk, hr, htr, k1, k2, k3, g5, g1, g2, g3⟩, hb⟩
  · refine (rootOf_no wide vars v t w hT h hk).mono ?_
    rintro e w' ⟨he, hb⟩
    exact ⟨none, he, hk, hb⟩
theorem RootQ.tree {wide vars : Int} {t : List Nd} {q : Option (Nat × Tr)} {w : World} (h : RootQ wide vars t q w) : ∀ (b : Nat) (a : Tr), q = some (b, a) → TrAt w (Old w) a b ∧ a.size ≤ 1000000 := by
  rintro b a rfl
  obtain ⟨h1, h2, h3, h4, h5, h6, h7, h8⟩ := h
  refine ⟨h3, ?_⟩
  have := a.flat_len
  rw [h5] at this
  omega
theorem okN_zero {wide vars op : Int} (h : manyOf op ≠ 0) : okN wide vars op 0 = true := by
  unfold okN
  rw [if_neg (by rintro rfl; exact h rfl), if_neg (by rintro rfl; exact h rfl), if_neg (by rintro rfl; exact h rfl)]
  rfl
theorem many_ops {op : Int} (h : manyOf op ≠ 0) : op = 13 ∨ op = 19 ∨ (3 ≤ op ∧ op ≤ 12) ∨ (14 ≤ op ∧ op ≤ 18) := by
  unfold manyOf at h
  split at h
  · omega
  · split at h
    · omega
    · exact absurd rfl h
theorem own_many {op : Int} (h : manyOf op ≠ 0) : ¬ ownOf op = 0 := by
  have := many_ops h
  unfold ownOf
  split
  · decide
  · split
    · decide
    · omega
theorem part_many {op : Int} (h : manyOf op ≠ 0) : 0 < partOf op := by
  have := many_ops h
  unfold partOf
  split
  · decide
  · split
    · decide
    · omega
theorem oneV_cells (w : World) (x : Value) : (w.alloc (.cells #[x] 83)).cell? ⟨w.heap.size, 0, none⟩ = some x := by simp
end Go.Proofs.YtpjllhlbdcanlaaDoor

namespace Go.Proofs.YtpjllhlbdcanlaaDoor
open Go Go.RowKit
open M
set_option linter.unusedVariables false

/-- an op that can be laid out -/
def plainO (op : Int) : Bool := !(op == 6 || op == 7 || op == 11 || op == 12)
def plainX (x : Nd) : Bool := plainO x.1
theorem plainX_true {x : Nd} (h : plainX x = true) : plainN x := by
  simp [plainX, plainO] at h
  exact ⟨h.1.1.1, h.1.1.2, h.1.2, h.2⟩
def plainL (wide vars : Int) (t : List Nd) : Bool := decide (0 < kindL wide vars t) && t.all plainX
/-- what plain does with a tree -/
def PlainP (r : Tr) : Prop := ∀ (b : Nat) (w : World), TrAt w (Old w) r b →
  Calls Tryd.prog 54 #[ptr b] w fun e w' => e = .returned (.bool (r.flat.all plainX)) ∧ Below w.heap.size w w'
set_option maxRecDepth 100000 in
set_option maxHeartbeats 4000000 in
theorem plain_step (r : Tr) (ih : ∀ q ∈ r.parts, PlainP q) : PlainP r := by
  intro b w htr
  have hfl : r.flat.all plainX = (r.parts.all (fun q => q.flat.all plainX) && plainX r.nd) := by
    rw [Tr.flat_eq r, List.all_append, List.all_flatMap]
    simp
  rw [hfl]
  obtain ⟨ps, ⟨hb, n0, n1, _, _, pvl, n4, hpv⟩, hpt⟩ := trAt_open htr
  obtain ⟨pa, pc, hpsh⟩ := hpv.shape
  have hpl2 : ps.length ≤ 2 := by
    have h2 : r.parts.length ≤ 2 := by cases r <;> simp [Tr.parts]
    have := hpt.1
    omega
  obtain ⟨op, hop⟩ : ∃ op, r.nd.1 = op := ⟨_, rfl⟩
  have hpx : plainX r.nd = plainO op := by rw [← hop]; rfl
  rw [hpx]
  rw [hop] at n0
  have HIH : Hid (∀ (j q' : Nat) (q : Tr) (w1 : World), r.parts[j]? = some q → ps[j]? = some q' → Below w.heap.size w w1 → Calls Tryd.prog 54 #[ptr q'] w1 fun e w' => e = .returned (.bool (q.flat.all plainX)) ∧ Below w1.heap.size w1 w') := by
    intro j q' q w1 hq hq' hb1
    exact ih q (List.mem_of_getElem? hq) q' w1 ((hpt.2 j q q' hq hq').below hb1)
  have HPV : Hid _ := hpv
  have HL : Hid (r.parts.length = ps.length) := hpt.1
  subst hpsh
  clear ih hpt hpv htr hfl hpx hop
  by_cases h6 : op = 6
  · subst h6
    rw [show plainO 6 = false from rfl, Bool.and_false]
    go_enter Tryd.func54, Tryd.ntmps54
    go_wp2_with fail
    go_ret
    exact ⟨rfl, Below.refl _ _⟩
  by_cases h7 : op = 7
  · subst h7
    rw [show plainO 7 = false from rfl, Bool.and_false]
    go_enter Tryd.func54, Tryd.ntmps54
    go_wp2_with fail
    go_ret
    exact ⟨rfl, Below.refl _ _⟩
  by_cases h11 : op = 11
  · subst h11
    rw [show plainO 11 = false from rfl, Bool.and_false]
    go_enter Tryd.func54, Tryd.ntmps54
    go_wp2_with fail
    go_ret
    exact ⟨rfl, Below.refl _ _⟩
  by_cases h12 : op = 12
  · subst h12
    rw [show plainO 12 = false from rfl, Bool.and_false]
    go_enter Tryd.func54, Tryd.ntmps54
    go_wp2_with fail
    go_ret
    exact ⟨rfl, Below.refl _ _⟩
  have e6 : (op == 6) = false := beq_eq_false_iff_ne.2 h6
  have e7 : (op == 7) = false := beq_eq_false_iff_ne.2 h7
  have e11 : (op == 11) = false := beq_eq_false_iff_ne.2 h11
  have e12 : (op == 12) = false := beq_eq_false_iff_ne.2 h12
  have hpo : plainO op = true := by simp [plainO, e6, e7, e11, e12]
  rw [hpo, Bool.and_true]
  obtain ⟨z, hz0⟩ : ∃ z, r.parts.all (fun q => q.flat.all plainX) = z := ⟨_, rfl⟩
  rw [hz0]
  have HZ : Hid (r.parts.all (fun q => q.flat.all plainX) = z) := hz0
  clear h6 h7 h11 h12 hpo hz0
  go_enter Tryd.func54, Tryd.ntmps54
  go_wp2_with fail
  go_loopw [20] (fun i wr => ∃ j : Nat, j ≤ ps.length ∧ i = .int .i64 j ∧ Hid ((r.parts.take j).all (fun q => q.flat.all plainX) = true) ∧ Hid (Below w.heap.size w wr)) (fun i _ => ps.length - (intOf i).toNat)
  case atStart => exact ⟨0, by omega, rfl, rfl, Below.refl _ _⟩
  case round =>
    obtain ⟨j, hj, rfl, HA, HB⟩ := hrel
    by_cases hlt' : j < ps.length
    · obtain ⟨p, hp⟩ : ∃ p, ps[j]? = some p := ⟨ps[j], List.getElem?_eq_getElem hlt'⟩
      obtain ⟨q, hq⟩ : ∃ q, r.parts[j]? = some q := ⟨r.parts[j]'(by have := HL.out; omega), List.getElem?_eq_getElem _⟩
      obtain ⟨pg, off, rfl, hg, c0⟩ := PtrsAt.at HPV.out hp
      have c1 : wr.cell? ⟨pg, off + j, none⟩ = some (ptr p) := by
        rw [HB.out.cell (p := ⟨pg, off + j, none⟩) hg]
        exact c0
      have gI := HIH.out j p q wr hq hp HB.out
      have HT : Hid (r.parts.take (j + 1) = r.parts.take j ++ [q]) := by
        show r.parts.take (j + 1) = _
        rw [List.take_add_one, hq]
        rfl
      have HQ : Hid (r.parts[j]? = some q) := hq
      clear hp hq hg c0
      cases hz : q.flat.all plainX with
      | true =>
        have HA2 : Hid ((r.parts.take (j + 1)).all (fun q => q.flat.all plainX) = true) := by
          show (r.parts.take (j + 1)).all (fun q => q.flat.all plainX) = true
          rw [HT.out, List.all_append, HA.out]
          simp [hz]
        rw [hz] at gI
        clear hz
        go_wp2_with fail
        refine gI.mono ?_
        rintro e w2 ⟨rfl, hb2⟩
        have HB2 : Hid (Below w.heap.size w w2) := HB.out.trans (hb2.mono HB.out.size)
        clear gI hb2
        go_wp2_with fail
        go_roundw
        case rel => exact ⟨j + 1, by omega, by go_num, HA2, HB2⟩
        case measure => simp [intOf]; omega
      | false =>
        have HR : Hid (r.parts.all (fun q => q.flat.all plainX) = false) := by
          show r.parts.all (fun q => q.flat.all plainX) = false
          rw [List.all_eq_false]
          exact ⟨q, List.mem_of_getElem? HQ.out, by simp [hz]⟩
        rw [hz] at gI
        clear hz
        obtain rfl : z = false := HZ.out.symm.trans HR.out
        go_wp2_with fail
        refine gI.mono ?_
        rintro e w2 ⟨rfl, hb2⟩
        have HB2 : Hid (Below w.heap.size w w2) := HB.out.trans (hb2.mono HB.out.size)
        clear gI hb2
        go_wp2_with fail
        go_ret
        exact ⟨rfl, HB2.out⟩
    · obtain rfl : j = ps.length := by omega
      have HR : Hid (r.parts.all (fun q => q.flat.all plainX) = true) := by
        have h1 := HA.out
        rw [← HL.out, List.take_length] at h1
        exact h1
      obtain rfl : z = true := HZ.out.symm.trans HR.out
      clear HIH HPV
      go_wp2_with fail
      go_ret
      exact ⟨rfl, HB.out⟩
theorem plain_any : ∀ r : Tr, PlainP r := Tr.ind plain_step
end Go.Proofs.YtpjllhlbdcanlaaDoor

namespace Go.Proofs.YtpjllhlbdcanlaaDoor
open Go
open M
set_option linter.unusedVariables false
set_option linter.unusedSimpArgs false

def NdB (r : Tr) : Prop := ∀ x ∈ r.flat, 0 ≤ x.2 ∧ x.2 ≤ 18446744073709551615
theorem InW.app {S : Int} {A N : List Gt × List Int} (hA : InW S A) (hN : InW (S + A.1.length) N) : InW S (A.1 ++ N.1, N.2) := by
  constructor
  · intro x hx
    have := hN.1 x hx
    simp only [List.length_append]
    omega
  · intro m hm hle g hg
    simp only [List.length_append] at hle
    rcases List.mem_append.1 hg with h | h
    · exact hA.2 m hm (by omega) g h
    · exact hN.2 m hm (by omega) g h
theorem var_fits {W : Nat} {vars n S : Int} (h0 : 0 ≤ n) (h : n < vars) (hS : vars * W ≤ S) : n * W + W ≤ S := by
  have h1 : (n + 1) * (W : Int) ≤ vars * W := Int.mul_le_mul_of_nonneg_right (by omega) (by omega)
  rw [Int.add_mul, Int.one_mul] at h1
  omega
theorem layT_in (W : Nat) (hW1 : 1 ≤ W) (hW4 : W ≤ 4) (vars : Int) : ∀ r : Tr, r.Ok W vars → plainT r → NdB r → ∀ S : Int, 1 ≤ S → vars * W ≤ S → InW S (layT W r S) := by
  apply Tr.ind
  intro r ih hok hp hnd S hS hvS
  obtain ⟨h1, h2, h3⟩ := Tr.ok_nd hok
  have hpar := Tr.ok_parts hok
  have hn0 := hnd r.nd (by rw [Tr.flat_eq r]; simp)
  have hv : ∀ S' : Int, S ≤ S' → r.nd.1 = 2 → 0 ≤ r.nd.2 ∧ r.nd.2 * W + W ≤ S' := by
    intro S' hle e
    refine ⟨hn0.1, ?_⟩
    unfold okN at h2
    rw [if_neg (by omega), if_pos e] at h2
    have := of_decide_eq_true h2
    have := var_fits (W := W) hn0.1 this hvS
    omega
  have hpart : ∀ q ∈ r.parts, ∀ S' : Int, S ≤ S' → InW S' (layT W q S') := fun q hq S' hle => ih q hq (hpar q hq).2 (plainT_parts hp q hq) (fun x hx => hnd x (by rw [Tr.flat_eq r]; exact List.mem_append_left _ (List.mem_flatMap.2 ⟨q, hq, hx⟩))) S' (by omega) (by omega)
  have hlen : ∀ q ∈ r.parts, ∀ S' : Int, (layT W q S').2.length = lenK W (partOf r.nd.1) := fun q hq S' => by
    rw [(layT_len W hW4 q (hpar q hq).2 (plainT_parts hp q hq) S').2, (hpar q hq).1]
  cases r with
  | leaf x => exact layN_in W hW1 hW4 x.1 x.2 [] [] S hS (fun _ => rfl) h1 (hv S (by omega)) (fun x hx => by simp at hx) (fun x hx => by simp at hx)
  | one x a =>
    have ha := hpart a (by simp [Tr.parts]) S (by omega)
    have hN := layN_in W hW1 hW4 x.1 x.2 (layT W a S).2 [] (S + (layT W a S).1.length) (by omega) (fun h => by simp [Tr.nd, Tr.parts] at h3; omega) h1 (hv _ (by omega)) ha.1 (fun x hx => by simp at hx)
    exact ha.app hN
  | two x a b =>
    have ha := hpart a (by simp [Tr.parts]) S (by omega)
    have hb := hpart b (by simp [Tr.parts]) (S + (layT W a S).1.length) (by omega)
    have hN := layN_in W hW1 hW4 x.1 x.2 (layT W a S).2 (layT W b (S + (layT W a S).1.length)).2 (S + (layT W a S).1.length + (layT W b (S + (layT W a S).1.length)).1.length) (by omega) (fun h => by rw [hlen a (by simp [Tr.parts]), hlen b (by simp [Tr.parts])]) h1 (hv _ (by omega)) (fun y hy => by have := ha.1 y hy; omega) hb.1
    have hab := InW.app ha hb
    have e : S + (layT W a S).1.length + (layT W b (S + (layT W a S).1.length)).1.length = S + (((layT W a S).1 ++ (layT W b (S + (layT W a S).1.length)).1).length : Int) := by
      rw [List.length_append]
      omega
    have hN2 : InW (S + (((layT W a S).1 ++ (layT W b (S + (layT W a S).1.length)).1).length : Int)) (layN W x.1 x.2 (layT W a S).2 (layT W b (S + (layT W a S).1.length)).2 (S + (layT W a S).1.length + (layT W b (S + (layT W a S).1.length)).1.length)) := by
      rw [← e]
      exact hN
    exact InW.app (A := ((layT W a S).1 ++ (layT W b (S + (layT W a S).1.length)).1, (layT W b (S + (layT W a S).1.length)).2)) hab hN2
/-- the circuit of a term, whether it is good or not -/
def gatesC (wide vars : Int) (t : List Nd) : Ci := (wide * vars, (layP wide.toNat t [] (wide * vars)).1, (layP wide.toNat t [] (wide * vars)).2.headD [])
def gatesB (wide vars : Int) (t : List Nd) : Bool := plainL wide vars t && (decide (wide ≤ 4) && goodC (gatesC wide vars t))
def gatesR (wide vars : Int) (t : List Nd) : Ci := if gatesB wide vars t = true then gatesC wide vars t else (0, [], [])
/-- of a term that has a tree the circuit is the tree's -/
theorem gatesC_tree {W : Nat} {vars : Int} {t : List Nd} {r : Tr} (hok : r.Ok W vars) (hf : r.flat = t) : gatesC W vars t = ((W : Int) * vars, layT W r ((W : Int) * vars)) := by
  unfold gatesC
  have h := layP_flat W r hok [] [] ((W : Int) * vars)
  rw [List.append_nil, hf] at h
  rw [Int.toNat_natCast, h]
  simp [layP]
theorem gatesC_ok {W : Nat} {vars : Int} {t : List Nd} {r : Tr} (hW1 : 1 ≤ W) (hW4 : W ≤ 4) (hv1 : 1 ≤ vars) (hv4 : vars ≤ 4) (hok : r.Ok W vars) (hp : plainT r) (hnd : NdB r) (hs : r.size ≤ 48) : CiOk ((W : Int) * vars, layT W r ((W : Int) * vars)) := by
  have hS1 : 1 ≤ (W : Int) * vars := Int.mul_pos (by omega) (by omega)
  have hS2 : (W : Int) * vars ≤ 16 := by
    have := Int.mul_le_mul (show (W : Int) ≤ 4 by omega) hv4 (by omega) (by omega)
    omega
  have hI := layT_in W hW1 hW4 vars r hok hp hnd ((W : Int) * vars) hS1 (by rw [Int.mul_comm]; omega)
  have hL := layT_len W hW4 r hok hp ((W : Int) * vars)
  have hk : lenK W r.kind ≤ 4 := by unfold lenK; split <;> omega
  refine ⟨⟨by simp only; omega, by simp only; omega⟩, fun g hg => smG_ok (hI.2 10000 (by omega) (by omega) g hg) (by omega), by simp only; omega, by simp only; omega⟩
end Go.Proofs.YtpjllhlbdcanlaaDoor

namespace Go.Proofs.YtpjllhlbdcanlaaDoor
open Go Go.RowKit
open M
set_option linter.unusedVariables false

theorem bitOf_any (p : Bool) (w : World) : Calls Tryd.prog 70 #[.bool p] w fun e w' => e = .returned (.int .u64 (if p = true then 1 else 0)) ∧ w' = w := by
  cases p
  · go_enter Tryd.func70, Tryd.ntmps70
    go_wp2
    go_ret
    exact ⟨rfl, rfl⟩
  · go_enter Tryd.func70, Tryd.ntmps70
    go_wp2
    go_ret
    exact ⟨rfl, rfl⟩
end Go.Proofs.YtpjllhlbdcanlaaDoor

namespace Go.Proofs.YtpjllhlbdcanlaaDoor
open Go Go.RowKit
open M
set_option linter.unusedVariables false
set_option linter.unusedSimpArgs false

/-- the captured variables of lay -/
def LayC (w : World) (b wide cl cn : Nat) : Prop := CellT w cl 119 (.func (.func 84) #[] #[.pointer (some ⟨cl, 0, none⟩), .pointer (some ⟨cn, 0, none⟩)]) ∧ ∃ nv, CellT w cn 116 nv ∧ NodeV w nv b wide
theorem LayC.keep {w w' : World} {b wide cl cn : Nat} (h : LayC w b wide cl cn) (k : KeepC w w') : LayC w' b wide cl cn := by
  obtain ⟨h1, nv, h2, h3⟩ := h
  exact ⟨h1.keep k, nv, h2.keep k, h3.keep k⟩
def LayP (lo hi b cl cn wide : Nat) (ins : Int) (vars : Int) (r : Tr) : Prop := ∀ (bx : Nat) (G : List Gt) (S : Int) (w : World), ins + G.length = S → G.length + 110 * r.size ≤ 15000 → Bld w lo hi b 41 (ins, G, []) → hi ≤ w.heap.size → LayC w b wide cl cn → TrAt w (fun k => k < lo) r bx → r.Ok wide vars → plainT r → NdB r →
  Calls Tryd.prog 84 #[ptr bx, .pointer (some ⟨cl, 0, none⟩), .pointer (some ⟨cn, 0, none⟩)] w (NodeOut lo hi b ins G [] w (layT wide r S))
theorem KeepT.setOf {t e : TypeId} {w : World} {k o : Nat} {cs : Array Value} {fr : Nat × Nat} {v : Value} (h : w.heap[k]? = some (.cells cs e fr)) (he : e ≠ t) : KeepT t w (w.setCell ⟨k, o, none⟩ v) := ⟨fun i c2 f2 hi => by
  rw [Below.heap_setCell _ _ _ _ (show i ≠ k from fun e1 => by
    rw [e1, h] at hi
    simp only [Option.some.injEq] at hi
    injection hi with _ h8
    exact he h8)]
  exact hi⟩
theorem Bld.keepT {w w' : World} {lo hi b : Nat} {c : Ci} (h : Bld w lo hi b 41 c) (k1 : KeepT 41 w w') (k2 : KeepT 107 w w') (k3 : KeepT 3 w w') : Bld w' lo hi b 41 c := by
  obtain ⟨q0, q1, q2, q3, q4, q5, q6⟩ := h
  exact ⟨q0, q1, q2, ⟨k1.block _ _ _ q3.heap⟩, own_keepT q4 k2, own_keepT q5 k3, q6⟩
theorem KeepC.setNew {u w : World} {k o : Nat} {v : Value} (h : KeepC u w) (hk : u.heap.size ≤ k) : KeepC u (w.setCell ⟨k, o, none⟩ v) := ⟨fun i cs t fr hi n1 n2 n3 => by
  rw [Below.heap_setCell _ _ _ _ (show i ≠ k from fun e => by have := heap_lt hi; omega)]
  exact h.block i cs t fr hi n1 n2 n3⟩
/-- two lists in an array, nil where there is none -/
def twoS (l : List Value) : Array Value := #[l.getD 0 (.slice none 0 0), l.getD 1 (.slice none 0 0)]
theorem twoS_put (l : List Value) (v : Value) (h : l.length < 2) : (twoS l).setIfInBounds l.length v = twoS (l ++ [v]) := by
  match l, h with
  | [], _ => rfl
  | [a], _ => rfl
  | _ :: _ :: _, h => simp at h; omega
/-- rows of wires, one a part -/
def Rows5 (w : World) (B : Nat) (vs : List Value) (Ws : List (List Int)) : Prop := vs.length = Ws.length ∧ ∀ (i : Nat) (v : Value) (x : List Int), vs[i]? = some v → Ws[i]? = some x → w.ownsRow B 3 1 v x.length (cellsI x)
theorem Rows5.keep {w w' : World} {B : Nat} {vs : List Value} {Ws : List (List Int)} (h : Rows5 w B vs Ws) (k : KeepT 3 w w') : Rows5 w' B vs Ws := ⟨h.1, fun i v x h1 h2 => own_keepT (h.2 i v x h1 h2) k⟩
theorem Rows5.snoc {w : World} {B : Nat} {vs : List Value} {Ws : List (List Int)} {v : Value} {x : List Int} (h : Rows5 w B vs Ws) (hv : w.ownsRow B 3 1 v x.length (cellsI x)) : Rows5 w B (vs ++ [v]) (Ws ++ [x]) := by
  refine ⟨by simp [h.1], fun i u y h1 h2 => ?_⟩
  by_cases hi : i < vs.length
  · rw [List.getElem?_append_left hi] at h1
    rw [List.getElem?_append_left (by have := h.1; omega)] at h2
    exact h.2 i u y h1 h2
  · have hi2 : i = vs.length := by
      have := (List.getElem?_eq_some_iff.1 h1).1
      simp at this
      omega
    subst hi2
    simp at h1
    rw [h.1] at h2
    simp at h2
    subst h1 h2
    exact hv
theorem Rows5.at {w : World} {B : Nat} {vs : List Value} {Ws : List (List Int)} (h : Rows5 w B vs Ws) (hl : ∀ x ∈ Ws, x.length ≤ 100) (i : Nat) : CapN (vs.getD i (.slice none 0 0)) ∧ (∃ a c, vs.getD i (.slice none 0 0) = .slice a (Ws.getD i []).length c) ∧ ∀ w', KeepC w w' → IntsAt w' (vs.getD i (.slice none 0 0)) (Ws.getD i []) := by
  by_cases hi : i < vs.length
  · have e1 : vs[i]? = some vs[i] := List.getElem?_eq_getElem hi
    have hi2 : i < Ws.length := by have := h.1; omega
    have e2 : Ws[i]? = some Ws[i] := List.getElem?_eq_getElem hi2
    have ho := h.2 i _ _ e1 e2
    have hx := hl _ (List.getElem_mem hi2)
    rw [List.getD_eq_getElem?_getD, List.getD_eq_getElem?_getD, e1, e2]
    exact ⟨capN_of_own ho, own_shape ho, fun w' k => ints_keep (t := Ws[i]) ho k (by omega)⟩
  · have hi2 : ¬ i < Ws.length := by have := h.1; omega
    rw [List.getD_eq_getElem?_getD, List.getD_eq_getElem?_getD, List.getElem?_eq_none (by omega), List.getElem?_eq_none (by omega)]
    show CapN (.slice none 0 0) ∧ (∃ a c, Value.slice none 0 0 = .slice a 0 c) ∧ ∀ w', KeepC w w' → IntsAt w' (.slice none 0 0) []
    refine ⟨fun a n c e => by injection e with _ e2 e3; omega, ⟨none, 0, rfl⟩, fun w' _ => ?_⟩
    exact ints_of_own (base := 0) (e := 3) (by simp) (World.ownsRow_nil _ _ _ _)
set_option maxRecDepth 100000 in
set_option maxHeartbeats 8000000 in
theorem lay_step (lo hi b cl cn wide : Nat) (hw1 : 1 ≤ wide) (hw4 : wide ≤ 4) (ins vars : Int) (hI0 : 0 ≤ ins) (hI1 : ins ≤ 16) (hv4 : vars ≤ 4) (r : Tr) (ih : ∀ q ∈ r.parts, LayP lo hi b cl cn wide ins vars q) : LayP lo hi b cl cn wide ins vars r := by
  intro bx G S w hS hGn h hhi hC htr hok hpl hnd
  obtain ⟨ps, ⟨hb, n0, n1, _, _, pvl, n4, hpv⟩, hpt⟩ := trAt_open htr
  obtain ⟨pa, pc, hpsh⟩ := hpv.shape
  have hlo := h.size
  have hpl2 : ps.length ≤ 2 := by
    have h2 : r.parts.length ≤ 2 := by cases r <;> simp [Tr.parts]
    have := hpt.1
    omega
  have hbl : bx < lo := hb
  have hbw : bx < w.heap.size := by omega
  obtain ⟨hn1, hn2, hn3⟩ := Tr.ok_nd hok
  have hpar := Tr.ok_parts hok
  have hsz := Tr.size_eq r
  have hQ := fun j => layQ_len wide hw4 (k := wide) (vars := vars) (r.parts.take j) (fun q hq => ⟨(hpar q (List.mem_of_mem_take hq)).2, plainT_parts hpl q (List.mem_of_mem_take hq)⟩) S
  have hsizes : ∀ j, sizes (r.parts.take j) ≤ sizes r.parts := by
    intro j
    have e : r.parts.take j ++ r.parts.drop j = r.parts := List.take_append_drop j r.parts
    have := sizes_append (r.parts.take j) (r.parts.drop j)
    rw [e] at this
    omega
  have HIH : Hid (∀ (j q' : Nat) (q : Tr) (w1 : World), r.parts[j]? = some q → ps[j]? = some q' → Fr lo w w1 → Bld w1 lo hi b 41 (ins, G ++ (layQ wide (r.parts.take j) S).1, []) → Calls Tryd.prog 84 #[ptr q', .pointer (some ⟨cl, 0, none⟩), .pointer (some ⟨cn, 0, none⟩)] w1 (NodeOut lo hi b ins (G ++ (layQ wide (r.parts.take j) S).1) [] w1 (layT wide q (S + (layQ wide (r.parts.take j) S).1.length)))) := by
    intro j q' q w1 hq hq' hf hb1
    have hmem := List.mem_of_getElem? hq
    have hj : j < r.parts.length := (List.getElem?_eq_some_iff.1 hq).1
    have h1 := (hQ j).1
    have h2 : sizes (r.parts.take j) + q.size ≤ sizes r.parts := by
      have e : r.parts.take (j + 1) = r.parts.take j ++ [q] := by rw [List.take_add_one, hq]; rfl
      have h3 := hsizes (j + 1)
      rw [e, sizes_append] at h3
      simp [sizes] at h3
      omega
    refine ih q hmem q' _ _ w1 (by rw [List.length_append]; omega) (by rw [List.length_append]; omega) hb1 (Nat.le_trans hhi hf.size) (hC.keep hf.keep) (TrAt.frame (fun k hk => hk) (fun k hk => hf.bel.block k hk) (hpt.2 j q q' hq hq')) (hpar q hmem).2 (plainT_parts hpl q hmem) (fun x hx => hnd x (by rw [Tr.flat_eq r]; exact List.mem_append_left _ (List.mem_flatMap.2 ⟨q, hmem, hx⟩)))
  obtain ⟨hCl, nv, hCn, hNV⟩ := hC
  obtain ⟨cw, c0, c1, c2, cb, c3, c4, rfl, hNC⟩ := hNV.opened
  have HCL : Hid (∀ w', Fr lo w w' → cl < w'.heap.size ∧ w'.cell? ⟨cl, 0, none⟩ = some (.func (.func 84) #[] #[.pointer (some ⟨cl, 0, none⟩), .pointer (some ⟨cn, 0, none⟩)])) := fun w' hf => (hCl.keep hf.keep).cell
  have HCN : Hid (∀ w', Fr lo w w' → cn < w'.heap.size ∧ w'.cell? ⟨cn, 0, none⟩ = some (.func (.func 107) #[] #[.pointer (some ⟨cw, 0, none⟩), .pointer (some ⟨c0, 0, none⟩), .pointer (some ⟨c1, 0, none⟩), .pointer (some ⟨c2, 0, none⟩), .pointer (some ⟨cb, 0, none⟩), .pointer (some ⟨c3, 0, none⟩), .pointer (some ⟨c4, 0, none⟩)])) := fun w' hf => (hCn.keep hf.keep).cell
  have HNC : Hid (∀ w', Fr lo w w' → NodeC w' b wide cw c0 c1 c2 cb c3 c4) := fun w' hf => by
    obtain ⟨cw', c0', c1', c2', cb', c3', c4', e, hh⟩ := (hNV.keep hf.keep).opened
    simp only [Value.func.injEq, Array.mk.injEq, List.cons.injEq, Value.pointer.injEq, Option.some.injEq, Addr.mk.injEq, and_true, true_and] at e
    obtain ⟨rfl, rfl, rfl, rfl, rfl, rfl, rfl⟩ := e
    exact hh
  have HPV : Hid (∀ (w1 : World), Fr lo w w1 → ∀ (j p : Nat), ps[j]? = some p → ∃ g off : Nat, pa = some ⟨g, off, none⟩ ∧ w1.cell? ⟨g, off + j, none⟩ = some (ptr p)) := by
    intro w1 hf j p hp
    rw [hpsh] at hpv
    obtain ⟨g, off, e, hg, c0⟩ := PtrsAt.at hpv hp
    exact ⟨g, off, e, (hf.bel.cell (p := ⟨g, off + j, none⟩) hg).trans c0⟩
  have HL : Hid (r.parts.length = ps.length) := hpt.1
  subst hpsh
  have n4a : (w.alloc (.cells #[.slice none 0 0, .slice none 0 0] 120)).cell? ⟨bx, 4, none⟩ = some (.slice pa ps.length pc) := by
    rw [← n4]
    exact World.cell?_of_block (w := w) (a := ⟨bx, 4, none⟩) (Below.heap_alloc _ _ _ hbw)
  have HN0 : Hid (∀ w1 : World, Fr lo w w1 → w1.cell? ⟨bx, 0, none⟩ = some (.int .i64 r.nd.1) ∧ w1.cell? ⟨bx, 1, none⟩ = some (.int .u64 r.nd.2)) := fun w1 hf => ⟨(hf.bel.cell (p := ⟨bx, 0, none⟩) hbl).trans n0, (hf.bel.cell (p := ⟨bx, 1, none⟩) hbl).trans n1⟩
  have HB0 : Hid (Bld w lo hi b 41 (ins, G, [])) := h
  have HQQ : Hid (∀ j, (layQ wide (r.parts.take j) S).1.length ≤ 110 * sizes r.parts ∧ (layQ wide (r.parts.take j) S).2.length = (r.parts.take j).length ∧ ∀ (i : Nat) (q : Tr) (x : List Int), (r.parts.take j)[i]? = some q → (layQ wide (r.parts.take j) S).2[i]? = some x → x.length = lenK wide q.kind) := fun j => ⟨Nat.le_trans (hQ j).1 (Nat.mul_le_mul_left _ (hsizes j)), (hQ j).2⟩
  have HOK : Hid (¬ ownOf r.nd.1 = 0 ∧ okN wide vars r.nd.1 r.nd.2 = true ∧ manyOf r.nd.1 = r.parts.length ∧ plainN r.nd ∧ 0 ≤ r.nd.2 ∧ r.nd.2 ≤ 18446744073709551615 ∧ (∀ q ∈ r.parts, q.kind = partOf r.nd.1) ∧ r.size = 1 + sizes r.parts) := by
    have h1 := hnd r.nd (by rw [Tr.flat_eq r]; simp)
    exact ⟨hn1, hn2, hn3, plainT_nd hpl, h1.1, h1.2, fun q hq => (hpar q hq).1, hsz⟩
  clear ih hpt hpv htr h hnd hpl hok hpar hQ hsizes hn1 hn2 hn3 hsz hCl hCn hNV hNC n0 n1 n4 hb
  go_enter Tryd.func84, Tryd.ntmps84
  go_wp2_with fail
  go_loopw [13] (fun i wr => ∃ j : Nat, j ≤ ps.length ∧ i = .int .i64 j ∧ ∃ vs : List Value, Hid (vs.length = j) ∧ Hid (wr.heap[w.heap.size]? = some (.cells (twoS vs) 120 (0, 0))) ∧ Hid (Rows5 wr w.heap.size vs (layQ wide (r.parts.take j) S).2) ∧ Hid (Bld wr lo hi b 41 (ins, G ++ (layQ wide (r.parts.take j) S).1, [])) ∧ Hid (Fr lo w wr)) (fun i _ => ps.length - (intOf i).toNat)
  case atStart =>
    refine ⟨0, by omega, rfl, [], rfl, ?_, ⟨rfl, fun i v x h1 _ => by simp at h1⟩, ?_, (Fr.refl _ _).alloc hlo _⟩
    · show (w.heap.push _)[w.heap.size]? = _
      simp [twoS]
    · show Bld _ lo hi b 41 (ins, G ++ [], [])
      rw [List.append_nil]
      exact Bld.alloc HB0.out _
  case round =>
    obtain ⟨j, hj, rfl, vs, HVL, HH, HR, HB, HF⟩ := hrel
    by_cases hlt' : j < ps.length
    · obtain ⟨p, hp⟩ : ∃ p, ps[j]? = some p := ⟨ps[j], List.getElem?_eq_getElem hlt'⟩
      obtain ⟨q, hq⟩ : ∃ q, r.parts[j]? = some q := ⟨r.parts[j]'(by have := HL.out; omega), List.getElem?_eq_getElem _⟩
      obtain ⟨g, off, rfl, c0'⟩ := HPV.out wr HF.out j p hp
      obtain ⟨l1, c1'⟩ := HCL.out wr HF.out
      have gI := HIH.out j p q wr hq hp HF.out HB.out
      have HE : Hid (layQ wide (r.parts.take (j + 1)) S = ((layQ wide (r.parts.take j) S).1 ++ (layT wide q (S + (layQ wide (r.parts.take j) S).1.length)).1, (layQ wide (r.parts.take j) S).2 ++ [(layT wide q (S + (layQ wide (r.parts.take j) S).1.length)).2])) := by
        show layQ wide (r.parts.take (j + 1)) S = _
        rw [List.take_add_one, hq, ← layQ_snoc]
        rfl
      have hlw : w.heap.size < wr.heap.size := heap_lt HH.out
      have hjA : (j : Int) < (ps.length : Int) := by omega
      clear hp hq
      generalize hT : layT wide q (S + (layQ wide (r.parts.take j) S).1.length) = T at *
      clear hT
      go_wp2_with fail
      refine gI.mono ?_
      rintro e w2 ⟨v2, rfl, o2, b2, f2⟩
      obtain ⟨va, vc, hv2⟩ := own_shape o2
      have HH2 : Hid (w2.heap[w.heap.size]? = some (.cells (twoS vs) 120 (0, 0))) := f2.keep.block _ _ _ _ HH.out (by decide) (by decide) (by decide)
      have HF2 : Hid (Fr lo w w2) := HF.out.trans f2
      have d0 : ∃ u, w2.cell? ⟨w.heap.size, j, none⟩ = some u := by
        rw [cell_heap HH2.out]
        rcases (show j = 0 ∨ j = 1 by omega) with rfl | rfl
        · exact ⟨_, rfl⟩
        · exact ⟨_, rfl⟩
      obtain ⟨u0, d0⟩ := d0
      have f0 := frozen_heap (o := j) HH2.out
      have HH3 : Hid ((w2.setCell ⟨w.heap.size, j, none⟩ v2).heap[w.heap.size]? = some (.cells (twoS (vs ++ [v2])) 120 (0, 0))) := by
        show (w2.setCell ⟨w.heap.size, j, none⟩ v2).heap[w.heap.size]? = _
        rw [heap_set HH2.out]
        have hh := twoS_put vs v2 (by have := HVL.out; omega)
        rw [HVL.out] at hh
        rw [hh]
      have k3 : KeepT 3 w2 (w2.setCell ⟨w.heap.size, j, none⟩ v2) := KeepT.setOf HH2.out (by decide)
      have HB3 : Hid (Bld (w2.setCell ⟨w.heap.size, j, none⟩ v2) lo hi b 41 (ins, G ++ (layQ wide (r.parts.take (j + 1)) S).1, [])) := by
        have h1 := Bld.keepT b2 (KeepT.setOf HH2.out (by decide)) (KeepT.setOf HH2.out (by decide)) k3
        rw [List.append_assoc] at h1
        rw [HE.out]
        exact h1
      have HR3 : Hid (Rows5 (w2.setCell ⟨w.heap.size, j, none⟩ v2) w.heap.size (vs ++ [v2]) (layQ wide (r.parts.take (j + 1)) S).2) := by
        rw [HE.out]
        exact ((HR.out.keep f2.keep.int).snoc (own_base o2 HF.out.size)).keep k3
      have HF3 : Hid (Fr lo w (w2.setCell ⟨w.heap.size, j, none⟩ v2)) := ⟨HF2.out.bel.setCell (p := ⟨w.heap.size, j, none⟩) hlo _, HF2.out.keep.setNew (Nat.le_refl _)⟩
      have HVL3 : Hid ((vs ++ [v2]).length = j + 1) := by
        show (vs ++ [v2]).length = j + 1
        rw [List.length_append, HVL.out]
        rfl
      subst hv2
      clear gI o2 b2 f2 k3 HH HR HB HF HVL HH2 HF2 HE
      go_wp2_with fail
      go_roundw
      case rel => exact ⟨j + 1, by omega, by go_num, _, HVL3, HH3, HR3, HB3, HF3⟩
      case measure => simp [intOf]; omega
    · obtain rfl : j = ps.length := by omega
      have htk : r.parts.take ps.length = r.parts := by rw [← HL.out, List.take_length]
      have hq := HQQ.out ps.length
      rw [htk] at HR HB hq
      obtain ⟨Q, hQe⟩ : ∃ Q, layQ wide r.parts S = Q := ⟨_, rfl⟩
      rw [hQe] at HR HB hq
      obtain ⟨hq1, hq2, hq3⟩ := hq
      obtain ⟨ho1, ho2, ho3, ho4, ho5, ho6, ho7, ho8⟩ := HOK.out
      have hlenk : ∀ k : Int, lenK wide k ≤ 4 := fun k => by unfold lenK; split <;> omega
      have hall : ∀ x ∈ Q.2, x.length ≤ 100 := by
        intro x hx
        obtain ⟨i, hi⟩ := List.getElem?_of_mem hx
        have hil := (List.getElem?_eq_some_iff.1 hi).1
        have h1 := hq3 i _ x (List.getElem?_eq_getElem (by omega)) hi
        have := hlenk (r.parts[i]'(by omega)).kind
        omega
      have hget : ∀ i, i < r.parts.length → (Q.2.getD i []).length = lenK wide (partOf r.nd.1) := by
        intro i hi
        have e2 : Q.2[i]? = some (Q.2[i]'(by omega)) := List.getElem?_eq_getElem _
        have h1 := hq3 i _ _ (List.getElem?_eq_getElem hi) e2
        rw [List.getD_eq_getElem?_getD, e2]
        show (Q.2[i]'(by omega)).length = _
        rw [h1, ho7 _ (List.getElem_mem hi)]
      obtain ⟨cap0, ⟨a0, k0, e0⟩, i0⟩ := HR.out.at hall 0
      obtain ⟨cap1, ⟨a1, k1, e1⟩, i1⟩ := HR.out.at hall 1
      have d0 := cell_heap (o := 0) HH.out
      have d1 := cell_heap (o := 1) HH.out
      simp only [twoS, List.getElem?_toArray, List.getElem?_cons_succ, List.getElem?_cons_zero] at d0 d1
      rw [e0] at d0 cap0 i0
      rw [e1] at d1 cap1 i1
      have hv2 : r.nd.1 = 2 → r.nd.2 ≤ 4 := by
        intro h2
        unfold okN at ho2
        rw [if_neg (by omega), if_pos h2] at ho2
        have := of_decide_eq_true ho2
        omega
      have GN : Hid (∀ w9 : World, (w9 = wr ∨ w9 = wr.drew) → Calls Tryd.prog 107 #[.agg #[.int .i64 r.nd.1, .int .u64 r.nd.2], .slice a0 (Q.2.getD 0 []).length k0, .slice a1 (Q.2.getD 1 []).length k1, .pointer (some ⟨cw, 0, none⟩), .pointer (some ⟨c0, 0, none⟩), .pointer (some ⟨c1, 0, none⟩), .pointer (some ⟨c2, 0, none⟩), .pointer (some ⟨cb, 0, none⟩), .pointer (some ⟨c3, 0, none⟩), .pointer (some ⟨c4, 0, none⟩)] w9 (NodeOut lo hi b ins G [] w (layT wide r S))) := by
        intro w9 h9
        have hf9 : Fr lo wr w9 := by
          rcases h9 with rfl | rfl
          · exact Fr.refl _ _
          · exact (Fr.refl _ _).drew
        have hb9 : Bld w9 lo hi b 41 (ins, G ++ Q.1, []) := by
          rcases h9 with rfl | rfl
          · exact HB.out
          · exact Bld.drew HB.out
        have hfw : Fr lo w w9 := HF.out.trans hf9
        have g := iNode_any lo hi b wide cw c0 c1 c2 cb c3 c4 hw1 hw4 ins (G ++ Q.1) [] r.nd.1 r.nd.2 (.slice a0 (Q.2.getD 0 []).length k0) (.slice a1 (Q.2.getD 1 []).length k1) (Q.2.getD 0 []) (Q.2.getD 1 []) (S + Q.1.length) (by rw [List.length_append]; omega) hI0 hI1 (by rw [List.length_append]; omega) w9 hb9 (Nat.le_trans hhi hfw.size) (HNC.out w9 hfw) ho1 ho4 ho5 ho6 hv2 (fun hm => hget 0 (by omega)) (fun hm => hget 1 (by omega)) cap0 cap1 (fun w' hf => i0 w' (hf9.keep.trans hf.keep)) (fun w' hf => i1 w' (hf9.keep.trans hf.keep))
        refine g.mono ?_
        rintro e w' ⟨v, rfl, o, bl, fr⟩
        rw [layT_eq, hQe]
        exact ⟨v, rfl, own_base o hfw.size, (by rw [List.append_assoc] at bl; exact bl), hfw.trans fr⟩
      obtain ⟨m0, m1⟩ := HN0.out wr HF.out
      obtain ⟨l2, c2'⟩ := HCN.out wr HF.out
      have hbx : bx < wr.heap.size := Nat.lt_of_lt_of_le hbw HF.out.size
      have hlw : w.heap.size < wr.heap.size := heap_lt HH.out
      clear HIH HPV HL HQQ HOK HNC HCL HCN HN0 HR HB HB0 HH HVL htk hq1 hq2 hq3 ho1 ho2 ho3 ho4 ho5 ho6 ho7 ho8 hlenk hall hget hv2 i0 i1 cap0 cap1 e0 e1 hQe n4a hGn
      generalize r.nd.1 = op at *
      generalize r.nd.2 = nn at *
      generalize (Q.2.getD 0 []).length = n0 at *
      generalize (Q.2.getD 1 []).length = n1 at *
      generalize layT wide r S = RR at *
      go_wp2_with fail
      go_region_with (go_at_call 107; refine (GN.out _ (by first | exact Or.inl rfl | exact Or.inr rfl)).mono ?_; rintro e w9 ⟨r9, rfl, h9⟩; have H9 : Hid _ := h9; clear h9)
      all_goals
        go_wp2_with fail
        go_ret
        exact ⟨_, rfl, H9.out⟩
theorem layR_any (lo hi b cl cn wide : Nat) (hw1 : 1 ≤ wide) (hw4 : wide ≤ 4) (ins vars : Int) (hI0 : 0 ≤ ins) (hI1 : ins ≤ 16) (hv4 : vars ≤ 4) : ∀ r : Tr, LayP lo hi b cl cn wide ins vars r := Tr.ind (fun r ih => lay_step lo hi b cl cn wide hw1 hw4 ins vars hI0 hI1 hv4 r ih)
end Go.Proofs.YtpjllhlbdcanlaaDoor

namespace Go.Proofs.YtpjllhlbdcanlaaDoor
open Go Go.RowKit
open M
set_option linter.unusedVariables false

set_option maxRecDepth 100000 in
set_option maxHeartbeats 4000000 in
theorem sIsPlain_any (wide vars : Int) (v : Value) (t : List Nd) (w : World) (h : NodesAt w v t) :
    Calls Tryd.prog 49 #[.int .i64 wide, .int .i64 vars, v] w fun e w' => e = .returned (.tuple #[.bool (plainL wide vars t), .bool (decide (0 < kindL wide vars t))]) ∧ Below w.heap.size w w' := by
  have g := goodTerm_any wide vars v t w h
  by_cases hk : 0 < kindL wide vars t
  · unfold plainL
    rw [decide_eq_true hk] at g ⊢
    rw [Bool.true_and]
    obtain ⟨z, hz0⟩ : ∃ z, t.all plainX = z := ⟨_, rfl⟩
    rw [hz0]
    have HZ : Hid (t.all plainX = z) := hz0
    have hne : t ≠ [] := by
      obtain ⟨_, _, _, h1, _⟩ := root_tree hk
      intro e
      rw [e] at h1
      simp at h1
    obtain ⟨_, hl, h3⟩ := h
    rcases h3 with ⟨rfl, _⟩ | ⟨b, off, cap, rfl, hlt, hc⟩
    · exact absurd rfl hne
    have HC : Hid (∀ (w' : World), Below w.heap.size w w' → ∀ (i : Nat) (x : Nd), t[i]? = some x → w'.cell? ⟨b, off + i * 2, none⟩ = some (.int .i64 x.1) ∧ w'.cell? ⟨b, off + i * 2 + 1, none⟩ = some (.int .u64 x.2)) := by
      intro w' hb i x hx
      obtain ⟨h1, h2⟩ := hc i x hx
      exact ⟨(hb.cell (p := ⟨b, off + i * 2, none⟩) hlt).trans h1, (hb.cell (p := ⟨b, off + i * 2 + 1, none⟩) hlt).trans h2⟩
    have HLT : Hid (b < w.heap.size) := hlt
    clear hk hne hc hz0 hlt
    generalize hn : t.length = n at *
    have HL : Hid (t.length = n) := hn
    clear hn
    go_enter Tryd.func49, Tryd.ntmps49
    go_wp2_with fail
    refine g.mono ?_
    rintro e w1 ⟨rfl, hb1⟩
    have HB1 : Hid _ := hb1
    clear g hb1
    go_wp2_with fail
    go_loopw [17] (fun i wr => ∃ j : Nat, j ≤ n ∧ i = .int .i64 j ∧ Hid ((t.take j).all plainX = true) ∧ Hid (Below w.heap.size w wr)) (fun i _ => n - (intOf i).toNat)
    case atStart => exact ⟨0, by omega, rfl, rfl, HB1⟩
    case round =>
      obtain ⟨j, hj, rfl, HA, HB⟩ := hrel
      clear HB1
      by_cases hlt' : j < n
      · obtain ⟨x, hx⟩ : ∃ x, t[j]? = some x := ⟨t[j]'(by have := HL.out; omega), List.getElem?_eq_getElem _⟩
        obtain ⟨c0, c1⟩ := HC.out wr HB.out j x hx
        have hbl : b < wr.heap.size := Nat.lt_of_lt_of_le HLT.out HB.out.size
        have HT : Hid (t.take (j + 1) = t.take j ++ [x]) := by
          show t.take (j + 1) = _
          rw [List.take_add_one, hx]
          rfl
        have HX : Hid (t[j]? = some x) := hx
        have hjA : (j : Int) < (n : Int) := by omega
        obtain ⟨op, N⟩ := x
        simp only at c0 c1
        have HBa : Hid (Below w.heap.size w (wr.alloc (.cells #[.int .i64 op, .int .u64 N] 80))) := HB.out.alloc HB.out.size _
        clear hx HC
        by_cases hp : op = 6 ∨ op = 7 ∨ op = 11 ∨ op = 12
        · have HR : Hid (t.all plainX = false) := by
            show t.all plainX = false
            rw [List.all_eq_false]
            refine ⟨_, List.mem_of_getElem? HX.out, ?_⟩
            rcases hp with rfl | rfl | rfl | rfl <;> simp [plainX, plainO]
          obtain rfl : z = false := HZ.out.symm.trans HR.out
          rcases hp with rfl | rfl | rfl | rfl
          all_goals
            go_wp2_with fail
            go_ret2
            exact ⟨rfl, HBa.out⟩
        · have h6 : ¬ op = 6 := fun e => hp (Or.inl e)
          have h7 : ¬ op = 7 := fun e => hp (Or.inr (Or.inl e))
          have h11 : ¬ op = 11 := fun e => hp (Or.inr (Or.inr (Or.inl e)))
          have h12 : ¬ op = 12 := fun e => hp (Or.inr (Or.inr (Or.inr e)))
          have e6 : (op == 6) = false := beq_eq_false_iff_ne.2 h6
          have e7 : (op == 7) = false := beq_eq_false_iff_ne.2 h7
          have e11 : (op == 11) = false := beq_eq_false_iff_ne.2 h11
          have e12 : (op == 12) = false := beq_eq_false_iff_ne.2 h12
          have HA2 : Hid ((t.take (j + 1)).all plainX = true) := by
            show (t.take (j + 1)).all plainX = true
            rw [HT.out, List.all_append, HA.out]
            simp [plainX, plainO, h6, h7, h11, h12]
          clear hp h6 h7 h11 h12 HT HX
          go_wp2_with fail
          go_roundw
          case rel => exact ⟨j + 1, by omega, by go_num, HA2, HBa⟩
          case measure => simp [intOf]; omega
      · obtain rfl : j = n := by omega
        have HR : Hid (t.all plainX = true) := by
          have h1 := HA.out
          rw [← HL.out, List.take_length] at h1
          exact h1
        obtain rfl : z = true := HZ.out.symm.trans HR.out
        clear HC
        go_wp2_with fail
        go_ret2
        exact ⟨rfl, HB.out⟩
  · unfold plainL
    rw [decide_eq_false hk] at g ⊢
    rw [Bool.false_and]
    clear hk h
    go_enter Tryd.func49, Tryd.ntmps49
    go_wp2_with fail
    refine g.mono ?_
    rintro e w' ⟨rfl, hb⟩
    have HB : Hid _ := hb
    clear g hb
    go_wp2_with fail
    go_ret2
    exact ⟨rfl, HB.out⟩
end Go.Proofs.YtpjllhlbdcanlaaDoor

namespace Go.Proofs.YtpjllhlbdcanlaaDoor
open Go Go.RowKit
open M
set_option linter.unusedVariables false
set_option linter.unusedSimpArgs false

theorem infoIS : (Tryd.prog.info? 39).map (fun i => (i.zero, i.size, i.bytes)) = some (some (.slice none 0 0), 1, 24) := by kernel_rfl
theorem rows_slice {w : World} {B : Nat} {vs : List Value} {P : List (List Int)} (h : Rows5 w B vs P) : ∀ u ∈ vs, ∃ a n c, u = .slice a n c := by
  intro u hu
  obtain ⟨i, hi⟩ := List.getElem?_of_mem hu
  have hl := (List.getElem?_eq_some_iff.1 hi).1
  have hx : P[i]? = some (P[i]'(by have := h.1; omega)) := List.getElem?_eq_getElem _
  obtain ⟨a, c, e⟩ := own_shape (h.2 i u _ hi hx)
  exact ⟨a, _, c, e⟩
theorem rows_one {w : World} {B : Nat} {vs : List Value} {P : List (List Int)} (h : Rows5 w B vs P) : ∀ u ∈ vs, u.oneCell' = true := by
  intro u hu
  obtain ⟨a, n, c, rfl⟩ := rows_slice h u hu
  rfl
theorem own_emptyS (w : World) (base : Nat) (hb : base ≤ w.heap.size) : (w.alloc (.cells #[] 39)).ownsRow base 39 1 (.slice (some ⟨w.heap.size, 0, none⟩) 0 0) 0 [] := by
  refine ⟨rfl, Or.inr ⟨w.heap.size, 0, #[], rfl, hb, ?_, Nat.le_refl _, by unfold maxLen; omega, rfl, rfl⟩⟩
  show (w.heap.push _)[w.heap.size]? = _
  simp
/-- the first m of a row of one's own, to be appended -/
theorem src_take {w : World} {B : Nat} {a : Option Addr} {n cap m : Nat} {vs : List Value} {e : TypeId} (h : w.ownsRow B e 1 (.slice a n cap) n vs) (hm : m ≤ n) : Src w (.slice a m cap) m (vs.take m) := by
  have h0 := h
  have hl : vs.length = n := by have := h.1; omega
  rcases h.2 with ⟨h1, h2⟩ | ⟨g, cap', cur, h1, _, hh, _⟩
  · left
    injection h1 with e1 e2 e3
    subst e1 e3
    obtain rfl : m = 0 := by omega
    exact ⟨rfl, by simp, rfl⟩
  · right
    injection h1 with e1 e2 e3
    subst e1
    refine ⟨g, cap, rfl, heap_lt hh, ?_⟩
    intro j u hu
    have hj : j < m ∧ vs[j]? = some u := by
      rw [List.getElem?_take] at hu
      split at hu
      · exact ⟨by assumption, hu⟩
      · cases hu
    have h2 := h0.cellAt j (by omega)
    rw [Addr.add_lit, Nat.zero_add]
    rw [h2]
    exact hj.2
theorem Rows5.take {w : World} {B : Nat} {vs : List Value} {P : List (List Int)} (h : Rows5 w B vs P) (m : Nat) : Rows5 w B (vs.take m) (P.take m) := by
  refine ⟨by simp [h.1], fun i v x h1 h2 => ?_⟩
  rw [List.getElem?_take] at h1 h2
  split at h1
  · rename_i hi
    rw [if_pos hi] at h2
    exact h.2 i v x h1 h2
  · cases h1
/-- what is known ahead of a node: the pile's row, its rows, the circuit -/
structure PileAt (w1 w : World) (b : Nat) (ins : Int) (pv : Value) (vs : List Value) (P : List (List Int)) (G : List Gt) : Prop where
  row : w.ownsRow w1.heap.size 39 1 pv vs.length vs
  rows : Rows5 w w1.heap.size vs P
  bld : Bld w b b b 99 (ins, G, [])
  fr : Fr b w1 w
theorem PileAt.step {w1 w w' : World} {b : Nat} {ins : Int} {pv : Value} {vs : List Value} {P : List (List Int)} {G G' : List Gt} (h : PileAt w1 w b ins pv vs P G) (hf : Fr b w w') (hb : Bld w' b b b 99 (ins, G', [])) : PileAt w1 w' b ins pv vs P G' :=
  ⟨own_keepC h.row hf.keep (by decide) (by decide) (by decide), h.rows.keep hf.keep.int, hb, h.fr.trans hf⟩
theorem PileAt.alloc {w1 w : World} {b : Nat} {ins : Int} {pv : Value} {vs : List Value} {P : List (List Int)} {G : List Gt} (h : PileAt w1 w b ins pv vs P G) (o : Obj) : PileAt w1 (w.alloc o) b ins pv vs P G :=
  h.step ((Fr.refl _ _).alloc h.bld.size _) (Bld.alloc h.bld o)
/-- the pile behind a node: a new row -/
theorem pile5_next {w1 w2 w4 w6 : World} {b : Nat} {ins : Int} {pv : Value} {vs : List Value} {P : List (List Int)} {G : List Gt} {made v4 v6 : Value} {R : List Int} {m : Nat}
    (h : PileAt w1 w2 b ins pv vs P G) (hb1 : b ≤ w1.heap.size) (hm : m ≤ vs.length) (hr : w2.ownsRow w1.heap.size 3 1 made R.length (cellsI R))
    (own4 : w4.ownsRow w1.heap.size 39 1 v4 m (vs.take m)) (g4 : (w2.alloc (.cells #[] 39)).grownBy w4 (Value.slice (some ⟨w2.heap.size, 0, none⟩) 0 0).ownBlock) (hv4 : ∀ k, v4.ownBlock = some k → w2.heap.size ≤ k)
    (own6 : w6.ownsRow w1.heap.size 39 1 v6 (m + 1) (vs.take m ++ [made])) (g6 : (w4.alloc (.cells #[made] 39)).grownBy w6 v4.ownBlock) :
    PileAt w1 w6 b ins v6 (vs.take m ++ [made]) (P.take m ++ [R]) G := by
  have hs12 := h.fr.size
  have f3 : Fr b w2 (w2.alloc (.cells #[] 39)) := (Fr.refl _ _).alloc h.bld.size _
  have f4 : Fr b w2 w4 := f3.grown g4 (by omega) (fun k hk => by
    have e : w2.heap.size = k := Option.some.inj hk
    omega)
  have hs4 := f4.size
  have f5 : Fr b w2 (w4.alloc (.cells #[made] 39)) := f4.alloc (by omega) _
  have f6 : Fr b w2 w6 := f5.grown g6 (by omega) hv4
  have e0 : w2.ownsRow w2.heap.size 39 1 (.slice none 0 0) 0 [] := World.ownsRow_nil _ _ _ _
  have k34 : ∀ t : TypeId, 39 ≠ t → KeepT t w2 w6 := by
    intro t ht
    have a1 : KeepT t w2 (w2.alloc (.cells #[] 39)) := KeepT.alloc _ _ _
    have a2 : KeepT t (w2.alloc (.cells #[] 39)) w4 := KeepT.grown (own_emptyS w2 w2.heap.size (Nat.le_refl _)) g4 ht
    have a3 : KeepT t w4 (w4.alloc (.cells #[made] 39)) := KeepT.alloc _ _ _
    have a4 : KeepT t (w4.alloc (.cells #[made] 39)) w6 := KeepT.grown (own4.alloc _) g6 ht
    exact ((a1.trans a2).trans a3).trans a4
  have hB : Bld w6 b b b 99 (ins, G, []) := by
    obtain ⟨q0, q1, q2, q3, q4, q5, q6⟩ := h.bld
    exact ⟨q0, q1, q2, ⟨(k34 _ (by decide)).block _ _ _ q3.heap⟩, own_keepT q4 (k34 _ (by decide)), own_keepT q5 (k34 _ (by decide)), q6⟩
  have hl : (vs.take m ++ [made]).length = m + 1 := by rw [List.length_append, List.length_take]; simp; omega
  refine ⟨by rw [hl]; exact own6, ?_, hB, h.fr.trans f6⟩
  exact ((h.rows.take m).snoc hr).keep (k34 _ (by decide))
end Go.Proofs.YtpjllhlbdcanlaaDoor

namespace Go.Proofs.YtpjllhlbdcanlaaDoor
open Go Go.RowKit
open M
set_option linter.unusedVariables false
set_option linter.unusedSimpArgs false

/-- what is known of the pile ahead of node j -/
structure PileM (W : Nat) (V ins : Int) (t : List Nd) (j : Nat) (x : Nd) : Prop where
  cnt : (layP W (t.take j) [] ins).2.length ≤ j
  len : (layP W (t.take j) [] ins).1.length ≤ 110 * j
  many : manyOf x.1 ≤ (layP W (t.take j) [] ins).2.length
  one : 1 ≤ manyOf x.1 → (firstP x.1 (layP W (t.take j) [] ins).2).length = lenK W (partOf x.1) ∧ (layP W (t.take j) [] ins).2[(layP W (t.take j) [] ins).2.length - manyOf x.1]? = some (firstP x.1 (layP W (t.take j) [] ins).2)
  two : manyOf x.1 = 2 → (secondP x.1 (layP W (t.take j) [] ins).2).length = lenK W (partOf x.1) ∧ (layP W (t.take j) [] ins).2[(layP W (t.take j) [] ins).2.length - 1]? = some (secondP x.1 (layP W (t.take j) [] ins).2)
  made : (layN W x.1 x.2 (firstP x.1 (layP W (t.take j) [] ins).2) (secondP x.1 (layP W (t.take j) [] ins).2) (ins + (layP W (t.take j) [] ins).1.length)).2.length = lenK W (ownOf x.1)
  own : ¬ ownOf x.1 = 0
  cases : manyOf x.1 = 0 ∨ manyOf x.1 = 1 ∨ manyOf x.1 = 2
  next1 : (layP W (t.take (j + 1)) [] ins).1 = (layP W (t.take j) [] ins).1 ++ (layN W x.1 x.2 (firstP x.1 (layP W (t.take j) [] ins).2) (secondP x.1 (layP W (t.take j) [] ins).2) (ins + (layP W (t.take j) [] ins).1.length)).1
  next2 : (layP W (t.take (j + 1)) [] ins).2 = (layP W (t.take j) [] ins).2.take ((layP W (t.take j) [] ins).2.length - manyOf x.1) ++ [(layN W x.1 x.2 (firstP x.1 (layP W (t.take j) [] ins).2) (secondP x.1 (layP W (t.take j) [] ins).2) (ins + (layP W (t.take j) [] ins).1.length)).2]
theorem pileM_of {W : Nat} (hW4 : W ≤ 4) {V ins k : Int} {t : List Nd} (hp : ∀ x ∈ t, plainN x) (hf : foldK W V t [] = some [k]) {j : Nat} {x : Nd} (hx : t[j]? = some x) : PileM W V ins t j x := by
  have hj : j < t.length := (List.getElem?_eq_some_iff.1 hx).1
  obtain ⟨ks, hks⟩ : ∃ ks, foldK W V (t.take j) [] = some ks := by
    cases e : foldK W V (t.take j) [] with
    | none => rw [foldK_none e] at hf; cases hf
    | some ks => exact ⟨ks, rfl⟩
  obtain ⟨ks', hks'⟩ : ∃ ks', stepK W V ks x = some ks' := by
    have h1 := foldK_take hx hks
    cases e : foldK W V (t.take (j + 1)) [] with
    | none => rw [foldK_none e] at hf; cases hf
    | some ks' => exact ⟨ks', by rw [← h1]; exact e⟩
  obtain ⟨l1, l2⟩ := layP_lens W hW4 (t.take j) [] [] ks ins rfl (fun y hy => hp y (List.mem_of_mem_take hy)) hks
  obtain ⟨s1, s2, s3, s4, s5, s6⟩ := pile_step hW4 l1 (hp x (List.mem_of_getElem? hx)) hks' (ins + (layP W (t.take j) [] ins).1.length)
  obtain ⟨c1, c2, c3⟩ := stepK_cases hks'
  have e : t.take (j + 1) = t.take j ++ [x] := by rw [List.take_add_one, hx]; rfl
  have hap := layP_append W (t.take j) [x] [] ins
  rw [← e] at hap
  have hcnt : (layP W (t.take j) [] ins).2.length ≤ j := by
    have h1 := congrArg List.length l1
    simp only [List.length_map] at h1
    have h2 := foldK_len (t.take j) [] ks hks
    rw [List.length_take_of_le (by omega)] at h2
    simp at h2
    omega
  refine ⟨hcnt, by rw [List.length_take_of_le (by omega)] at l2; exact l2, s1, s2, s3, s5, c1, ?_, ?_, ?_⟩
  · rcases c3 with ⟨h, _⟩ | ⟨h, _⟩ | ⟨h, _⟩
    · exact Or.inl h
    · exact Or.inr (Or.inl h)
    · exact Or.inr (Or.inr h)
  · rw [hap]
    simp only [layP, List.append_nil]
  · rw [hap]
    simp only [layP]
theorem pile_last {W : Nat} (hW4 : W ≤ 4) {V ins k : Int} {t : List Nd} (hp : ∀ x ∈ t, plainN x) (hf : foldK W V t [] = some [k]) : ∃ R, (layP W t [] ins).2 = [R] := by
  obtain ⟨l1, _⟩ := layP_lens W hW4 t [] [] [k] ins rfl hp hf
  unfold LensOk at l1
  match h : (layP W t [] ins).2, l1 with
  | [R], _ => exact ⟨R, rfl⟩
  | [], l1 => simp at l1
  | _ :: _ :: _, l1 => simp at l1
theorem ownI_low {w : World} {B C n : Nat} {e : TypeId} {s : Nat} {v : Value} {xs : List Value} (h : w.ownsRow B e s v n xs) (hc : C ≤ B) : w.ownsRow C e s v n xs := own_base h hc
theorem src_alloc {w : World} {v : Value} {n : Nat} {xs : List Value} (h : Src w v n xs) (o : Obj) : Src (w.alloc o) v n xs := h.below ((Below.refl _ _).alloc (Nat.le_refl _) o)
theorem oneS_cells (w : World) (a : Option Addr) (n c : Nat) : ∀ (j : Nat) (u : Value), ([.slice a n c] : List Value)[j]? = some u → (w.alloc (.cells #[.slice a n c] 39)).cell? ((⟨w.heap.size, 0, none⟩ : Addr).add j) = some u := by
  intro j u hu
  match j with
  | 0 => simp at hu; subst hu; simp [Addr.add]
  | j + 1 => simp at hu
theorem slice_one (a : Option Addr) (n c : Nat) : ∀ u ∈ ([.slice a n c] : List Value), u.oneCell' = true := by
  intro u hu
  simp at hu
  subst hu
  rfl
set_option maxRecDepth 100000 in
set_option maxHeartbeats 32000000 in
theorem sGates_in (W V : Nat) (hW1 : 1 ≤ W) (hW4 : W ≤ 4) (hV1 : 1 ≤ V) (hV4 : V ≤ 4) (bt off cap : Nat) (t : List Nd) (hl48 : t.length ≤ 48) (hok : ∀ x ∈ t, NdOk x) (hpl : ∀ x ∈ t, plainN x) (hvr : ∀ x ∈ t, x.1 = 2 → x.2 < V) (kk : Int) (hf : foldK W V t [] = some [kk]) (w : World) (hlt : bt < w.heap.size)
    (hc : ∀ (i : Nat) (x : Nd), t[i]? = some x → w.cell? ⟨bt, off + i * 2, none⟩ = some (.int .i64 x.1) ∧ w.cell? ⟨bt, off + i * 2 + 1, none⟩ = some (.int .u64 x.2)) :
    Calls Tryd.prog 50 #[.int .i64 W, .int .i64 V, .slice (some ⟨bt, off, none⟩) t.length cap] w fun e w' => ∃ r, e = .returned r ∧ OwnCirc w' w.heap.size w'.heap.size r (gatesC W V t) ∧ Below w.heap.size w w' := by
  obtain ⟨i0, hif, hz0, hz1, hz2⟩ := info_parts infoInt
  obtain ⟨j0, hjf, hy0, hy1, hy2⟩ := info_parts infoIS
  obtain ⟨ins, hins⟩ : ∃ ins : Int, (W : Int) * (V : Int) = ins := ⟨_, rfl⟩
  have hI : 0 ≤ ins ∧ ins ≤ 16 := by
    have h1 : W * V ≤ 4 * 4 := Nat.mul_le_mul hW4 hV4
    have h2 : ((W * V : Nat) : Int) = ins := by rw [← hins]; exact Int.natCast_mul W V
    omega
  obtain ⟨hI0, hI16⟩ := hI
  have HGC : Hid (gatesC W V t = (ins, (layP W t [] ins).1, (layP W t [] ins).2.headD [])) := by
    show gatesC W V t = _
    unfold gatesC
    rw [hins, Int.toNat_natCast]
  rw [HGC.out]
  have HPM : Hid (∀ (j : Nat) (x : Nd), t[j]? = some x → PileM W V ins t j x) := fun j x hx => pileM_of hW4 hpl hf hx
  have HLAST : Hid (∃ R, (layP W t [] ins).2 = [R]) := pile_last hW4 hpl hf
  have HND : Hid (∀ (j : Nat) (x : Nd), t[j]? = some x → NdOk x ∧ plainN x ∧ (x.1 = 2 → x.2 < V)) := fun j x hx => ⟨hok x (List.mem_of_getElem? hx), hpl x (List.mem_of_getElem? hx), hvr x (List.mem_of_getElem? hx)⟩
  have HC : Hid (∀ w' : World, Below w.heap.size w w' → ∀ (i : Nat) (x : Nd), t[i]? = some x → w'.cell? ⟨bt, off + i * 2, none⟩ = some (.int .i64 x.1) ∧ w'.cell? ⟨bt, off + i * 2 + 1, none⟩ = some (.int .u64 x.2)) := fun w' hb i x hx =>
    ⟨(hb.cell (p := ⟨bt, off + i * 2, none⟩) hlt).trans (hc i x hx).1, (hb.cell (p := ⟨bt, off + i * 2 + 1, none⟩) hlt).trans (hc i x hx).2⟩
  have HLT : Hid (bt < w.heap.size) := hlt
  have x0 := (box3_alloc w 41 (.int .i64 0) (.slice none 0 0) (.slice none 0 0)).alloc (.cells #[.int .i64 ins, .slice none 0 0, .slice none 0 0] 99)
  have x1 := box3_alloc (w.alloc (.cells #[.int .i64 0, .slice none 0 0, .slice none 0 0] 41)) 99 (.int .i64 ins) (.slice none 0 0) (.slice none 0 0)
  have hb1 : Below w.heap.size w ((w.alloc (.cells #[.int .i64 0, .slice none 0 0, .slice none 0 0] 41)).alloc (.cells #[.int .i64 ins, .slice none 0 0, .slice none 0 0] 99)) := ((Below.refl _ _).alloc (Nat.le_refl _) _).alloc (by rw [World.size_alloc]; omega) _
  have hs1 : ((w.alloc (.cells #[.int .i64 0, .slice none 0 0, .slice none 0 0] 41)).alloc (.cells #[.int .i64 ins, .slice none 0 0, .slice none 0 0] 99)).heap.size = w.heap.size + 1 + 1 := by simp only [World.size_alloc]
  simp only [World.size_alloc] at x1
  clear hf hok hpl hvr hc hlt
  generalize hnn : t.length = n at *
  have HN : Hid (t.length = n) := hnn
  clear hnn
  go_enter Tryd.func50, Tryd.ntmps50
  go_wp2_with fail
  generalize ((w.alloc (.cells #[.int .i64 0, .slice none 0 0, .slice none 0 0] 41)).alloc (.cells #[.int .i64 ins, .slice none 0 0, .slice none 0 0] 99)) = w1 at *
  have HP0 : Hid (PileAt w1 w1 (w.heap.size + 1) ins (.slice none 0 0) [] [] []) := by
    refine ⟨World.ownsRow_nil _ _ _ _, ⟨rfl, fun i v x h1 _ => by simp at h1⟩, ⟨Nat.le_refl _, _, _, x1, World.ownsRow_nil _ _ _ _, World.ownsRow_nil _ _ _ _, fun k hk => by cases hk⟩, Fr.refl _ _⟩
  have HX0 : Hid (Box3 w1 w.heap.size 41 (.int .i64 0) (.slice none 0 0) (.slice none 0 0)) := x0
  have HB1 : Hid (Below w.heap.size w w1) := hb1
  have HBW1 : Hid (w.heap.size + 1 ≤ w1.heap.size) := (by omega : w.heap.size + 1 ≤ w1.heap.size)
  have HBW : Hid (∀ w' : World, Below (w.heap.size + 1) w1 w' → Below w.heap.size w w') := fun w' hb => HB1.out.trans (hb.mono (by omega))
  clear x0 x1 hb1 hins
  go_loopw [8, 25] (fun pv i wr => ∃ (j : Nat) (vs : List Value), j ≤ n ∧ i = .int .i64 j ∧ Hid (PileAt w1 wr (w.heap.size + 1) ins pv vs (layP W (t.take j) [] ins).2 (layP W (t.take j) [] ins).1)) (fun _ i _ => n - (intOf i).toNat)
  case atStart => exact ⟨0, [], by omega, rfl, HP0⟩
  case round =>
    obtain ⟨j, vs, hj, rfl, HP⟩ := hrel
    clear HP0
    generalize wr = wo at *
    by_cases hlt' : j < n
    · obtain ⟨x, hx⟩ : ∃ x, t[j]? = some x := ⟨t[j]'(by have := HN.out; omega), List.getElem?_eq_getElem _⟩
      obtain ⟨hcnt, hlen, hmany, hone_, htwo_, hmade, hown, hcases, hn1, hn2⟩ := HPM.out j x hx
      obtain ⟨hndo, hxp, hxv⟩ := HND.out j x hx
      obtain ⟨c0, c1⟩ := HC.out wo (HBW.out wo HP.out.fr.bel) j x hx
      have hbl : bt < wo.heap.size := Nat.lt_of_lt_of_le HLT.out (HBW.out wo HP.out.fr.bel).size
      have hvm := HP.out.rows.1
      obtain ⟨op, N⟩ := x
      simp only at hmany hone_ htwo_ hmade hown hcases hn1 hn2 hndo hxv c0 c1
      generalize (layP W (t.take j) [] ins).1 = G at *
      generalize (layP W (t.take j) [] ins).2 = P at *
      obtain ⟨m, hm⟩ : ∃ m, P.length = m := ⟨_, rfl⟩
      rw [hm] at hcnt hmany hone_ htwo_ hvm hn2
      have HVM : Hid (vs.length = m) := hvm
      have HPLEN : Hid (P.length = m) := hm
      have HONE : Hid (∀ u ∈ vs, u.oneCell' = true) := rows_one HP.out.rows
      obtain ⟨pa, pc, hpv⟩ := own_shape HP.out.row
      subst hpv
      have hpc : m ≤ pc := by have h := capN_of_own HP.out.row _ _ _ rfl; rw [HVM.out] at h; exact h
      rw [HVM.out] at HP ⊢
      obtain ⟨S0, hS⟩ : ∃ S0 : Int, ins + (G.length : Int) = S0 := ⟨_, rfl⟩
      rw [hS] at hn1 hn2
      have hGl : G.length ≤ 5280 := by omega
      have hN0 : 0 ≤ N := hndo.2.2.1
      have hN1 : N ≤ 18446744073709551615 := hndo.2.2.2
      have hop : -9223372036854775808 ≤ op ∧ op ≤ 9223372036854775807 := ⟨hndo.1, hndo.2.1⟩
      obtain ⟨hop0, hop1⟩ := hop
      have hjA : (j : Int) < (n : Int) := by omega
      have HPv := HP.out.alloc (.cells #[.int .i64 op, .int .u64 N] 80)
      have nd0 : (wo.alloc (.cells #[.int .i64 op, .int .u64 N] 80)).heap[wo.heap.size]? = some (.cells #[.int .i64 op, .int .u64 N] 80 (0, 0)) := by show (wo.heap.push _)[wo.heap.size]? = _; simp
      have hneed := fun w2 => l2Need_any op w2
      clear hx hm hvm hmade hndo HP hlen
      go_wp2_with fail
      refine (hneed _).mono ?_
      rintro e w2 ⟨rfl, rfl⟩
      clear hneed
      generalize hwv : (wo.alloc (.cells #[.int .i64 op, .int .u64 N] 80)) = wv at *
      clear hwv
      have HPV : Hid (PileAt w1 wv (w.heap.size + 1) ins (.slice pa m pc) vs P G) := HPv
      have hbv : w.heap.size + 1 ≤ wv.heap.size := by have h1 := HPv.fr.size; have h2 := HBW1.out; omega
      have HCELL : Hid (∀ w' : World, Fr (w.heap.size + 1) wv w' → wo.heap.size < w'.heap.size ∧ w'.cell? ⟨wo.heap.size, 0, none⟩ = some (.int .i64 op) ∧ w'.cell? ⟨wo.heap.size, 1, none⟩ = some (.int .u64 N)) := fun w' hf => by
        have h1 := hf.keep.block _ _ _ _ nd0 (by decide) (by decide) (by decide)
        refine ⟨heap_lt h1, ?_, ?_⟩ <;> simp [World.cell?, h1]
      obtain ⟨hwl, nc0, nc1⟩ := HCELL.out wv (Fr.refl _ _)
      have hm48 : m ≤ 48 := by omega
      clear nd0 HPv hbl c0 c1
      by_cases e2 : op = 2
      · subst e2
        obtain ⟨q, hq⟩ : ∃ q : Int, N * (W : Int) = q := ⟨_, rfl⟩
        have hNV : N < V := hxv rfl
        obtain ⟨Nn, rfl⟩ := Int.eq_ofNat_of_zero_le hN0
        have hq0 : 0 ≤ q ∧ q ≤ 16 := by
          have h1 : Nn * W ≤ 4 * 4 := Nat.mul_le_mul (by omega) hW4
          have h2 : ((Nn * W : Nat) : Int) = q := by rw [← hq]; exact Int.natCast_mul Nn W
          omega
        obtain ⟨hq0, hq1⟩ := hq0
        have hNw : IntKind.i64.wrap (Nn : Int) = (Nn : Int) := IntWalk.i64_in _ ⟨by omega, by omega⟩
        have hm0 : manyOf 2 = 0 := by decide
        have hmo : ((manyOf 2 : Nat) : Int) = 0 := by rw [hm0]; rfl
        rw [hm0, Nat.sub_zero] at hn2
        have HN1 : Hid ((layP W (t.take (j + 1)) [] ins).1 = G) := by
          show (layP W (t.take (j + 1)) [] ins).1 = G
          rw [hn1]
          simp (config := {decide := true}) only [layN, if_true, if_false, List.append_nil]
        have HN2 : Hid ((layP W (t.take (j + 1)) [] ins).2 = P.take m ++ [wiresF q W]) := by
          show (layP W (t.take (j + 1)) [] ins).2 = P.take m ++ [wiresF q W]
          rw [hn2]
          simp (config := {decide := true}) only [layN, if_true, if_false, hq]
        clear hn1 hn2 hone_ htwo_ hown hcases hmany
        go_wp2_with fail
        go_loopw [14, 16] (fun v i wr => ∃ k : Nat, k ≤ W ∧ i = .int .i64 k ∧ Hid (wr.ownsRow wv.heap.size 3 1 v k (cellsI (wiresF q k))) ∧ Hid (Bld wr (w.heap.size + 1) (w.heap.size + 1) (w.heap.size + 1) 99 (ins, G, [])) ∧ Hid (Fr (w.heap.size + 1) wv wr)) (fun _ i _ => W - (intOf i).toNat)
        case atStart => exact ⟨0, by omega, rfl, World.ownsRow_nil _ _ _ _, HPV.out.bld, Fr.refl _ _⟩
        case round =>
          obtain ⟨k, hk, rfl, HOk, HBk, HFk⟩ := hrel
          by_cases hkW : k < W
          · obtain ⟨va, vc, hv⟩ := own_shape HOk.out
            subst hv
            obtain ⟨hwl2, nd0, nd1⟩ := HCELL.out _ HFk.out
            have hsf := HFk.out.size
            obtain ⟨z, hz⟩ : ∃ z : Int, q + (k : Int) = z := ⟨_, rfl⟩
            have hzz : 0 ≤ z ∧ z ≤ 32 := by omega
            obtain ⟨hz8, hz9⟩ := hzz
            have own6 := HOk.out.alloc (.cells #[.int .i64 z] 3)
            have hF6 : Fr (w.heap.size + 1) wv (wr.alloc (.cells #[.int .i64 z] 3)) := HFk.out.alloc (by omega) _
            have hB6 := Bld.alloc HBk.out (.cells #[.int .i64 z] 3)
            have hs6 : wv.heap.size ≤ (wr.alloc (.cells #[.int .i64 z] 3)).heap.size := hF6.size
            have HZ : Hid (wiresF q (k + 1) = wiresF q k ++ [z]) := by
              show wiresF q (k + 1) = _
              rw [wiresF_snoc, hz]
            have hkA : (k : Int) < (W : Int) := by omega
            clear HOk HBk HFk
            go_wp2_with (at_builtin; refine wpList_append_own _ rfl _ _ 39 rfl wv.heap.size 3 i0 (.int .i64 0) 1 8 Tryd.underlying39 hif hz0 hz1 hz2 rfl (by decide) _ _ _ rfl own6 ⟨wr.heap.size, 0, none⟩ 1 1 [.int .i64 z] rfl rfl (oneI_cells wr z) (ints_one [z]) (by unfold maxLen; omega) (by omega) hs6 ?_)
            intro v7 w7 own7 grow7 _
            have HB7 : Hid (Bld w7 (w.heap.size + 1) (w.heap.size + 1) (w.heap.size + 1) 99 (ins, G, [])) := hB6.sum own6 hbv (by decide) grow7
            have HF7 : Hid (Fr (w.heap.size + 1) wv w7) := hF6.grown grow7 hbv (fun kk hk => (own_block own6 hk).1)
            have HO7 : Hid (w7.ownsRow wv.heap.size 3 1 v7 (k + 1) (cellsI (wiresF q (k + 1)))) := by
              show w7.ownsRow wv.heap.size 3 1 v7 (k + 1) (cellsI (wiresF q (k + 1)))
              rw [HZ.out]
              unfold cellsI
              rw [List.map_append]
              exact own7
            clear own6 own7 grow7 hB6 hF6 HZ
            go_wp2_with fail
            go_roundw
            case rel => exact ⟨k + 1, by omega, by go_num, HO7, HB7, HF7⟩
            case measure => simp [intOf]; omega
          · obtain rfl : W = k := by omega
            have HPN : Hid (PileAt w1 wr (w.heap.size + 1) ins (.slice pa m pc) vs P G) := HPV.out.step HFk.out HBk.out
            have hsf := HFk.out.size
            have HR : Hid (wr.ownsRow w1.heap.size 3 1 u14 (wiresF q W).length (cellsI (wiresF q W))) := by
              show wr.ownsRow w1.heap.size 3 1 u14 (wiresF q W).length (cellsI (wiresF q W))
              rw [wiresF_len]
              exact own_base HOk.out HPV.out.fr.size
            clear HOk HBk HFk
            rcases (show (pa = none ∧ m = 0 ∧ pc = 0) ∨ ∃ g, pa = some ⟨g, 0, none⟩ from by
                rcases HPN.out.row.2 with ⟨h1, _⟩ | ⟨g, cp, cu, h1, _⟩
                · injection h1 with h2 h3 h4; exact Or.inl ⟨h2, h3, h4⟩
                · injection h1 with h2 _ _; exact Or.inr ⟨g, h2⟩) with ⟨rfl, rfl, rfl⟩ | ⟨g, rfl⟩
            ·
              obtain ⟨ma, mc, hmv⟩ := own_shape HR.out
              subst hmv
              have hrow := HPN.out.row
              rw [HVM.out] at hrow
              have hsrc := src_alloc (src_take (m := 0) hrow (by omega)) (.cells #[] 39)
              have own3 := own_emptyS wr wr.heap.size (Nat.le_refl _)
              have hs3 : wr.heap.size ≤ (wr.alloc (.cells #[] 39)).heap.size := by rw [World.size_alloc]; omega
              have htl : (vs.take 0).length = 0 * 1 := by rw [List.length_take, HVM.out]; omega
              have hone := fun u hu => HONE.out u (List.mem_of_mem_take (i := 0) hu)
              go_wp2_with (at_builtin; refine wpList_append_src rfl _ _ 100 rfl wr.heap.size 39 j0 (.slice none 0 0) 1 24 Tryd.underlying100 hjf hy0 hy1 hy2 rfl (by decide) _ 0 [] rfl own3 (.slice none 0 0) 0 (vs.take 0) rfl hsrc htl hone (by unfold maxLen; omega) (by omega) hs3 ?_)
              intro v4 w4 own4 g4
              try rw [Nat.zero_add] at own4
              try rw [List.nil_append] at own4
              obtain ⟨qa, qc, hqv⟩ := own_shape own4
              subst hqv
              have own5 := own4.alloc (.cells #[.slice ma (wiresF q W).length mc] 39)
              have hs5 : wr.heap.size ≤ (w4.alloc (.cells #[.slice ma (wiresF q W).length mc] 39)).heap.size := by have := g4.size; rw [World.size_alloc] at this ⊢; omega
              go_wp2_with (at_builtin; refine wpList_append_own _ rfl _ _ 100 rfl wr.heap.size 39 j0 (.slice none 0 0) 1 24 Tryd.underlying100 hjf hy0 hy1 hy2 rfl (by decide) _ _ _ rfl own5 ⟨w4.heap.size, 0, none⟩ 1 1 [.slice ma (wiresF q W).length mc] rfl rfl (oneS_cells w4 ma (wiresF q W).length mc) (slice_one ma (wiresF q W).length mc) (by unfold maxLen; omega) (by omega) hs5 ?_)
              intro v6 w6 own6 g6 _
              have hwn := HPN.out.fr.size
              have HP6 : Hid (PileAt w1 w6 (w.heap.size + 1) ins v6 (vs.take 0 ++ [.slice ma (wiresF q W).length mc]) (layP W (t.take (j + 1)) [] ins).2 (layP W (t.take (j + 1)) [] ins).1) := by
                have h1 := pile5_next (m := 0) HPN.out HBW1.out (by rw [HVM.out]; omega) HR.out (ownI_low own4 hwn) g4 (fun k hk => (own_block own4 hk).1) (ownI_low own6 hwn) g6
                show PileAt w1 w6 (w.heap.size + 1) ins v6 (vs.take 0 ++ [.slice ma (wiresF q W).length mc]) (layP W (t.take (j + 1)) [] ins).2 (layP W (t.take (j + 1)) [] ins).1
                rw [HN1.out, HN2.out]
                exact h1
              clear own3 own4 own5 own6 g4 g6 hsrc hrow
              go_wp2_with fail
              go_roundw
              case rel => exact ⟨j + 1, _, by omega, by go_num, HP6⟩
              case measure => simp [intOf]; omega
            ·
              obtain ⟨ma, mc, hmv⟩ := own_shape HR.out
              subst hmv
              have hrow := HPN.out.row
              rw [HVM.out] at hrow
              have hsrc := src_alloc (src_take (m := m) hrow (by omega)) (.cells #[] 39)
              have own3 := own_emptyS wr wr.heap.size (Nat.le_refl _)
              have hs3 : wr.heap.size ≤ (wr.alloc (.cells #[] 39)).heap.size := by rw [World.size_alloc]; omega
              have htl : (vs.take m).length = m * 1 := by rw [List.length_take, HVM.out]; omega
              have hone := fun u hu => HONE.out u (List.mem_of_mem_take (i := m) hu)
              go_wp2_with (at_builtin; refine wpList_append_src rfl _ _ 100 rfl wr.heap.size 39 j0 (.slice none 0 0) 1 24 Tryd.underlying100 hjf hy0 hy1 hy2 rfl (by decide) _ 0 [] rfl own3 (.slice (some ⟨g, 0, none⟩) m pc) m (vs.take m) rfl hsrc htl hone (by unfold maxLen; omega) (by omega) hs3 ?_)
              intro v4 w4 own4 g4
              try rw [Nat.zero_add] at own4
              try rw [List.nil_append] at own4
              obtain ⟨qa, qc, hqv⟩ := own_shape own4
              subst hqv
              have own5 := own4.alloc (.cells #[.slice ma (wiresF q W).length mc] 39)
              have hs5 : wr.heap.size ≤ (w4.alloc (.cells #[.slice ma (wiresF q W).length mc] 39)).heap.size := by have := g4.size; rw [World.size_alloc] at this ⊢; omega
              go_wp2_with (at_builtin; refine wpList_append_own _ rfl _ _ 100 rfl wr.heap.size 39 j0 (.slice none 0 0) 1 24 Tryd.underlying100 hjf hy0 hy1 hy2 rfl (by decide) _ _ _ rfl own5 ⟨w4.heap.size, 0, none⟩ 1 1 [.slice ma (wiresF q W).length mc] rfl rfl (oneS_cells w4 ma (wiresF q W).length mc) (slice_one ma (wiresF q W).length mc) (by unfold maxLen; omega) (by omega) hs5 ?_)
              intro v6 w6 own6 g6 _
              have hwn := HPN.out.fr.size
              have HP6 : Hid (PileAt w1 w6 (w.heap.size + 1) ins v6 (vs.take m ++ [.slice ma (wiresF q W).length mc]) (layP W (t.take (j + 1)) [] ins).2 (layP W (t.take (j + 1)) [] ins).1) := by
                have h1 := pile5_next (m := m) HPN.out HBW1.out (by rw [HVM.out]; omega) HR.out (ownI_low own4 hwn) g4 (fun k hk => (own_block own4 hk).1) (ownI_low own6 hwn) g6
                show PileAt w1 w6 (w.heap.size + 1) ins v6 (vs.take m ++ [.slice ma (wiresF q W).length mc]) (layP W (t.take (j + 1)) [] ins).2 (layP W (t.take (j + 1)) [] ins).1
                rw [HN1.out, HN2.out]
                exact h1
              clear own3 own4 own5 own6 g4 g6 hsrc hrow
              go_wp2_with fail
              go_roundw
              case rel => exact ⟨j + 1, _, by omega, by go_num, HP6⟩
              case measure => simp [intOf]; omega
      by_cases e1 : op = 1
      · subst e1
        have hm0 : manyOf 1 = 0 := by decide
        have hmo : ((manyOf 1 : Nat) : Int) = 0 := by rw [hm0]; rfl
        rw [hm0, Nat.sub_zero] at hn2
        have HN1 : Hid ((layP W (t.take (j + 1)) [] ins).1 = G ++ bitsG N W) := by
          show (layP W (t.take (j + 1)) [] ins).1 = G ++ bitsG N W
          rw [hn1]
          simp (config := {decide := true}) only [layN, if_true, if_false]
        have HN2 : Hid ((layP W (t.take (j + 1)) [] ins).2 = P.take m ++ [wiresF S0 W]) := by
          show (layP W (t.take (j + 1)) [] ins).2 = P.take m ++ [wiresF S0 W]
          rw [hn2]
          simp (config := {decide := true}) only [layN, if_true, if_false]
        clear hn1 hn2 hone_ htwo_ hown hcases hmany hxv
        go_wp2_with fail
        refine (sBits5_any (w.heap.size + 1) (w.heap.size + 1) (w.heap.size + 1) ins G [] W (by omega) N hN0 hN1 S0 hS hI0 hI16 (by omega) _ HPV.out.bld hbv).mono ?_
        rintro e w3 ⟨r3, rfl, hr3, hb3, hf3⟩
        have HPN : Hid (PileAt w1 w3 (w.heap.size + 1) ins (.slice pa m pc) vs P (G ++ bitsG N W)) := HPV.out.step hf3 hb3
        have HR : Hid (w3.ownsRow w1.heap.size 3 1 r3 (wiresF S0 W).length (cellsI (wiresF S0 W))) := by
          show w3.ownsRow w1.heap.size 3 1 r3 (wiresF S0 W).length (cellsI (wiresF S0 W))
          rw [wiresF_len]
          exact own_base hr3 HPV.out.fr.size
        have hsf := hf3.size
        clear hr3 hb3 hf3
        rcases (show (pa = none ∧ m = 0 ∧ pc = 0) ∨ ∃ g, pa = some ⟨g, 0, none⟩ from by
            rcases HPN.out.row.2 with ⟨h1, _⟩ | ⟨g, cp, cu, h1, _⟩
            · injection h1 with h2 h3 h4; exact Or.inl ⟨h2, h3, h4⟩
            · injection h1 with h2 _ _; exact Or.inr ⟨g, h2⟩) with ⟨rfl, rfl, rfl⟩ | ⟨g, rfl⟩
        ·
          obtain ⟨ma, mc, hmv⟩ := own_shape HR.out
          subst hmv
          have hrow := HPN.out.row
          rw [HVM.out] at hrow
          have hsrc := src_alloc (src_take (m := 0) hrow (by omega)) (.cells #[] 39)
          have own3 := own_emptyS w3 w3.heap.size (Nat.le_refl _)
          have hs3 : w3.heap.size ≤ (w3.alloc (.cells #[] 39)).heap.size := by rw [World.size_alloc]; omega
          have htl : (vs.take 0).length = 0 * 1 := by rw [List.length_take, HVM.out]; omega
          have hone := fun u hu => HONE.out u (List.mem_of_mem_take (i := 0) hu)
          go_wp2_with (at_builtin; refine wpList_append_src rfl _ _ 100 rfl w3.heap.size 39 j0 (.slice none 0 0) 1 24 Tryd.underlying100 hjf hy0 hy1 hy2 rfl (by decide) _ 0 [] rfl own3 (.slice none 0 0) 0 (vs.take 0) rfl hsrc htl hone (by unfold maxLen; omega) (by omega) hs3 ?_)
          intro v4 w4 own4 g4
          try rw [Nat.zero_add] at own4
          try rw [List.nil_append] at own4
          obtain ⟨qa, qc, hqv⟩ := own_shape own4
          subst hqv
          have own5 := own4.alloc (.cells #[.slice ma (wiresF S0 W).length mc] 39)
          have hs5 : w3.heap.size ≤ (w4.alloc (.cells #[.slice ma (wiresF S0 W).length mc] 39)).heap.size := by have := g4.size; rw [World.size_alloc] at this ⊢; omega
          go_wp2_with (at_builtin; refine wpList_append_own _ rfl _ _ 100 rfl w3.heap.size 39 j0 (.slice none 0 0) 1 24 Tryd.underlying100 hjf hy0 hy1 hy2 rfl (by decide) _ _ _ rfl own5 ⟨w4.heap.size, 0, none⟩ 1 1 [.slice ma (wiresF S0 W).length mc] rfl rfl (oneS_cells w4 ma (wiresF S0 W).length mc) (slice_one ma (wiresF S0 W).length mc) (by unfold maxLen; omega) (by omega) hs5 ?_)
          intro v6 w6 own6 g6 _
          have hwn := HPN.out.fr.size
          have HP6 : Hid (PileAt w1 w6 (w.heap.size + 1) ins v6 (vs.take 0 ++ [.slice ma (wiresF S0 W).length mc]) (layP W (t.take (j + 1)) [] ins).2 (layP W (t.take (j + 1)) [] ins).1) := by
            have h1 := pile5_next (m := 0) HPN.out HBW1.out (by rw [HVM.out]; omega) HR.out (ownI_low own4 hwn) g4 (fun k hk => (own_block own4 hk).1) (ownI_low own6 hwn) g6
            show PileAt w1 w6 (w.heap.size + 1) ins v6 (vs.take 0 ++ [.slice ma (wiresF S0 W).length mc]) (layP W (t.take (j + 1)) [] ins).2 (layP W (t.take (j + 1)) [] ins).1
            rw [HN1.out, HN2.out]
            exact h1
          clear own3 own4 own5 own6 g4 g6 hsrc hrow
          go_wp2_with fail
          go_roundw
          case rel => exact ⟨j + 1, _, by omega, by go_num, HP6⟩
          case measure => simp [intOf]; omega
        ·
          obtain ⟨ma, mc, hmv⟩ := own_shape HR.out
          subst hmv
          have hrow := HPN.out.row
          rw [HVM.out] at hrow
          have hsrc := src_alloc (src_take (m := m) hrow (by omega)) (.cells #[] 39)
          have own3 := own_emptyS w3 w3.heap.size (Nat.le_refl _)
          have hs3 : w3.heap.size ≤ (w3.alloc (.cells #[] 39)).heap.size := by rw [World.size_alloc]; omega
          have htl : (vs.take m).length = m * 1 := by rw [List.length_take, HVM.out]; omega
          have hone := fun u hu => HONE.out u (List.mem_of_mem_take (i := m) hu)
          go_wp2_with (at_builtin; refine wpList_append_src rfl _ _ 100 rfl w3.heap.size 39 j0 (.slice none 0 0) 1 24 Tryd.underlying100 hjf hy0 hy1 hy2 rfl (by decide) _ 0 [] rfl own3 (.slice (some ⟨g, 0, none⟩) m pc) m (vs.take m) rfl hsrc htl hone (by unfold maxLen; omega) (by omega) hs3 ?_)
          intro v4 w4 own4 g4
          try rw [Nat.zero_add] at own4
          try rw [List.nil_append] at own4
          obtain ⟨qa, qc, hqv⟩ := own_shape own4
          subst hqv
          have own5 := own4.alloc (.cells #[.slice ma (wiresF S0 W).length mc] 39)
          have hs5 : w3.heap.size ≤ (w4.alloc (.cells #[.slice ma (wiresF S0 W).length mc] 39)).heap.size := by have := g4.size; rw [World.size_alloc] at this ⊢; omega
          go_wp2_with (at_builtin; refine wpList_append_own _ rfl _ _ 100 rfl w3.heap.size 39 j0 (.slice none 0 0) 1 24 Tryd.underlying100 hjf hy0 hy1 hy2 rfl (by decide) _ _ _ rfl own5 ⟨w4.heap.size, 0, none⟩ 1 1 [.slice ma (wiresF S0 W).length mc] rfl rfl (oneS_cells w4 ma (wiresF S0 W).length mc) (slice_one ma (wiresF S0 W).length mc) (by unfold maxLen; omega) (by omega) hs5 ?_)
          intro v6 w6 own6 g6 _
          have hwn := HPN.out.fr.size
          have HP6 : Hid (PileAt w1 w6 (w.heap.size + 1) ins v6 (vs.take m ++ [.slice ma (wiresF S0 W).length mc]) (layP W (t.take (j + 1)) [] ins).2 (layP W (t.take (j + 1)) [] ins).1) := by
            have h1 := pile5_next (m := m) HPN.out HBW1.out (by rw [HVM.out]; omega) HR.out (ownI_low own4 hwn) g4 (fun k hk => (own_block own4 hk).1) (ownI_low own6 hwn) g6
            show PileAt w1 w6 (w.heap.size + 1) ins v6 (vs.take m ++ [.slice ma (wiresF S0 W).length mc]) (layP W (t.take (j + 1)) [] ins).2 (layP W (t.take (j + 1)) [] ins).1
            rw [HN1.out, HN2.out]
            exact h1
          clear own3 own4 own5 own6 g4 g6 hsrc hrow
          go_wp2_with fail
          go_roundw
          case rel => exact ⟨j + 1, _, by omega, by go_num, HP6⟩
          case measure => simp [intOf]; omega
      by_cases e20 : op = 20
      · subst e20
        have hm0 : manyOf 20 = 0 := by decide
        have hmo : ((manyOf 20 : Nat) : Int) = 0 := by rw [hm0]; rfl
        rw [hm0, Nat.sub_zero] at hn2
        have HN1 : Hid ((layP W (t.take (j + 1)) [] ins).1 = G ++ bitsG N 1) := by
          show (layP W (t.take (j + 1)) [] ins).1 = G ++ bitsG N 1
          rw [hn1]
          simp (config := {decide := true}) only [layN, if_true, if_false]
        have HN2 : Hid ((layP W (t.take (j + 1)) [] ins).2 = P.take m ++ [wiresF S0 1]) := by
          show (layP W (t.take (j + 1)) [] ins).2 = P.take m ++ [wiresF S0 1]
          rw [hn2]
          simp (config := {decide := true}) only [layN, if_true, if_false]
        clear hn1 hn2 hone_ htwo_ hown hcases hmany hxv
        go_wp2_with fail
        refine (sBits5_any (w.heap.size + 1) (w.heap.size + 1) (w.heap.size + 1) ins G [] 1 (by omega) N hN0 hN1 S0 hS hI0 hI16 (by omega) _ HPV.out.bld hbv).mono ?_
        rintro e w3 ⟨r3, rfl, hr3, hb3, hf3⟩
        have HPN : Hid (PileAt w1 w3 (w.heap.size + 1) ins (.slice pa m pc) vs P (G ++ bitsG N 1)) := HPV.out.step hf3 hb3
        have HR : Hid (w3.ownsRow w1.heap.size 3 1 r3 (wiresF S0 1).length (cellsI (wiresF S0 1))) := by
          show w3.ownsRow w1.heap.size 3 1 r3 (wiresF S0 1).length (cellsI (wiresF S0 1))
          rw [wiresF_len]
          exact own_base hr3 HPV.out.fr.size
        have hsf := hf3.size
        clear hr3 hb3 hf3
        rcases (show (pa = none ∧ m = 0 ∧ pc = 0) ∨ ∃ g, pa = some ⟨g, 0, none⟩ from by
            rcases HPN.out.row.2 with ⟨h1, _⟩ | ⟨g, cp, cu, h1, _⟩
            · injection h1 with h2 h3 h4; exact Or.inl ⟨h2, h3, h4⟩
            · injection h1 with h2 _ _; exact Or.inr ⟨g, h2⟩) with ⟨rfl, rfl, rfl⟩ | ⟨g, rfl⟩
        ·
          obtain ⟨ma, mc, hmv⟩ := own_shape HR.out
          subst hmv
          have hrow := HPN.out.row
          rw [HVM.out] at hrow
          have hsrc := src_alloc (src_take (m := 0) hrow (by omega)) (.cells #[] 39)
          have own3 := own_emptyS w3 w3.heap.size (Nat.le_refl _)
          have hs3 : w3.heap.size ≤ (w3.alloc (.cells #[] 39)).heap.size := by rw [World.size_alloc]; omega
          have htl : (vs.take 0).length = 0 * 1 := by rw [List.length_take, HVM.out]; omega
          have hone := fun u hu => HONE.out u (List.mem_of_mem_take (i := 0) hu)
          go_wp2_with (at_builtin; refine wpList_append_src rfl _ _ 100 rfl w3.heap.size 39 j0 (.slice none 0 0) 1 24 Tryd.underlying100 hjf hy0 hy1 hy2 rfl (by decide) _ 0 [] rfl own3 (.slice none 0 0) 0 (vs.take 0) rfl hsrc htl hone (by unfold maxLen; omega) (by omega) hs3 ?_)
          intro v4 w4 own4 g4
          try rw [Nat.zero_add] at own4
          try rw [List.nil_append] at own4
          obtain ⟨qa, qc, hqv⟩ := own_shape own4
          subst hqv
          have own5 := own4.alloc (.cells #[.slice ma (wiresF S0 1).length mc] 39)
          have hs5 : w3.heap.size ≤ (w4.alloc (.cells #[.slice ma (wiresF S0 1).length mc] 39)).heap.size := by have := g4.size; rw [World.size_alloc] at this ⊢; omega
          go_wp2_with (at_builtin; refine wpList_append_own _ rfl _ _ 100 rfl w3.heap.size 39 j0 (.slice none 0 0) 1 24 Tryd.underlying100 hjf hy0 hy1 hy2 rfl (by decide) _ _ _ rfl own5 ⟨w4.heap.size, 0, none⟩ 1 1 [.slice ma (wiresF S0 1).length mc] rfl rfl (oneS_cells w4 ma (wiresF S0 1).length mc) (slice_one ma (wiresF S0 1).length mc) (by unfold maxLen; omega) (by omega) hs5 ?_)
          intro v6 w6 own6 g6 _
          have hwn := HPN.out.fr.size
          have HP6 : Hid (PileAt w1 w6 (w.heap.size + 1) ins v6 (vs.take 0 ++ [.slice ma (wiresF S0 1).length mc]) (layP W (t.take (j + 1)) [] ins).2 (layP W (t.take (j + 1)) [] ins).1) := by
            have h1 := pile5_next (m := 0) HPN.out HBW1.out (by rw [HVM.out]; omega) HR.out (ownI_low own4 hwn) g4 (fun k hk => (own_block own4 hk).1) (ownI_low own6 hwn) g6
            show PileAt w1 w6 (w.heap.size + 1) ins v6 (vs.take 0 ++ [.slice ma (wiresF S0 1).length mc]) (layP W (t.take (j + 1)) [] ins).2 (layP W (t.take (j + 1)) [] ins).1
            rw [HN1.out, HN2.out]
            exact h1
          clear own3 own4 own5 own6 g4 g6 hsrc hrow
          go_wp2_with fail
          go_roundw
          case rel => exact ⟨j + 1, _, by omega, by go_num, HP6⟩
          case measure => simp [intOf]; omega
        ·
          obtain ⟨ma, mc, hmv⟩ := own_shape HR.out
          subst hmv
          have hrow := HPN.out.row
          rw [HVM.out] at hrow
          have hsrc := src_alloc (src_take (m := m) hrow (by omega)) (.cells #[] 39)
          have own3 := own_emptyS w3 w3.heap.size (Nat.le_refl _)
          have hs3 : w3.heap.size ≤ (w3.alloc (.cells #[] 39)).heap.size := by rw [World.size_alloc]; omega
          have htl : (vs.take m).length = m * 1 := by rw [List.length_take, HVM.out]; omega
          have hone := fun u hu => HONE.out u (List.mem_of_mem_take (i := m) hu)
          go_wp2_with (at_builtin; refine wpList_append_src rfl _ _ 100 rfl w3.heap.size 39 j0 (.slice none 0 0) 1 24 Tryd.underlying100 hjf hy0 hy1 hy2 rfl (by decide) _ 0 [] rfl own3 (.slice (some ⟨g, 0, none⟩) m pc) m (vs.take m) rfl hsrc htl hone (by unfold maxLen; omega) (by omega) hs3 ?_)
          intro v4 w4 own4 g4
          try rw [Nat.zero_add] at own4
          try rw [List.nil_append] at own4
          obtain ⟨qa, qc, hqv⟩ := own_shape own4
          subst hqv
          have own5 := own4.alloc (.cells #[.slice ma (wiresF S0 1).length mc] 39)
          have hs5 : w3.heap.size ≤ (w4.alloc (.cells #[.slice ma (wiresF S0 1).length mc] 39)).heap.size := by have := g4.size; rw [World.size_alloc] at this ⊢; omega
          go_wp2_with (at_builtin; refine wpList_append_own _ rfl _ _ 100 rfl w3.heap.size 39 j0 (.slice none 0 0) 1 24 Tryd.underlying100 hjf hy0 hy1 hy2 rfl (by decide) _ _ _ rfl own5 ⟨w4.heap.size, 0, none⟩ 1 1 [.slice ma (wiresF S0 1).length mc] rfl rfl (oneS_cells w4 ma (wiresF S0 1).length mc) (slice_one ma (wiresF S0 1).length mc) (by unfold maxLen; omega) (by omega) hs5 ?_)
          intro v6 w6 own6 g6 _
          have hwn := HPN.out.fr.size
          have HP6 : Hid (PileAt w1 w6 (w.heap.size + 1) ins v6 (vs.take m ++ [.slice ma (wiresF S0 1).length mc]) (layP W (t.take (j + 1)) [] ins).2 (layP W (t.take (j + 1)) [] ins).1) := by
            have h1 := pile5_next (m := m) HPN.out HBW1.out (by rw [HVM.out]; omega) HR.out (ownI_low own4 hwn) g4 (fun k hk => (own_block own4 hk).1) (ownI_low own6 hwn) g6
            show PileAt w1 w6 (w.heap.size + 1) ins v6 (vs.take m ++ [.slice ma (wiresF S0 1).length mc]) (layP W (t.take (j + 1)) [] ins).2 (layP W (t.take (j + 1)) [] ins).1
            rw [HN1.out, HN2.out]
            exact h1
          clear own3 own4 own5 own6 g4 g6 hsrc hrow
          go_wp2_with fail
          go_roundw
          case rel => exact ⟨j + 1, _, by omega, by go_num, HP6⟩
          case measure => simp [intOf]; omega
      by_cases em : op = 13 ∨ op = 19
      · have hm1 : manyOf op = 1 := by rcases em with rfl | rfl <;> decide
        have hpos : 1 ≤ m := by omega
        obtain ⟨p, hpm⟩ : ∃ p, m - 1 = p := ⟨_, rfl⟩
        obtain ⟨ga, ha2⟩ := hone_ (by omega)
        rw [hm1, hpm] at ha2 hn2
        have hp1 : (m : Int) - 1 = (p : Int) := by omega
        have hplt : p < m := by omega
        have hpA : (p : Int) < (m : Int) := by omega
        have hppc : p ≤ pc := by omega
        clear hpm
        generalize firstP op P = fa at *
        have hpl : p < vs.length := by rw [HVM.out]; omega
        have hu : vs[p]? = some vs[p] := List.getElem?_eq_getElem hpl
        have hru := HPV.out.rows.2 p _ fa hu ha2
        obtain ⟨ua, uc, hush⟩ := own_shape hru
        rw [hush] at hu hru
        obtain ⟨g, hpa⟩ : ∃ g, pa = some ⟨g, 0, none⟩ := by
          rcases HPV.out.row.2 with ⟨h1, _⟩ | ⟨g, cp, cu, h1, _⟩
          · injection h1 with _ h2 _; omega
          · injection h1 with h2 _ _; exact ⟨g, h2⟩
        subst hpa
        have cp : wv.cell? ⟨g, p, none⟩ = some (.slice ua fa.length uc) := by
          have h1 := HPV.out.row
          rw [HVM.out] at h1
          rw [h1.cellAt p (by omega)]
          exact hu
        have hgl : g < wv.heap.size := by
          rcases HPV.out.row.2 with ⟨h1, _⟩ | ⟨g', cp', cu', h1, _, h3, _⟩
          · injection h1 with h2 _ _; cases h2
          · injection h1 with h2 _ _
            injection h2 with h3'
            injection h3' with h4 _ _
            rw [h4]
            exact heap_lt h3
        have hfa : fa.length ≤ 16 := by rw [ga]; unfold lenK; split <;> omega
        have hmo : ((manyOf op : Nat) : Int) = 1 := by rw [hm1]; rfl
        clear hone_ htwo_ hpl hu hush hmany hcases hown
        rcases em with rfl | rfl
        all_goals
          have HN1 : Hid ((layP W (t.take (j + 1)) [] ins).1 = G ++ notsG fa) := by
            show (layP W (t.take (j + 1)) [] ins).1 = G ++ notsG fa
            rw [hn1]
            simp (config := {decide := true}) only [layN, if_true, if_false]
          have HN2 : Hid ((layP W (t.take (j + 1)) [] ins).2 = P.take p ++ [wiresF S0 fa.length]) := by
            show (layP W (t.take (j + 1)) [] ins).2 = P.take p ++ [wiresF S0 fa.length]
            rw [hn2]
            simp (config := {decide := true}) only [layN, if_true, if_false]
          clear hn1 hn2 hxv ga
          have hai : ∀ w', Fr (w.heap.size + 1) wv w' → IntsAt w' (.slice ua fa.length uc) fa := fun w' hf => ints_keep hru hf.keep (by omega)
          go_wp2_with fail
          refine (sNots5_any (w.heap.size + 1) (w.heap.size + 1) (w.heap.size + 1) ins G [] (.slice ua fa.length uc) fa hfa S0 hS hI0 hI16 (by omega) _ HPV.out.bld hbv hai).mono ?_
          rintro e w3 ⟨r3, rfl, hr3, hb3, hf3⟩
          have HPN : Hid (PileAt w1 w3 (w.heap.size + 1) ins (.slice (some ⟨g, 0, none⟩) m pc) vs P (G ++ notsG fa)) := HPV.out.step hf3 hb3
          have HR : Hid (w3.ownsRow w1.heap.size 3 1 r3 (wiresF S0 fa.length).length (cellsI (wiresF S0 fa.length))) := by
            show w3.ownsRow w1.heap.size 3 1 r3 (wiresF S0 fa.length).length (cellsI (wiresF S0 fa.length))
            rw [wiresF_len]
            exact own_base hr3 HPV.out.fr.size
          have hsf := hf3.size
          clear hr3 hb3 hf3 hai hru
          obtain ⟨ma, mc, hmv⟩ := own_shape HR.out
          subst hmv
          have hrow := HPN.out.row
          rw [HVM.out] at hrow
          have hsrc := src_alloc (src_take (m := p) hrow (by omega)) (.cells #[] 39)
          have own3 := own_emptyS w3 w3.heap.size (Nat.le_refl _)
          have hs3 : w3.heap.size ≤ (w3.alloc (.cells #[] 39)).heap.size := by rw [World.size_alloc]; omega
          have htl : (vs.take p).length = p * 1 := by rw [List.length_take, HVM.out]; omega
          have hone := fun u hu => HONE.out u (List.mem_of_mem_take (i := p) hu)
          go_wp2_with (at_builtin; refine wpList_append_src rfl _ _ 100 rfl w3.heap.size 39 j0 (.slice none 0 0) 1 24 Tryd.underlying100 hjf hy0 hy1 hy2 rfl (by decide) _ 0 [] rfl own3 (.slice (some ⟨g, 0, none⟩) p pc) p (vs.take p) rfl hsrc htl hone (by unfold maxLen; omega) (by omega) hs3 ?_)
          intro v4 w4 own4 g4
          try rw [Nat.zero_add] at own4
          try rw [List.nil_append] at own4
          obtain ⟨qa, qc, hqv⟩ := own_shape own4
          subst hqv
          have own5 := own4.alloc (.cells #[.slice ma (wiresF S0 fa.length).length mc] 39)
          have hs5 : w3.heap.size ≤ (w4.alloc (.cells #[.slice ma (wiresF S0 fa.length).length mc] 39)).heap.size := by have := g4.size; rw [World.size_alloc] at this ⊢; omega
          go_wp2_with (at_builtin; refine wpList_append_own _ rfl _ _ 100 rfl w3.heap.size 39 j0 (.slice none 0 0) 1 24 Tryd.underlying100 hjf hy0 hy1 hy2 rfl (by decide) _ _ _ rfl own5 ⟨w4.heap.size, 0, none⟩ 1 1 [.slice ma (wiresF S0 fa.length).length mc] rfl rfl (oneS_cells w4 ma (wiresF S0 fa.length).length mc) (slice_one ma (wiresF S0 fa.length).length mc) (by unfold maxLen; omega) (by omega) hs5 ?_)
          intro v6 w6 own6 g6 _
          have hwn := HPN.out.fr.size
          have HP6 : Hid (PileAt w1 w6 (w.heap.size + 1) ins v6 (vs.take p ++ [.slice ma (wiresF S0 fa.length).length mc]) (layP W (t.take (j + 1)) [] ins).2 (layP W (t.take (j + 1)) [] ins).1) := by
            have h1 := pile5_next (m := p) HPN.out HBW1.out (by rw [HVM.out]; omega) HR.out (ownI_low own4 hwn) g4 (fun k hk => (own_block own4 hk).1) (ownI_low own6 hwn) g6
            show PileAt w1 w6 (w.heap.size + 1) ins v6 (vs.take p ++ [.slice ma (wiresF S0 fa.length).length mc]) (layP W (t.take (j + 1)) [] ins).2 (layP W (t.take (j + 1)) [] ins).1
            rw [HN1.out, HN2.out]
            exact h1
          clear own3 own4 own5 own6 g4 g6 hsrc hrow
          go_wp2_with fail
          go_roundw
          case rel => exact ⟨j + 1, _, by omega, by go_num, HP6⟩
          case measure => simp [intOf]; omega
      · have hm2 : manyOf op = 2 := by
          rcases hcases with h | h | h
          · exfalso
            unfold manyOf at h
            unfold ownOf at hown
            split at h
            · omega
            · split at h
              · omega
              · split at hown
                · omega
                · split at hown <;> omega
          · exfalso
            unfold manyOf at h
            split at h
            · omega
            · split at h <;> omega
          · exact h
        have hpos : 2 ≤ m := by omega
        obtain ⟨p, hpm⟩ : ∃ p, m - 2 = p := ⟨_, rfl⟩
        obtain ⟨p1, hpm1⟩ : ∃ p1, m - 1 = p1 := ⟨_, rfl⟩
        obtain ⟨ga, ha2⟩ := hone_ (by omega)
        obtain ⟨gb, hb2⟩ := htwo_ hm2
        rw [hm2, hpm] at ha2 hn2
        rw [hpm1] at hb2
        have hp1 : (m : Int) - 1 = (p1 : Int) := by omega
        have hp2 : (p1 : Int) - 1 = (p : Int) := by omega
        have hp3 : (m : Int) - 2 = (p : Int) := by omega
        have hpw : IntKind.i64.wrap (p : Int) = (p : Int) := IntWalk.i64_in _ ⟨by omega, by omega⟩
        have hp1w : IntKind.i64.wrap (p1 : Int) = (p1 : Int) := IntWalk.i64_in _ ⟨by omega, by omega⟩
        have hplt : p < m := by omega
        have hplt1 : p1 < m := by omega
        have hpA : (p : Int) < (m : Int) := by omega
        have hp1A : (p1 : Int) < (m : Int) := by omega
        clear hpm hpm1
        generalize firstP op P = fa at *
        generalize secondP op P = fb at *
        have hpl : p1 < vs.length := by rw [HVM.out]; omega
        have hu : vs[p]? = some (vs[p]'(by rw [HVM.out]; omega)) := List.getElem?_eq_getElem (by rw [HVM.out]; omega)
        have hq : vs[p1]? = some vs[p1] := List.getElem?_eq_getElem hpl
        have hru := HPV.out.rows.2 p _ fa hu ha2
        have hrq := HPV.out.rows.2 p1 _ fb hq hb2
        obtain ⟨ua, uc, hush⟩ := own_shape hru
        obtain ⟨ya, yc, hysh⟩ := own_shape hrq
        rw [hush] at hu hru
        rw [hysh] at hq hrq
        obtain ⟨g, hpa⟩ : ∃ g, pa = some ⟨g, 0, none⟩ := by
          rcases HPV.out.row.2 with ⟨h1, _⟩ | ⟨g, cp, cu, h1, _⟩
          · injection h1 with _ h2 _; omega
          · injection h1 with h2 _ _; exact ⟨g, h2⟩
        subst hpa
        have h1r := HPV.out.row
        rw [HVM.out] at h1r
        have cp : wv.cell? ⟨g, p, none⟩ = some (.slice ua fa.length uc) := by
          rw [h1r.cellAt p (by omega)]
          exact hu
        have cq : wv.cell? ⟨g, p1, none⟩ = some (.slice ya fb.length yc) := by
          rw [h1r.cellAt p1 (by omega)]
          exact hq
        have hgl : g < wv.heap.size := by
          rcases h1r.2 with ⟨h1, _⟩ | ⟨g', cp', cu', h1, _, h3, _⟩
          · injection h1 with h2 _ _; cases h2
          · injection h1 with h2 _ _
            injection h2 with h3'
            injection h3' with h4 _ _
            rw [h4]
            exact heap_lt h3
        have hmo : ((manyOf op : Nat) : Int) = 2 := by rw [hm2]; rfl
        have f2 : (op == 2) = false := beq_eq_false_iff_ne.2 e2
        have f1 : (op == 1) = false := beq_eq_false_iff_ne.2 e1
        have f20 : (op == 20) = false := beq_eq_false_iff_ne.2 e20
        clear hone_ htwo_ hpl hu hq hush hysh hmany hcases hown h1r
        have hgx := sTwo_any (w.heap.size + 1) (w.heap.size + 1) (w.heap.size + 1) W hW1 hW4 ins G [] op N (.slice ua fa.length uc) (.slice ya fb.length yc) fa fb S0 hS hI0 hI16 (by omega)
        have G2 : Hid (∀ w5 : World, Bld w5 (w.heap.size + 1) (w.heap.size + 1) (w.heap.size + 1) 99 (ins, G, []) → w.heap.size + 1 ≤ w5.heap.size → w5.ownsRow w1.heap.size 3 1 (.slice ua fa.length uc) fa.length (cellsI fa) → w5.ownsRow w1.heap.size 3 1 (.slice ya fb.length yc) fb.length (cellsI fb) → Calls Tryd.prog 76 #[.pointer (some ⟨w.heap.size + 1, 0, none⟩), .int .i64 op, .slice ua fa.length uc, .slice ya fb.length yc] w5 (TwoOut (w.heap.size + 1) (w.heap.size + 1) (w.heap.size + 1) ins G [] w5 (layN W op N fa fb S0))) := fun w5 q1 q2 q3 q4 => hgx w5 q1 q2 hm2 hxp ga gb w1.heap.size w1.heap.size q3 q4
        clear hgx hxp hxv ga gb
        obtain ⟨LX, hLX⟩ : ∃ LX, layN W op N fa fb S0 = LX := ⟨_, rfl⟩
        rw [hLX] at G2 hn1 hn2
        obtain ⟨GX, RX⟩ := LX
        have HN1 : Hid ((layP W (t.take (j + 1)) [] ins).1 = G ++ GX) := hn1
        have HN2 : Hid ((layP W (t.take (j + 1)) [] ins).2 = P.take p ++ [RX]) := hn2
        have HK : Hid (∀ w5 : World, Fr (w.heap.size + 1) wv w5 → Bld w5 (w.heap.size + 1) (w.heap.size + 1) (w.heap.size + 1) 99 (ins, G, []) → w5.ownsRow w1.heap.size 3 1 (.slice ua fa.length uc) fa.length (cellsI fa) → w5.ownsRow w1.heap.size 3 1 (.slice ya fb.length yc) fb.length (cellsI fb) → Calls Tryd.prog 76 #[.pointer (some ⟨w.heap.size + 1, 0, none⟩), .int .i64 op, .slice ua fa.length uc, .slice ya fb.length yc] w5 fun e w3 => ∃ r3, e = .returned r3 ∧ Hid (PileAt w1 w3 (w.heap.size + 1) ins (.slice (some ⟨g, 0, none⟩) m pc) vs P (G ++ GX)) ∧ Hid (w3.ownsRow w1.heap.size 3 1 r3 RX.length (cellsI RX)) ∧ wv.heap.size ≤ w3.heap.size) := by
          intro w5 hf5 hb5 h1 h2
          refine (G2.out w5 hb5 (Nat.le_trans hbv hf5.size) h1 h2).mono ?_
          rintro e w3 ⟨r3, he, hr3, hb3, hf3⟩
          exact ⟨r3, he, HPV.out.step (hf5.trans hf3) hb3, own_base hr3 (Nat.le_trans HPV.out.fr.size hf5.size), Nat.le_trans hf5.size hf3.size⟩
        have HRU : Hid (wv.ownsRow w1.heap.size 3 1 (.slice ua fa.length uc) fa.length (cellsI fa)) := hru
        have HRQ : Hid (wv.ownsRow w1.heap.size 3 1 (.slice ya fb.length yc) fb.length (cellsI fb)) := hrq
        clear hru hrq G2
        go_wp2_with fail
        go_region_with ((go_at_call 76; (first | refine (HK.out wv.drew (Fr.refl _ _).drew HPV.out.bld.drew HRU.out HRQ.out).mono ?_ | refine (HK.out wv.drew.drew (Fr.refl _ _).drew.drew HPV.out.bld.drew.drew HRU.out HRQ.out).mono ?_ | refine (HK.out wv (Fr.refl _ _) HPV.out.bld HRU.out HRQ.out).mono ?_); rintro e w3 ⟨r3, rfl, HPN, HR, hsf⟩))
        all_goals
          have hRX := HR.out.1
          obtain ⟨ma, mc, hmv⟩ := own_shape HR.out
          subst hmv
          have hrow := HPN.out.row
          rw [HVM.out] at hrow
          have hsrc := src_alloc (src_take (m := p) hrow (by omega)) (.cells #[] 39)
          have own3 := own_emptyS w3 w3.heap.size (Nat.le_refl _)
          have hs3 : w3.heap.size ≤ (w3.alloc (.cells #[] 39)).heap.size := by rw [World.size_alloc]; omega
          have htl : (vs.take p).length = p * 1 := by rw [List.length_take, HVM.out]; omega
          have hone := fun u hu => HONE.out u (List.mem_of_mem_take (i := p) hu)
          go_wp2_with (at_builtin; refine wpList_append_src rfl _ _ 100 rfl w3.heap.size 39 j0 (.slice none 0 0) 1 24 Tryd.underlying100 hjf hy0 hy1 hy2 rfl (by decide) _ 0 [] rfl own3 (.slice (some ⟨g, 0, none⟩) p pc) p (vs.take p) rfl hsrc htl hone (by unfold maxLen; omega) (by omega) hs3 ?_)
          intro v4 w4 own4 g4
          try rw [Nat.zero_add] at own4
          try rw [List.nil_append] at own4
          obtain ⟨qa, qc, hqv⟩ := own_shape own4
          subst hqv
          have own5 := own4.alloc (.cells #[.slice ma (RX).length mc] 39)
          have hs5 : w3.heap.size ≤ (w4.alloc (.cells #[.slice ma (RX).length mc] 39)).heap.size := by have := g4.size; rw [World.size_alloc] at this ⊢; omega
          go_wp2_with (at_builtin; refine wpList_append_own _ rfl _ _ 100 rfl w3.heap.size 39 j0 (.slice none 0 0) 1 24 Tryd.underlying100 hjf hy0 hy1 hy2 rfl (by decide) _ _ _ rfl own5 ⟨w4.heap.size, 0, none⟩ 1 1 [.slice ma (RX).length mc] rfl rfl (oneS_cells w4 ma (RX).length mc) (slice_one ma (RX).length mc) (by unfold maxLen; omega) (by omega) hs5 ?_)
          intro v6 w6 own6 g6 _
          have hwn := HPN.out.fr.size
          have HP6 : Hid (PileAt w1 w6 (w.heap.size + 1) ins v6 (vs.take p ++ [.slice ma (RX).length mc]) (layP W (t.take (j + 1)) [] ins).2 (layP W (t.take (j + 1)) [] ins).1) := by
            have h1 := pile5_next (m := p) HPN.out HBW1.out (by rw [HVM.out]; omega) HR.out (ownI_low own4 hwn) g4 (fun k hk => (own_block own4 hk).1) (ownI_low own6 hwn) g6
            show PileAt w1 w6 (w.heap.size + 1) ins v6 (vs.take p ++ [.slice ma (RX).length mc]) (layP W (t.take (j + 1)) [] ins).2 (layP W (t.take (j + 1)) [] ins).1
            rw [HN1.out, HN2.out]
            exact h1
          clear own3 own4 own5 own6 g4 g6 hsrc hrow
          go_wp2_with fail
          go_roundw
          case rel => exact ⟨j + 1, _, by omega, by go_num, HP6⟩
          case measure => simp [intOf]; omega
    · obtain rfl : j = n := by omega
      obtain ⟨RL, hRL⟩ := HLAST.out
      have htk : t.take j = t := by rw [← HN.out, List.take_length]
      rw [htk, hRL] at HP
      have HRL : Hid ((layP W t [] ins).2 = [RL]) := hRL
      obtain ⟨G, hG⟩ : ∃ G, (layP W t [] ins).1 = G := ⟨_, rfl⟩
      rw [hG] at HP
      have HGG : Hid ((layP W t [] ins).1 = G) := hG
      clear hG
      have hvl : vs.length = 1 := HP.out.rows.1
      obtain ⟨u, rfl⟩ : ∃ u, vs = [u] := List.length_eq_one_iff.1 hvl
      have hru := HP.out.rows.2 0 u RL rfl rfl
      obtain ⟨ua, uc, rfl⟩ := own_shape hru
      obtain ⟨pa, pc, hpv⟩ := own_shape HP.out.row
      subst hpv
      obtain ⟨g, hpa⟩ : ∃ g, pa = some ⟨g, 0, none⟩ := by
        rcases HP.out.row.2 with ⟨h1, _⟩ | ⟨g, cp, cu, h1, _⟩
        · injection h1 with _ h2 _; simp at h2
        · injection h1 with h2 _ _; exact ⟨g, h2⟩
      subst hpa
      have cp : wo.cell? ⟨g, 0, none⟩ = some (.slice ua RL.length uc) := by
        rw [HP.out.row.cellAt 0 (by simp)]
        rfl
      have hgl : g < wo.heap.size := by
        rcases HP.out.row.2 with ⟨h1, _⟩ | ⟨g', cp', cu', h1, _, h3, _⟩
        · injection h1 with h2 _ _; cases h2
        · injection h1 with h2 _ _
          injection h2 with h3'
          injection h3' with h4 _ _
          rw [h4]
          exact heap_lt h3
      obtain ⟨_, gsl, osl, hx4, og, oo, _⟩ := HP.out.bld
      obtain ⟨xa, xc, hgs⟩ := own_shape og
      obtain ⟨oa, oc, hos⟩ := own_shape oo
      subst hgs hos
      have hz4 : Box3 wo w.heap.size 41 (.int .i64 0) (.slice none 0 0) (.slice none 0 0) := HX0.out.below HP.out.fr.bel (by omega)
      have OG : Hid (wo.ownsRow (w.heap.size + 1) 107 3 (.slice xa G.length xc) G.length (flat3 G)) := og
      have OW : Hid (wo.ownsRow w1.heap.size 3 1 (.slice ua RL.length uc) RL.length (cellsI RL)) := hru
      have HBW4 : Hid (Below w.heap.size w wo) := HBW.out wo HP.out.fr.bel
      have z5 := hx4.set2 (.slice ua RL.length uc)
      have z6 := hz4.other (o := 2) (b' := w.heap.size + 1) (by omega) (.slice ua RL.length uc)
      obtain ⟨e0, e1, e2⟩ := hx4.cells
      have q0 := hx4.heap
      have q1 := hx4.lt
      have f3 := hx4.frozen 2
      obtain ⟨r0, r1, r2⟩ := z6.cells
      have f4 := z6.frozen 0
      have f5 := z6.frozen 1
      have f6 := z6.frozen 2
      have hh := z5.heap
      have HZ6 : Hid (Box3 (wo.setCell ⟨w.heap.size + 1, 2, none⟩ (.slice ua RL.length uc)) w.heap.size 41 (.int .i64 0) (.slice none 0 0) (.slice none 0 0)) := z6
      have HX4 : Hid (Box3 wo (w.heap.size + 1) 99 (.int .i64 ins) (.slice xa G.length xc) (.slice oa ([] : List Int).length oc)) := hx4
      have HKT : Hid (∀ (t : TypeId) (x y z : Value), 41 ≠ t → 99 ≠ t → KeepT t wo ((((wo.setCell ⟨w.heap.size + 1, 2, none⟩ (.slice ua RL.length uc)).setCell ⟨w.heap.size, 0, none⟩ x).setCell ⟨w.heap.size, 1, none⟩ y).setCell ⟨w.heap.size, 2, none⟩ z)) := fun t x y z ht ht2 => (((KeepT.set HX4.out ht2).trans (KeepT.set HZ6.out ht)).trans (KeepT.set (HZ6.out.set0 x) ht)).trans (KeepT.set ((HZ6.out.set0 x).set1 y) ht)
      have HBF : Hid (∀ (x y z : Value), Below w.heap.size w ((((wo.setCell ⟨w.heap.size + 1, 2, none⟩ (.slice ua RL.length uc)).setCell ⟨w.heap.size, 0, none⟩ x).setCell ⟨w.heap.size, 1, none⟩ y).setCell ⟨w.heap.size, 2, none⟩ z)) := fun x y z => (((HBW4.out.setCell (p := ⟨w.heap.size + 1, 2, none⟩) (by show w.heap.size ≤ w.heap.size + 1; omega) _).setCell (p := ⟨w.heap.size, 0, none⟩) (Nat.le_refl _) _).setCell (p := ⟨w.heap.size, 1, none⟩) (Nat.le_refl _) _).setCell (p := ⟨w.heap.size, 2, none⟩) (Nat.le_refl _) _
      have hw1 := HBW1.out
      simp only [List.length_nil] at e2 q0 hh
      clear og oo hx4 hz4 hru HP htk hRL hvl z5 z6 HX4
      go_wp2_with fail
      have z9 := ((HZ6.out.set0 (.int .i64 ins)).set1 (.slice xa G.length xc)).set2 (.slice ua RL.length uc)
      refine bodyPost_ret (results_cell_row rfl _ _ w.heap.size 41 _ (0, 0) _ rfl z9.heap Tryd.underlying41 rfl (by kernel_rfl)) rfl ?_
      rw [HRL.out, HGG.out]
      refine ⟨_, rfl, ⟨_, _, rfl, ?_, ?_⟩, HBF.out _ _ _⟩
      · exact rowIn_of (own_base (own_keepT OG.out (HKT.out _ _ _ _ (by decide) (by decide))) (by omega))
      · exact rowIn_of (own_base (own_keepT OW.out (HKT.out _ _ _ _ (by decide) (by decide))) (by omega))
end Go.Proofs.YtpjllhlbdcanlaaDoor

namespace Go.Proofs.YtpjllhlbdcanlaaDoor
open Go Go.RowKit
open M
set_option linter.unusedVariables false
set_option linter.unusedSimpArgs false

set_option maxRecDepth 100000 in
set_option maxHeartbeats 8000000 in
theorem laid_any (wide : Nat) (vars : Nat) (hw1 : 1 ≤ wide) (hw4 : wide ≤ 4) (hv1 : 1 ≤ vars) (hv4 : vars ≤ 4) (r : Tr) (bx : Nat) (w : World) (htr : TrAt w (Old w) r bx) (hok : r.Ok wide vars) (hpl : plainT r) (hnd : NdB r) (hsz : r.size ≤ 48) :
    Calls Tryd.prog 55 #[ptr bx, .int .i64 wide, .int .i64 vars] w fun e w' => ∃ v, e = .returned v ∧ OwnCirc w' w.heap.size w'.heap.size v ((wide : Int) * vars, layT wide r ((wide : Int) * vars)) ∧ Below w.heap.size w w' := by
  obtain ⟨ins, hins⟩ : ∃ ins : Int, (wide : Int) * (vars : Int) = ins := ⟨_, rfl⟩
  rw [hins]
  have HINS : Hid ((wide : Int) * (vars : Int) = ins) := hins
  have hI0 : 0 ≤ ins := by rw [← hins]; exact Int.mul_nonneg (by omega) (by omega)
  have hI1 : ins ≤ 16 := by
    rw [← hins]
    have h1 : wide * vars ≤ 4 * 4 := Nat.mul_le_mul hw4 hv4
    have e : (wide : Int) * (vars : Int) = ((wide * vars : Nat) : Int) := (Int.natCast_mul wide vars).symm
    omega
  have hbx0 : bx < w.heap.size := by
    obtain ⟨ps, ⟨hb, _⟩, _⟩ := trAt_open htr
    exact hb
  obtain ⟨b, hb⟩ : ∃ b, w.heap.size + 1 = b := ⟨_, rfl⟩
  obtain ⟨w1, hw1'⟩ : ∃ w1, (w.alloc (.cells #[.int .i64 0, .slice none 0 0, .slice none 0 0] 41)).alloc (.cells #[.int .i64 ins, .slice none 0 0, .slice none 0 0] 41) = w1 := ⟨_, rfl⟩
  have hx0 : Box3 w1 w.heap.size 41 (.int .i64 0) (.slice none 0 0) (.slice none 0 0) := by rw [← hw1']; exact (box3_alloc _ _ _ _ _).alloc _
  have hx1 : Box3 w1 b 41 (.int .i64 ins) (.slice none 0 0) (.slice none 0 0) := by
    rw [← hw1', ← hb]
    have := box3_alloc (w.alloc (.cells #[.int .i64 0, .slice none 0 0, .slice none 0 0] 41)) 41 (.int .i64 ins) (.slice none 0 0) (.slice none 0 0)
    rw [World.size_alloc] at this
    exact this
  have hb1 : Below w.heap.size w w1 := by rw [← hw1']; exact ((Below.refl _ _).alloc (Nat.le_refl _) _).alloc (by rw [World.size_alloc]; omega) _
  have hs1 : w1.heap.size = b + 1 := by rw [← hw1', World.size_alloc, World.size_alloc, ← hb]
  have hB1 : Bld w1 b b b 41 (ins, [], []) := ⟨Nat.le_refl _, _, _, hx1, World.ownsRow_nil _ _ _ _, World.ownsRow_nil _ _ _ _, fun k hk => by cases hk⟩
  have GNL := nodeLayer_any b wide w1
  have HTR : Hid (∀ w', Below w.heap.size w w' → TrAt w' (fun k => k < b) r bx) := fun w' hb' => TrAt.frame (fun k hk => (by have h1 : k < w.heap.size := hk; omega)) (fun k hk => hb'.block k hk) htr
  have HW1 : Hid ((w.alloc (.cells #[.int .i64 0, .slice none 0 0, .slice none 0 0] 41)).alloc (.cells #[.int .i64 ins, .slice none 0 0, .slice none 0 0] 41) = w1) := hw1'
  have GL : Hid (∀ (cl cn : Nat) (w3 : World), Bld w3 b b b 41 (ins, [], []) → LayC w3 b wide cl cn → Below w.heap.size w w3 → b ≤ w3.heap.size → Calls Tryd.prog 84 #[ptr bx, .pointer (some ⟨cl, 0, none⟩), .pointer (some ⟨cn, 0, none⟩)] w3 (NodeOut b b b ins [] [] w3 (layT wide r ins))) :=
    fun cl cn w3 h1 h2 h3 h4 => layR_any b b b cl cn wide hw1 hw4 ins vars hI0 hI1 (by omega) r bx [] ins w3 (by simp) (by simp; omega) h1 h4 h2 (HTR.out w3 h3) hok hpl hnd
  have HB : Hid (w.heap.size + 1 = b) := hb
  clear htr hok hpl hnd hsz hw1' HTR
  go_enter Tryd.func55, Tryd.ntmps55
  go_wp2_with fail
  rw [HW1.out]
  refine GNL.mono ?_
  rintro e w2 ⟨nv, rfl, hnv, hs2⟩
  obtain ⟨cw, c0, c1, c2, cb, c3, c4, hnve, hNC⟩ := hnv.opened
  have HNV : Hid (NodeV w2 nv b wide) := hnv
  have HB1 : Hid (Bld w1 b b b 41 (ins, [], [])) := hB1
  have HX0 : Hid (Box3 w1 w.heap.size 41 (.int .i64 0) (.slice none 0 0) (.slice none 0 0)) := hx0
  have HBW : Hid (Below w.heap.size w w1) := hb1
  have HS2 : Hid (Below w1.heap.size w1 w2) := hs2
  have HNV2 : Hid (NodeV w2 (.func (.func 107) #[] #[.pointer (some ⟨cw, 0, none⟩), .pointer (some ⟨c0, 0, none⟩), .pointer (some ⟨c1, 0, none⟩), .pointer (some ⟨c2, 0, none⟩), .pointer (some ⟨cb, 0, none⟩), .pointer (some ⟨c3, 0, none⟩), .pointer (some ⟨c4, 0, none⟩)]) b wide) := by
    rw [← hnve]
    exact hnv
  subst hnve
  clear HNV hnv hNC hB1 hx0 hx1 hb1 hs2 GNL
  go_wp2_with fail
  obtain ⟨o1, ho1⟩ : ∃ o1 : Obj, o1 = .cells #[.func (.func 107) #[] #[.pointer (some ⟨cw, 0, none⟩), .pointer (some ⟨c0, 0, none⟩), .pointer (some ⟨c1, 0, none⟩), .pointer (some ⟨c2, 0, none⟩), .pointer (some ⟨cb, 0, none⟩), .pointer (some ⟨c3, 0, none⟩), .pointer (some ⟨c4, 0, none⟩)]] 116 (0, 0) := ⟨_, rfl⟩
  rw [← ho1]
  obtain ⟨o2, ho2⟩ : ∃ o2 : Obj, o2 = .cells #[.func (.func 84) #[] #[.pointer (some ⟨w2.heap.size + 1, 0, none⟩), .pointer (some ⟨w2.heap.size, 0, none⟩)]] 119 (0, 0) := ⟨_, rfl⟩
  rw [← ho2]
  obtain ⟨w3, hw3⟩ : ∃ w3, (w2.alloc o1).alloc o2 = w3 := ⟨_, rfl⟩
  rw [hw3]
  have hb23 : Below w2.heap.size w2 w3 := by rw [← hw3]; exact (below_alloc _ _).alloc (by rw [World.size_alloc]; omega) _
  have hb13 : Below w1.heap.size w1 w3 := HS2.out.trans (hb23.mono HS2.out.size)
  have hLC : LayC w3 b wide (w2.heap.size + 1) w2.heap.size := by
    refine ⟨?_, _, ?_, HNV2.out.keep (KeepC.below hb23)⟩
    · rw [← hw3, ho2]
      exact cellT_alloc2 _ _ _ _
    · rw [← hw3, ho1]
      exact CellT.alloc (cellT_alloc _ _ _) _
  have hB3 : Bld w3 b b b 41 (ins, [], []) := Bld.bel HB1.out hb13
  have hbw3 : Below w.heap.size w w3 := HBW.out.trans (hb13.mono HBW.out.size)
  have hs13 := hb13.size
  have hx3 : Box3 w3 w.heap.size 41 (.int .i64 0) (.slice none 0 0) (.slice none 0 0) := HX0.out.below hb13 HX0.out.lt
  refine (GL.out _ _ w3 hB3 hLC hbw3 (by omega)).mono ?_
  rintro e w4 ⟨v4, rfl, own4, hB4, hf4⟩
  obtain ⟨va, vc, hv4'⟩ := own_shape own4
  obtain ⟨_, gsl, osl, hx4, og, oo, _⟩ := hB4
  obtain ⟨ga, gc, hgs⟩ := own_shape og
  obtain ⟨oa, oc, hos⟩ := own_shape oo
  have hx4b := hx4
  rw [hgs, hos] at hx4b
  have hz4 : Box3 w4 w.heap.size 41 (.int .i64 0) (.slice none 0 0) (.slice none 0 0) := hx3.below hf4.bel (by omega)
  have hbw4 : Below w.heap.size w w4 := hbw3.trans (hf4.bel.mono (by omega))
  have hs34 := hf4.size
  have OG : Hid (w4.ownsRow b 107 3 gsl ([] ++ (layT wide r ins).1).length (flat3 ([] ++ (layT wide r ins).1))) := og
  have OW : Hid (w4.ownsRow w3.heap.size 3 1 v4 (layT wide r ins).2.length (cellsI (layT wide r ins).2)) := own4
  have HBW4 : Hid (Below w.heap.size w w4) := hbw4
  have z5 := hx4b.set2 v4
  have z6 := hz4.other (o := 2) (b' := b) (by omega) v4
  obtain ⟨e0, e1, e2⟩ := hx4b.cells
  have q0 := hx4b.heap
  have q1 := hx4b.lt
  have f3 := hx4b.frozen 2
  obtain ⟨r0, r1, r2⟩ := z6.cells
  have f4 := z6.frozen 0
  have f5 := z6.frozen 1
  have f6 := z6.frozen 2
  have hh := z5.heap
  have HZ6 : Hid (Box3 (w4.setCell ⟨b, 2, none⟩ v4) w.heap.size 41 (.int .i64 0) (.slice none 0 0) (.slice none 0 0)) := z6
  have HX4 : Hid (Box3 w4 b 41 (.int .i64 ins) gsl osl) := hx4
  have HKT : Hid (∀ (t : TypeId) (x y z : Value), 41 ≠ t → KeepT t w4 ((((w4.setCell ⟨b, 2, none⟩ v4).setCell ⟨w.heap.size, 0, none⟩ x).setCell ⟨w.heap.size, 1, none⟩ y).setCell ⟨w.heap.size, 2, none⟩ z)) := fun t x y z ht => (((KeepT.set HX4.out ht).trans (KeepT.set HZ6.out ht)).trans (KeepT.set (HZ6.out.set0 x) ht)).trans (KeepT.set ((HZ6.out.set0 x).set1 y) ht)
  have HBF : Hid (∀ (x y z : Value), Below w.heap.size w ((((w4.setCell ⟨b, 2, none⟩ v4).setCell ⟨w.heap.size, 0, none⟩ x).setCell ⟨w.heap.size, 1, none⟩ y).setCell ⟨w.heap.size, 2, none⟩ z)) := fun x y z => (((HBW4.out.setCell (p := ⟨b, 2, none⟩) (by show w.heap.size ≤ b; omega) _).setCell (p := ⟨w.heap.size, 0, none⟩) (Nat.le_refl _) _).setCell (p := ⟨w.heap.size, 1, none⟩) (Nat.le_refl _) _).setCell (p := ⟨w.heap.size, 2, none⟩) (Nat.le_refl _) _
  have hwb : w.heap.size ≤ b := by omega
  have hw34 : w.heap.size ≤ w3.heap.size := by omega
  subst hv4' hgs hos
  clear own4 og oo hx4 hx4b hf4 hb23 hb13 hLC hB3 hbw3 hx3 ho1 ho2 hw3 GL HNV2 HS2 HB1 HX0 HBW hbw4 z5 z6 HX4
  go_wp2_with fail
  have z9 := ((HZ6.out.set0 (.int .i64 ins)).set1 (.slice ga (layT wide r ins).1.length gc)).set2 (.slice va (layT wide r ins).2.length vc)
  refine bodyPost_ret (results_cell_row rfl _ _ w.heap.size 41 _ (0, 0) _ rfl z9.heap Tryd.underlying41 rfl (by kernel_rfl)) rfl ?_
  refine ⟨_, rfl, ⟨_, _, rfl, ?_, ?_⟩, HBF.out _ _ _⟩
  · exact rowIn_of (own_base (own_keepT OG.out (HKT.out _ _ _ _ (by decide))) hwb)
  · exact rowIn_of (own_base (own_keepT OW.out (HKT.out _ _ _ _ (by decide))) hw34)
end Go.Proofs.YtpjllhlbdcanlaaDoor

namespace Go.Proofs.YtpjllhlbdcanlaaDoor
open Go Go.RowKit
open M
set_option linter.unusedVariables false

theorem goodLaid_any (wide : Int) (w : World) :
    Calls Tryd.prog 39 #[.int .i64 wide] w fun e w' => e = .returned (.bool (decide (1 ≤ wide ∧ wide ≤ 4))) ∧ w' = w := by
  by_cases h1 : 1 ≤ wide
  · by_cases h2 : wide ≤ 4
    · rw [decide_eq_true ⟨h1, h2⟩]
      go_enter Tryd.func39, Tryd.ntmps39
      go_wp2_with fail
      go_ret
      exact ⟨rfl, rfl⟩
    · rw [decide_eq_false (fun h => h2 h.2)]
      go_enter Tryd.func39, Tryd.ntmps39
      go_wp2_with fail
      go_ret
      exact ⟨rfl, rfl⟩
  · rw [decide_eq_false (fun h => h1 h.1)]
    go_enter Tryd.func39, Tryd.ntmps39
    go_wp2_with fail
    go_ret
    exact ⟨rfl, rfl⟩
set_option maxRecDepth 100000 in
theorem l5Wide_any (wide : Int) (w : World) : Calls Tryd.prog 42 #[.int .i64 wide] w fun e w' => e = .returned (.bool (decide (1 ≤ wide ∧ wide ≤ 4))) ∧ w' = w := by
  have g := l1In_any wide 1 4 w
  go_enter Tryd.func42, Tryd.ntmps42
  go_wp2_with fail
  refine g.mono ?_
  rintro e w1 ⟨rfl, rfl⟩
  go_wp2_with fail
  go_ret
  exact ⟨congrArg (fun z => Ending.returned (Value.bool z)) (Bool.decide_and _ _).symm, rfl⟩
end Go.Proofs.YtpjllhlbdcanlaaDoor

namespace Go.Proofs.YtpjllhlbdcanlaaDoor
open Go Go.RowKit
open M
set_option linter.unusedVariables false
set_option linter.unusedSimpArgs false

/-- the end of a road that answers nothing -/
theorem zero_box {w : World} {b : Nat} {e : TypeId} {x y z : Value} (h : Box3 w b e x y z) : Box3 (((w.setCell ⟨b, 0, none⟩ (.int .i64 0)).setCell ⟨b, 1, none⟩ (.slice none 0 0)).setCell ⟨b, 2, none⟩ (.slice none 0 0)) b e (.int .i64 0) (.slice none 0 0) (.slice none 0 0) := ((h.set0 _).set1 _).set2 _
theorem zero_own (w : World) (lo hi : Nat) (h : hi ≤ w.heap.size) : OwnCirc w lo hi (.agg #[.int .i64 0, .slice none 0 0, .slice none 0 0]) (0, [], []) := ⟨_, _, rfl, ⟨World.ownsRow_nil _ _ _ _, (fun k hk => by cases hk), h⟩, ⟨World.ownsRow_nil _ _ _ _, (fun k hk => by cases hk), h⟩⟩
set_option maxRecDepth 100000 in
set_option maxHeartbeats 8000000 in
theorem iGatesFor_any (wide vars : Int) (v : Value) (t : List Nd) (w : World) (hT : Tab w) (h : NodesAt w v t) :
    Calls Tryd.prog 20 #[.int .i64 wide, .int .i64 vars, v] w fun e w' => ∃ r, e = .returned (.tuple #[r, .bool (gatesB wide vars t)]) ∧ OwnCirc w' w.heap.size w'.heap.size r (gatesR wide vars t) ∧ Below w.heap.size w w' := by
  obtain ⟨w0, hw0⟩ : ∃ w0, w.alloc (.cells #[.int .i64 0, .slice none 0 0, .slice none 0 0] 41) = w0 := ⟨_, rfl⟩
  have hb0 : Below w.heap.size w w0 := by rw [← hw0]; exact below_alloc _ _
  have hx0 : Box3 w0 w.heap.size 41 (.int .i64 0) (.slice none 0 0) (.slice none 0 0) := by rw [← hw0]; exact box3_alloc _ _ _ _ _
  have HW0 : Hid (w.alloc (.cells #[.int .i64 0, .slice none 0 0, .slice none 0 0] 41) = w0) := hw0
  have HX0 : Hid (Box3 w0 w.heap.size 41 (.int .i64 0) (.slice none 0 0) (.slice none 0 0)) := hx0
  have HB0 : Hid (Below w.heap.size w w0) := hb0
  have HEND : Hid (∀ w9 : World, Below w.heap.size w w9 → Box3 w9 w.heap.size 41 (.int .i64 0) (.slice none 0 0) (.slice none 0 0) → OwnCirc (((w9.setCell ⟨w.heap.size, 0, none⟩ (.int .i64 0)).setCell ⟨w.heap.size, 1, none⟩ (.slice none 0 0)).setCell ⟨w.heap.size, 2, none⟩ (.slice none 0 0)) w.heap.size (((w9.setCell ⟨w.heap.size, 0, none⟩ (.int .i64 0)).setCell ⟨w.heap.size, 1, none⟩ (.slice none 0 0)).setCell ⟨w.heap.size, 2, none⟩ (.slice none 0 0)).heap.size (.agg #[.int .i64 0, .slice none 0 0, .slice none 0 0]) (0, [], []) ∧ Below w.heap.size w (((w9.setCell ⟨w.heap.size, 0, none⟩ (.int .i64 0)).setCell ⟨w.heap.size, 1, none⟩ (.slice none 0 0)).setCell ⟨w.heap.size, 2, none⟩ (.slice none 0 0))) :=
    fun w9 hb hx => ⟨zero_own _ _ _ (Nat.le_refl _), ((hb.setCell (p := ⟨w.heap.size, 0, none⟩) (Nat.le_refl _) _).setCell (p := ⟨w.heap.size, 1, none⟩) (Nat.le_refl _) _).setCell (p := ⟨w.heap.size, 2, none⟩) (Nat.le_refl _) _⟩
  by_cases hk : 0 < kindL wide vars t
  · obtain ⟨k1, k2, k3, k4, k5, r, hr, hok, hrf, hrk⟩ := root_tree hk
    obtain ⟨W, rfl, hW1, hW64⟩ := wideB_true k1
    obtain ⟨V, rfl⟩ : ∃ V : Nat, vars = (V : Int) := ⟨vars.toNat, by omega⟩
    have g1 := rootOf_yes W V v t w0 (hT.below hb0 hT.some) (h.below hb0) r hk hr
    have hnd : NdB r := fun x hx => by
      rw [hrf] at hx
      have h1 := h.1 x hx
      exact ⟨h1.2.2.1, h1.2.2.2⟩
    have hsz : r.size ≤ 48 := by rw [← Tr.flat_len, hrf]; omega
    have GP : Hid (∀ (b : Nat) (w1 : World), TrAt w1 (Old w1) r b → Calls Tryd.prog 54 #[ptr b] w1 fun e w' => e = .returned (.bool (t.all plainX)) ∧ Below w1.heap.size w1 w') := by
      intro b w1 h1
      have g := plain_any r b w1 h1
      rw [hrf] at g
      exact g
    by_cases hw4 : (W : Int) ≤ 4
    · have gL := fun w1 => goodLaid_any (W : Int) w1
      rw [decide_eq_true ⟨by omega, hw4⟩] at gL
      cases hpz : t.all plainX with
      | false =>
        have hB : gatesB W V t = false := by unfold gatesB plainL; rw [hpz, Bool.and_false, Bool.false_and]
        have hR : gatesR W V t = (0, [], []) := by unfold gatesR; rw [hB]; rfl
        rw [hB, hR]
        rw [hpz] at GP
        clear h hT hok hnd hr hk k1 hb0 hx0 hw0
        go_enter Tryd.func20, Tryd.ntmps20
        go_wp2_with fail
        rw [HW0.out]
        refine g1.mono ?_
        rintro e w1 ⟨p, rfl, htr, hs1⟩
        have HTR : Hid (TrAt w1 (Old w1) r p) := htr
        have HB1 : Hid (Below w.heap.size w w1) := HB0.out.trans (hs1.mono HB0.out.size)
        have HX1 : Hid (Box3 w1 w.heap.size 41 (.int .i64 0) (.slice none 0 0) (.slice none 0 0)) := HX0.out.below hs1 HX0.out.lt
        clear g1 htr hs1
        go_wp2_with fail
        refine (gL _).mono ?_
        rintro e w1' ⟨rfl, rfl⟩
        go_wp2_with fail
        refine (GP.out p _ HTR.out).mono ?_
        rintro e w2 ⟨rfl, hs2⟩
        have HB2 : Hid (Below w.heap.size w w2) := HB1.out.trans (hs2.mono HB1.out.size)
        have HX2 : Hid (Box3 w2 w.heap.size 41 (.int .i64 0) (.slice none 0 0) (.slice none 0 0)) := HX1.out.below hs2 HX1.out.lt
        obtain ⟨e0, e1, e2⟩ := HX2.out.cells
        have f0 := HX2.out.frozen 0
        have f1 := HX2.out.frozen 1
        have f2 := HX2.out.frozen 2
        have q0 := HX2.out.heap
        have q1 := HX2.out.lt
        clear hs2 gL GP
        go_wp2_with fail
        refine bodyPost_ret (results_c1 rfl _ _ w.heap.size 41 _ (0, 0) _ rfl (zero_box HX2.out).heap Tryd.underlying41 rfl (by kernel_rfl)) rfl ?_
        exact ⟨_, rfl, HEND.out w2 HB2.out HX2.out⟩
      | true =>
        have hpl : plainT r := fun x hx => by
          rw [hrf] at hx
          exact plainX_true (List.all_eq_true.1 hpz x hx)
        have hgc := gatesC_tree hok hrf
        have hci := gatesC_ok (t := t) hW1 (by omega) k2 k3 hok hpl hnd hsz
        have GL : Hid (∀ (b : Nat) (w1 : World), TrAt w1 (Old w1) r b → Calls Tryd.prog 55 #[ptr b, .int .i64 W, .int .i64 V] w1 fun e w' => ∃ v, e = .returned v ∧ OwnCirc w' w1.heap.size w'.heap.size v (gatesC W V t) ∧ Below w1.heap.size w1 w') := by
          intro b w1 h1
          rw [hgc]
          exact laid_any W V hW1 (by omega) (by omega) (by omega) r b w1 h1 hok hpl hnd hsz
        have hciC : CiOk (gatesC W V t) := by rw [hgc]; exact hci
        have HREAD : Hid (∀ (w1 : World) (lo hi : Nat) (v1 : Value), OwnCirc w1 lo hi v1 (gatesC W V t) → AtCirc w1 v1 (gatesC W V t)) := fun w1 lo hi v1 ho => ho.reads hciC
        have GG : Hid (∀ (v1 : Value) (w1 : World), AtCirc w1 v1 (gatesC W V t) → Calls Tryd.prog 56 #[v1] w1 fun e w' => e = .returned (.bool (goodC (gatesC W V t))) ∧ Below w1.heap.size w1 w') := fun v1 w1 h1 => iGood_any v1 _ w1 h1
        have hB : gatesB W V t = goodC (gatesC W V t) := by unfold gatesB plainL; rw [hpz, decide_eq_true hk, decide_eq_true hw4]; rfl
        have hR : gatesR W V t = if goodC (gatesC W V t) = true then gatesC W V t else (0, [], []) := by unfold gatesR; rw [hB]
        rw [hB, hR]
        rw [hpz] at GP
        obtain ⟨C, hC⟩ : ∃ C, gatesC W V t = C := ⟨_, rfl⟩
        rw [hC] at GL HREAD GG ⊢
        obtain ⟨ins, gs, os⟩ := C
        cases hgd : goodC (ins, gs, os) with
        | false =>
          rw [hgd] at GG
          rw [if_neg (by decide)]
          clear h hT hok hnd hr hk k1 hb0 hx0 hw0 hgc hci hciC hB hR hC hpl
          go_enter Tryd.func20, Tryd.ntmps20
          go_wp2_with fail
          rw [HW0.out]
          refine g1.mono ?_
          rintro e w1 ⟨p, rfl, htr, hs1⟩
          have HTR : Hid (TrAt w1 (Old w1) r p) := htr
          have HB1 : Hid (Below w.heap.size w w1) := HB0.out.trans (hs1.mono HB0.out.size)
          have HX1 : Hid (Box3 w1 w.heap.size 41 (.int .i64 0) (.slice none 0 0) (.slice none 0 0)) := HX0.out.below hs1 HX0.out.lt
          clear g1 htr hs1
          go_wp2_with fail
          refine (gL _).mono ?_
          rintro e w1' ⟨rfl, rfl⟩
          go_wp2_with fail
          refine (GP.out p _ HTR.out).mono ?_
          rintro e w2 ⟨rfl, hs2⟩
          have HTR2 : Hid (TrAt w2 (Old w2) r p) := HTR.out.below hs2
          have HB2 : Hid (Below w.heap.size w w2) := HB1.out.trans (hs2.mono HB1.out.size)
          have HX2 : Hid (Box3 w2 w.heap.size 41 (.int .i64 0) (.slice none 0 0) (.slice none 0 0)) := HX1.out.below hs2 HX1.out.lt
          have HX2LT : Hid (w.heap.size < w2.heap.size) := HX2.out.lt
          clear hs2 gL GP HTR HB1 HX1 HX0 HB0
          go_wp2_with fail
          refine (GL.out p _ HTR2.out).mono ?_
          rintro e w3 ⟨v3, rfl, ho3, hs3⟩
          have HB3 : Hid (Below w.heap.size w w3) := HB2.out.trans (hs3.mono HB2.out.size)
          have HX3 : Hid (Box3 w3 w.heap.size 41 (.int .i64 0) (.slice none 0 0) (.slice none 0 0)) := HX2.out.below hs3 HX2.out.lt
          have hsz23 := HB2.out.size
          obtain ⟨ga, gn, gc, oa, on, oc, rfl⟩ := ho3.shape
          have HO3 : Hid (OwnCirc w3 w2.heap.size w3.heap.size (.agg #[.int .i64 ins, .slice ga gn gc, .slice oa on oc]) (ins, gs, os)) := ho3
          clear ho3 hs3 GL HTR2 HB2 HX2
          -- the local c
          have ho4 := HO3.out.same (w' := w3.alloc (.cells #[.int .i64 ins, .slice ga gn gc, .slice oa on oc] 41)) (below_alloc _ _).size (fun i _ h2 => (below_alloc _ _).block i h2)
          have hx4 := HX3.out.alloc (.cells #[.int .i64 ins, .slice ga gn gc, .slice oa on oc] 41)
          have hy4 := box3_alloc w3 41 (.int .i64 ins) (.slice ga gn gc) (.slice oa on oc)
          have hb4 := HB3.out.alloc HB3.out.size (.cells #[.int .i64 ins, .slice ga gn gc, .slice oa on oc] 41)
          have hsz4 := (below_alloc w3 (.cells #[.int .i64 ins, .slice ga gn gc, .slice oa on oc] 41)).size
          go_wp2_with fail
          generalize w3.alloc (.cells #[.int .i64 ins, .slice ga gn gc, .slice oa on oc] 41) = w4 at *
          refine (GG.out _ _ (HREAD.out _ _ _ _ ho4)).mono ?_
          rintro e w5 ⟨rfl, hs5⟩
          have HB5 : Hid (Below w.heap.size w w5) := hb4.trans (hs5.mono hb4.size)
          have HX5 : Hid (Box3 w5 w.heap.size 41 (.int .i64 0) (.slice none 0 0) (.slice none 0 0)) := hx4.below hs5 hx4.lt
          obtain ⟨e0, e1, e2⟩ := HX5.out.cells
          have f0 := HX5.out.frozen 0
          have f1 := HX5.out.frozen 1
          have f2 := HX5.out.frozen 2
          have q0 := HX5.out.heap
          have q1 := HX5.out.lt
          clear hs5 hb4 hx4 hy4 ho4 HO3 GG HREAD
          go_wp2_with fail
          refine bodyPost_ret (results_c1 rfl _ _ w.heap.size 41 _ (0, 0) _ rfl (zero_box HX5.out).heap Tryd.underlying41 rfl (by kernel_rfl)) rfl ?_
          exact ⟨_, rfl, HEND.out w5 HB5.out HX5.out⟩
        | true =>
          rw [hgd] at GG
          rw [if_pos rfl]
          clear h hT hok hnd hr hk k1 hb0 hx0 hw0 hgc hci hciC hB hR hC hpl
          go_enter Tryd.func20, Tryd.ntmps20
          go_wp2_with fail
          rw [HW0.out]
          refine g1.mono ?_
          rintro e w1 ⟨p, rfl, htr, hs1⟩
          have HTR : Hid (TrAt w1 (Old w1) r p) := htr
          have HB1 : Hid (Below w.heap.size w w1) := HB0.out.trans (hs1.mono HB0.out.size)
          have HX1 : Hid (Box3 w1 w.heap.size 41 (.int .i64 0) (.slice none 0 0) (.slice none 0 0)) := HX0.out.below hs1 HX0.out.lt
          clear g1 htr hs1
          go_wp2_with fail
          refine (gL _).mono ?_
          rintro e w1' ⟨rfl, rfl⟩
          go_wp2_with fail
          refine (GP.out p _ HTR.out).mono ?_
          rintro e w2 ⟨rfl, hs2⟩
          have HTR2 : Hid (TrAt w2 (Old w2) r p) := HTR.out.below hs2
          have HB2 : Hid (Below w.heap.size w w2) := HB1.out.trans (hs2.mono HB1.out.size)
          have HX2 : Hid (Box3 w2 w.heap.size 41 (.int .i64 0) (.slice none 0 0) (.slice none 0 0)) := HX1.out.below hs2 HX1.out.lt
          have HX2LT : Hid (w.heap.size < w2.heap.size) := HX2.out.lt
          clear hs2 gL GP HTR HB1 HX1 HX0 HB0
          go_wp2_with fail
          refine (GL.out p _ HTR2.out).mono ?_
          rintro e w3 ⟨v3, rfl, ho3, hs3⟩
          have HB3 : Hid (Below w.heap.size w w3) := HB2.out.trans (hs3.mono HB2.out.size)
          have HX3 : Hid (Box3 w3 w.heap.size 41 (.int .i64 0) (.slice none 0 0) (.slice none 0 0)) := HX2.out.below hs3 HX2.out.lt
          have hsz23 := HB2.out.size
          obtain ⟨ga, gn, gc, oa, on, oc, rfl⟩ := ho3.shape
          have HO3 : Hid (OwnCirc w3 w2.heap.size w3.heap.size (.agg #[.int .i64 ins, .slice ga gn gc, .slice oa on oc]) (ins, gs, os)) := ho3
          clear ho3 hs3 GL HTR2 HB2 HX2
          -- the local c
          have ho4 := HO3.out.same (w' := w3.alloc (.cells #[.int .i64 ins, .slice ga gn gc, .slice oa on oc] 41)) (below_alloc _ _).size (fun i _ h2 => (below_alloc _ _).block i h2)
          have hx4 := HX3.out.alloc (.cells #[.int .i64 ins, .slice ga gn gc, .slice oa on oc] 41)
          have hy4 := box3_alloc w3 41 (.int .i64 ins) (.slice ga gn gc) (.slice oa on oc)
          have hb4 := HB3.out.alloc HB3.out.size (.cells #[.int .i64 ins, .slice ga gn gc, .slice oa on oc] 41)
          have hsz4 := (below_alloc w3 (.cells #[.int .i64 ins, .slice ga gn gc, .slice oa on oc] 41)).size
          go_wp2_with fail
          generalize w3.alloc (.cells #[.int .i64 ins, .slice ga gn gc, .slice oa on oc] 41) = w4 at *
          refine (GG.out _ _ (HREAD.out _ _ _ _ ho4)).mono ?_
          rintro e w5 ⟨rfl, hs5⟩
          have HB5 : Hid (Below w.heap.size w w5) := hb4.trans (hs5.mono hb4.size)
          have HX5 : Hid (Box3 w5 w.heap.size 41 (.int .i64 0) (.slice none 0 0) (.slice none 0 0)) := hx4.below hs5 hx4.lt
          have hy5 := hy4.below hs5 hy4.lt
          have ho5 := ho4.same hs5.size (fun i _ h2 => hs5.block i (Nat.lt_of_lt_of_le h2 ho4.hi))
          have HO5 : Hid (OwnCirc w5 w2.heap.size w3.heap.size (.agg #[.int .i64 ins, .slice ga gn gc, .slice oa on oc]) (ins, gs, os)) := ho5
          have hs5s := hs5.size
          obtain ⟨e0, e1, e2⟩ := HX5.out.cells
          have f0 := HX5.out.frozen 0
          have f1 := HX5.out.frozen 1
          have f2 := HX5.out.frozen 2
          have q0 := HX5.out.heap
          have q1 := HX5.out.lt
          obtain ⟨d0, d1, d2⟩ := hy5.cells
          have p0 := hy5.heap
          have p1 := hy5.lt
          have hlt2 : w.heap.size < w2.heap.size := HX2LT.out
          clear hs5 hb4 hx4 hy4 ho4 ho5 HO3 GG HREAD hy5
          go_wp2_with fail
          have z9 := ((HX5.out.set0 (.int .i64 ins)).set1 (.slice ga gn gc)).set2 (.slice oa on oc)
          refine bodyPost_ret (results_c1 rfl _ _ w.heap.size 41 _ (0, 0) _ rfl z9.heap Tryd.underlying41 rfl (by kernel_rfl)) rfl ?_
          refine ⟨_, rfl, ?_, ((HB5.out.setCell (p := ⟨w.heap.size, 0, none⟩) (Nat.le_refl _) _).setCell (p := ⟨w.heap.size, 1, none⟩) (Nat.le_refl _) _).setCell (p := ⟨w.heap.size, 2, none⟩) (Nat.le_refl _) _⟩
          obtain ⟨g_, o_, e_, r1, r2⟩ := HO5.out
          show OwnCirc _ _ _ _ (ins, gs, os)
          refine ⟨g_, o_, e_, ?_, ?_⟩
          · exact (((r1.set (Or.inl hlt2)).set (Or.inl hlt2)).set (Or.inl hlt2)).weak (by omega) (by simp [World.setCell]; omega) (Nat.le_refl _)
          · exact (((r2.set (Or.inl hlt2)).set (Or.inl hlt2)).set (Or.inl hlt2)).weak (by omega) (by simp [World.setCell]; omega) (Nat.le_refl _)
    · have gL := fun w1 => goodLaid_any (W : Int) w1
      rw [decide_eq_false (fun h => hw4 h.2)] at gL
      have hB : gatesB W V t = false := by unfold gatesB; rw [decide_eq_false hw4, Bool.false_and, Bool.and_false]
      have hR : gatesR W V t = (0, [], []) := by unfold gatesR; rw [hB]; rfl
      rw [hB, hR]
      clear h hT hok hnd hr hk k1 hb0 hx0 hw0 GP
      go_enter Tryd.func20, Tryd.ntmps20
      go_wp2_with fail
      rw [HW0.out]
      refine g1.mono ?_
      rintro e w2 ⟨p, rfl, _, hs1⟩
      have HB2 : Hid (Below w.heap.size w w2) := HB0.out.trans (hs1.mono HB0.out.size)
      have HX2 : Hid (Box3 w2 w.heap.size 41 (.int .i64 0) (.slice none 0 0) (.slice none 0 0)) := HX0.out.below hs1 HX0.out.lt
      clear g1 hs1
      go_wp2_with fail
      refine (gL _).mono ?_
      rintro e w1' ⟨rfl, hw1'⟩
      have hw2' := hw1'.symm
      subst hw2'
      clear hw1'
      obtain ⟨e0, e1, e2⟩ := HX2.out.cells
      have f0 := HX2.out.frozen 0
      have f1 := HX2.out.frozen 1
      have f2 := HX2.out.frozen 2
      have q0 := HX2.out.heap
      have q1 := HX2.out.lt
      clear gL
      go_wp2_with fail
      refine bodyPost_ret (results_c1 rfl _ _ w.heap.size 41 _ (0, 0) _ rfl (zero_box HX2.out).heap Tryd.underlying41 rfl (by kernel_rfl)) rfl ?_
      exact ⟨_, rfl, HEND.out w2 HB2.out HX2.out⟩
  · have g1 := rootOf_no wide vars v t w0 (hT.below hb0 hT.some) (h.below hb0) hk
    have hB : gatesB wide vars t = false := by unfold gatesB plainL; rw [decide_eq_false hk, Bool.false_and, Bool.false_and]
    have hR : gatesR wide vars t = (0, [], []) := by unfold gatesR; rw [hB]; rfl
    rw [hB, hR]
    clear h hT hk hb0 hx0 hw0
    go_enter Tryd.func20, Tryd.ntmps20
    go_wp2_with fail
    rw [HW0.out]
    refine g1.mono ?_
    rintro e w2 ⟨rfl, hs1⟩
    have HB2 : Hid (Below w.heap.size w w2) := HB0.out.trans (hs1.mono HB0.out.size)
    have HX2 : Hid (Box3 w2 w.heap.size 41 (.int .i64 0) (.slice none 0 0) (.slice none 0 0)) := HX0.out.below hs1 HX0.out.lt
    clear g1 hs1
    obtain ⟨e0, e1, e2⟩ := HX2.out.cells
    have f0 := HX2.out.frozen 0
    have f1 := HX2.out.frozen 1
    have f2 := HX2.out.frozen 2
    have q0 := HX2.out.heap
    have q1 := HX2.out.lt
    go_wp2_with fail
    refine bodyPost_ret (results_c1 rfl _ _ w.heap.size 41 _ (0, 0) _ rfl (zero_box HX2.out).heap Tryd.underlying41 rfl (by kernel_rfl)) rfl ?_
    exact ⟨_, rfl, HEND.out w2 HB2.out HX2.out⟩
end Go.Proofs.YtpjllhlbdcanlaaDoor

namespace Go.Proofs.YtpjllhlbdcanlaaDoor
open Go Go.RowKit
open M
set_option linter.unusedVariables false
set_option linter.unusedSimpArgs false

set_option maxRecDepth 100000 in
set_option maxHeartbeats 8000000 in
theorem sGatesFor_any (wide vars : Int) (v : Value) (t : List Nd) (w : World) (h : NodesAt w v t) :
    Calls Tryd.prog 18 #[.int .i64 wide, .int .i64 vars, v] w fun e w' => ∃ r, e = .returned (.tuple #[r, .bool (gatesB wide vars t)]) ∧ OwnCirc w' w.heap.size w'.heap.size r (gatesR wide vars t) ∧ Below w.heap.size w w' := by
  obtain ⟨w0, hw0⟩ : ∃ w0, w.alloc (.cells #[.int .i64 0, .slice none 0 0, .slice none 0 0] 41) = w0 := ⟨_, rfl⟩
  have hb0 : Below w.heap.size w w0 := by rw [← hw0]; exact below_alloc _ _
  have hx0 : Box3 w0 w.heap.size 41 (.int .i64 0) (.slice none 0 0) (.slice none 0 0) := by rw [← hw0]; exact box3_alloc _ _ _ _ _
  have HW0 : Hid (w.alloc (.cells #[.int .i64 0, .slice none 0 0, .slice none 0 0] 41) = w0) := hw0
  have HX0 : Hid (Box3 w0 w.heap.size 41 (.int .i64 0) (.slice none 0 0) (.slice none 0 0)) := hx0
  have HB0 : Hid (Below w.heap.size w w0) := hb0
  have HEND : Hid (∀ w9 : World, Below w.heap.size w w9 → Box3 w9 w.heap.size 41 (.int .i64 0) (.slice none 0 0) (.slice none 0 0) → OwnCirc (((w9.setCell ⟨w.heap.size, 0, none⟩ (.int .i64 0)).setCell ⟨w.heap.size, 1, none⟩ (.slice none 0 0)).setCell ⟨w.heap.size, 2, none⟩ (.slice none 0 0)) w.heap.size (((w9.setCell ⟨w.heap.size, 0, none⟩ (.int .i64 0)).setCell ⟨w.heap.size, 1, none⟩ (.slice none 0 0)).setCell ⟨w.heap.size, 2, none⟩ (.slice none 0 0)).heap.size (.agg #[.int .i64 0, .slice none 0 0, .slice none 0 0]) (0, [], []) ∧ Below w.heap.size w (((w9.setCell ⟨w.heap.size, 0, none⟩ (.int .i64 0)).setCell ⟨w.heap.size, 1, none⟩ (.slice none 0 0)).setCell ⟨w.heap.size, 2, none⟩ (.slice none 0 0))) :=
    fun w9 hb hx => ⟨zero_own _ _ _ (Nat.le_refl _), ((hb.setCell (p := ⟨w.heap.size, 0, none⟩) (Nat.le_refl _) _).setCell (p := ⟨w.heap.size, 1, none⟩) (Nat.le_refl _) _).setCell (p := ⟨w.heap.size, 2, none⟩) (Nat.le_refl _) _⟩
  have gP := sIsPlain_any wide vars v t w0 (h.below hb0)
  have gL := fun w1 => l5Wide_any wide w1
  by_cases hk : 0 < kindL wide vars t
  · rw [decide_eq_true hk] at gP
    cases hpl : plainL wide vars t with
    | false =>
      have hB : gatesB wide vars t = false := by unfold gatesB; rw [hpl, Bool.false_and]
      have hR : gatesR wide vars t = (0, [], []) := by unfold gatesR; rw [hB]; rfl
      rw [hB, hR]
      rw [hpl] at gP
      clear h hk hb0 hx0 hw0 gL hB hR hpl
      go_enter Tryd.func18, Tryd.ntmps18
      go_wp2_with fail
      rw [HW0.out]
      refine gP.mono ?_
      rintro e w1 ⟨rfl, hs1⟩
      have HB1 : Hid (Below w.heap.size w w1) := HB0.out.trans (hs1.mono HB0.out.size)
      have HX1 : Hid (Box3 w1 w.heap.size 41 (.int .i64 0) (.slice none 0 0) (.slice none 0 0)) := HX0.out.below hs1 HX0.out.lt
      clear gP hs1
      obtain ⟨e0, e1, e2⟩ := HX1.out.cells
      have f0 := HX1.out.frozen 0
      have f1 := HX1.out.frozen 1
      have f2 := HX1.out.frozen 2
      have q0 := HX1.out.heap
      have q1 := HX1.out.lt
      go_wp2_with fail
      refine bodyPost_ret (results_c1 rfl _ _ w.heap.size 41 _ (0, 0) _ rfl (zero_box HX1.out).heap Tryd.underlying41 rfl (by kernel_rfl)) rfl ?_
      exact ⟨_, rfl, HEND.out w1 HB1.out HX1.out⟩
    | true =>
      rw [hpl] at gP
      by_cases hw4 : 1 ≤ wide ∧ wide ≤ 4
      · rw [decide_eq_true hw4] at gL
        obtain ⟨k1, k2, k3, k4, k5, r, hr, hok, hrf, hrk⟩ := root_tree hk
        obtain ⟨W, rfl⟩ : ∃ W : Nat, wide = (W : Int) := ⟨wide.toNat, by omega⟩
        obtain ⟨V, rfl⟩ : ∃ V : Nat, vars = (V : Int) := ⟨vars.toNat, by omega⟩
        have hpz : t.all plainX = true := by
          unfold plainL at hpl
          rw [decide_eq_true hk, Bool.true_and] at hpl
          exact hpl
        have hpn : ∀ x ∈ t, plainN x := fun x hx => plainX_true (List.all_eq_true.1 hpz x hx)
        have hfold : foldK W V t [] = some [r.kind] := by
          have h1 := foldK_of_pileT hr
          rw [List.take_length] at h1
          simpa using h1
        have hplr : plainT r := fun x hx => by
          rw [hrf] at hx
          exact hpn x hx
        have hnd : NdB r := fun x hx => by
          rw [hrf] at hx
          have h1 := h.1 x hx
          exact ⟨h1.2.2.1, h1.2.2.2⟩
        have hsz : r.size ≤ 48 := by rw [← Tr.flat_len, hrf]; omega
        have hgc := gatesC_tree hok hrf
        have hci := gatesC_ok (t := t) (W := W) (by omega) (by omega) k2 k3 hok hplr hnd hsz
        have hciC : CiOk (gatesC W V t) := by rw [hgc]; exact hci
        have GL : Hid (∀ w1 : World, Below w.heap.size w w1 → Calls Tryd.prog 50 #[.int .i64 W, .int .i64 V, v] w1 fun e w' => ∃ v, e = .returned v ∧ OwnCirc w' w1.heap.size w'.heap.size v (gatesC W V t) ∧ Below w1.heap.size w1 w') := by
          intro w1 hb1
          obtain ⟨hokn, _, h3⟩ := h.below hb1 |> fun (q : NodesAt w1 v t) => q
          rcases h3 with ⟨e, _⟩ | ⟨b, off, cap, hv, hlt, hc⟩
          · rw [e] at k4; simp at k4
          · rw [hv]
            exact sGates_in W V (by omega) (by omega) (by omega) (by omega) b off cap t k5 hokn hpn (good_var hk).2.2.2 r.kind hfold w1 hlt hc
        have HREAD : Hid (∀ (w1 : World) (lo hi : Nat) (v1 : Value), OwnCirc w1 lo hi v1 (gatesC W V t) → AtCirc w1 v1 (gatesC W V t)) := fun w1 lo hi v1 ho => ho.reads hciC
        have GG : Hid (∀ (v1 : Value) (w1 : World), AtCirc w1 v1 (gatesC W V t) → Calls Tryd.prog 51 #[v1] w1 fun e w' => e = .returned (.bool (goodC (gatesC W V t))) ∧ Below w1.heap.size w1 w') := fun v1 w1 h1 => sGood_any v1 _ w1 h1
        have hB : gatesB W V t = goodC (gatesC W V t) := by unfold gatesB; rw [hpl, decide_eq_true hw4.2]; rfl
        have hR : gatesR W V t = if goodC (gatesC W V t) = true then gatesC W V t else (0, [], []) := by unfold gatesR; rw [hB]
        rw [hB, hR]
        obtain ⟨C, hC⟩ : ∃ C, gatesC W V t = C := ⟨_, rfl⟩
        rw [hC] at GL HREAD GG ⊢
        obtain ⟨ins, gs, os⟩ := C
        obtain ⟨va, vcap, hvsh⟩ := h.shape
        cases hgd : goodC (ins, gs, os) with
        | false =>
          rw [hgd] at GG
          rw [if_neg (by decide)]
          clear h hok hnd hr hk k1 hb0 hx0 hw0 hgc hci hciC hB hR hC hplr hpn hpz hpl hfold
          subst hvsh
          go_enter Tryd.func18, Tryd.ntmps18
          go_wp2_with fail
          rw [HW0.out]
          refine gP.mono ?_
          rintro e w1 ⟨rfl, hs1⟩
          have HB1 : Hid (Below w.heap.size w w1) := HB0.out.trans (hs1.mono HB0.out.size)
          have HX1 : Hid (Box3 w1 w.heap.size 41 (.int .i64 0) (.slice none 0 0) (.slice none 0 0)) := HX0.out.below hs1 HX0.out.lt
          clear gP hs1
          go_wp2_with fail
          refine (gL _).mono ?_
          rintro e w1' ⟨rfl, hw1'⟩
          have hw2' := hw1'.symm
          subst hw2'
          clear hw1' gL
          have HX1LT : Hid (w.heap.size < w1.heap.size) := HX1.out.lt
          go_wp2_with fail
          refine (GL.out _ HB1.out).mono ?_
          rintro e w3 ⟨v3, rfl, ho3, hs3⟩
          have HB3 : Hid (Below w.heap.size w w3) := HB1.out.trans (hs3.mono HB1.out.size)
          have HX3 : Hid (Box3 w3 w.heap.size 41 (.int .i64 0) (.slice none 0 0) (.slice none 0 0)) := HX1.out.below hs3 HX1.out.lt
          have hsz23 := HB1.out.size
          obtain ⟨ga, gn, gc, oa, on, oc, rfl⟩ := ho3.shape
          have HO3 : Hid (OwnCirc w3 w1.heap.size w3.heap.size (.agg #[.int .i64 ins, .slice ga gn gc, .slice oa on oc]) (ins, gs, os)) := ho3
          clear ho3 hs3 GL HB1 HX1 HX0 HB0
          have ho4 := HO3.out.same (w' := w3.alloc (.cells #[.int .i64 ins, .slice ga gn gc, .slice oa on oc] 41)) (below_alloc _ _).size (fun i _ h2 => (below_alloc _ _).block i h2)
          have hx4 := HX3.out.alloc (.cells #[.int .i64 ins, .slice ga gn gc, .slice oa on oc] 41)
          have hy4 := box3_alloc w3 41 (.int .i64 ins) (.slice ga gn gc) (.slice oa on oc)
          have hb4 := HB3.out.alloc HB3.out.size (.cells #[.int .i64 ins, .slice ga gn gc, .slice oa on oc] 41)
          have hsz4 := (below_alloc w3 (.cells #[.int .i64 ins, .slice ga gn gc, .slice oa on oc] 41)).size
          go_wp2_with fail
          generalize w3.alloc (.cells #[.int .i64 ins, .slice ga gn gc, .slice oa on oc] 41) = w4 at *
          refine (GG.out _ _ (HREAD.out _ _ _ _ ho4)).mono ?_
          rintro e w5 ⟨rfl, hs5⟩
          have HB5 : Hid (Below w.heap.size w w5) := hb4.trans (hs5.mono hb4.size)
          have HX5 : Hid (Box3 w5 w.heap.size 41 (.int .i64 0) (.slice none 0 0) (.slice none 0 0)) := hx4.below hs5 hx4.lt
          clear hs5 hb4 hx4 hy4 ho4 HO3 GG HREAD
          obtain ⟨e0, e1, e2⟩ := HX5.out.cells
          have f0 := HX5.out.frozen 0
          have f1 := HX5.out.frozen 1
          have f2 := HX5.out.frozen 2
          have q0 := HX5.out.heap
          have q1 := HX5.out.lt
          go_wp2_with fail
          refine bodyPost_ret (results_c1 rfl _ _ w.heap.size 41 _ (0, 0) _ rfl (zero_box HX5.out).heap Tryd.underlying41 rfl (by kernel_rfl)) rfl ?_
          exact ⟨_, rfl, HEND.out w5 HB5.out HX5.out⟩
        | true =>
          rw [hgd] at GG
          rw [if_pos rfl]
          clear h hok hnd hr hk k1 hb0 hx0 hw0 hgc hci hciC hB hR hC hplr hpn hpz hpl hfold
          subst hvsh
          go_enter Tryd.func18, Tryd.ntmps18
          go_wp2_with fail
          rw [HW0.out]
          refine gP.mono ?_
          rintro e w1 ⟨rfl, hs1⟩
          have HB1 : Hid (Below w.heap.size w w1) := HB0.out.trans (hs1.mono HB0.out.size)
          have HX1 : Hid (Box3 w1 w.heap.size 41 (.int .i64 0) (.slice none 0 0) (.slice none 0 0)) := HX0.out.below hs1 HX0.out.lt
          clear gP hs1
          go_wp2_with fail
          refine (gL _).mono ?_
          rintro e w1' ⟨rfl, hw1'⟩
          have hw2' := hw1'.symm
          subst hw2'
          clear hw1' gL
          have HX1LT : Hid (w.heap.size < w1.heap.size) := HX1.out.lt
          go_wp2_with fail
          refine (GL.out _ HB1.out).mono ?_
          rintro e w3 ⟨v3, rfl, ho3, hs3⟩
          have HB3 : Hid (Below w.heap.size w w3) := HB1.out.trans (hs3.mono HB1.out.size)
          have HX3 : Hid (Box3 w3 w.heap.size 41 (.int .i64 0) (.slice none 0 0) (.slice none 0 0)) := HX1.out.below hs3 HX1.out.lt
          have hsz23 := HB1.out.size
          obtain ⟨ga, gn, gc, oa, on, oc, rfl⟩ := ho3.shape
          have HO3 : Hid (OwnCirc w3 w1.heap.size w3.heap.size (.agg #[.int .i64 ins, .slice ga gn gc, .slice oa on oc]) (ins, gs, os)) := ho3
          clear ho3 hs3 GL HB1 HX1 HX0 HB0
          have ho4 := HO3.out.same (w' := w3.alloc (.cells #[.int .i64 ins, .slice ga gn gc, .slice oa on oc] 41)) (below_alloc _ _).size (fun i _ h2 => (below_alloc _ _).block i h2)
          have hx4 := HX3.out.alloc (.cells #[.int .i64 ins, .slice ga gn gc, .slice oa on oc] 41)
          have hy4 := box3_alloc w3 41 (.int .i64 ins) (.slice ga gn gc) (.slice oa on oc)
          have hb4 := HB3.out.alloc HB3.out.size (.cells #[.int .i64 ins, .slice ga gn gc, .slice oa on oc] 41)
          have hsz4 := (below_alloc w3 (.cells #[.int .i64 ins, .slice ga gn gc, .slice oa on oc] 41)).size
          go_wp2_with fail
          generalize w3.alloc (.cells #[.int .i64 ins, .slice ga gn gc, .slice oa on oc] 41) = w4 at *
          refine (GG.out _ _ (HREAD.out _ _ _ _ ho4)).mono ?_
          rintro e w5 ⟨rfl, hs5⟩
          have HB5 : Hid (Below w.heap.size w w5) := hb4.trans (hs5.mono hb4.size)
          have HX5 : Hid (Box3 w5 w.heap.size 41 (.int .i64 0) (.slice none 0 0) (.slice none 0 0)) := hx4.below hs5 hx4.lt
          have hy5 := hy4.below hs5 hy4.lt
          have ho5 := ho4.same hs5.size (fun i _ h2 => hs5.block i (Nat.lt_of_lt_of_le h2 ho4.hi))
          have HO5 : Hid (OwnCirc w5 w1.heap.size w3.heap.size (.agg #[.int .i64 ins, .slice ga gn gc, .slice oa on oc]) (ins, gs, os)) := ho5
          have hs5s := hs5.size
          obtain ⟨e0, e1, e2⟩ := HX5.out.cells
          have f0 := HX5.out.frozen 0
          have f1 := HX5.out.frozen 1
          have f2 := HX5.out.frozen 2
          have q0 := HX5.out.heap
          have q1 := HX5.out.lt
          obtain ⟨d0, d1, d2⟩ := hy5.cells
          have p0 := hy5.heap
          have p1 := hy5.lt
          have hlt2 : w.heap.size < w1.heap.size := HX1LT.out
          clear hs5 hb4 hx4 hy4 ho4 ho5 HO3 GG HREAD hy5
          go_wp2_with fail
          have z9 := ((HX5.out.set0 (.int .i64 ins)).set1 (.slice ga gn gc)).set2 (.slice oa on oc)
          refine bodyPost_ret (results_c1 rfl _ _ w.heap.size 41 _ (0, 0) _ rfl z9.heap Tryd.underlying41 rfl (by kernel_rfl)) rfl ?_
          refine ⟨_, rfl, ?_, ((HB5.out.setCell (p := ⟨w.heap.size, 0, none⟩) (Nat.le_refl _) _).setCell (p := ⟨w.heap.size, 1, none⟩) (Nat.le_refl _) _).setCell (p := ⟨w.heap.size, 2, none⟩) (Nat.le_refl _) _⟩
          obtain ⟨g_, o_, e_, r1, r2⟩ := HO5.out
          show OwnCirc _ _ _ _ (ins, gs, os)
          refine ⟨g_, o_, e_, ?_, ?_⟩
          · exact (((r1.set (Or.inl hlt2)).set (Or.inl hlt2)).set (Or.inl hlt2)).weak (by omega) (by simp [World.setCell]; omega) (Nat.le_refl _)
          · exact (((r2.set (Or.inl hlt2)).set (Or.inl hlt2)).set (Or.inl hlt2)).weak (by omega) (by simp [World.setCell]; omega) (Nat.le_refl _)
      · rw [decide_eq_false hw4] at gL
        have hB : gatesB wide vars t = false := by
          have h1 : ¬ wide ≤ 4 := by
            obtain ⟨k1, _⟩ := root_tree hk
            obtain ⟨W, hW, h2, h3⟩ := wideB_true k1
            omega
          unfold gatesB
          rw [decide_eq_false h1, Bool.false_and, Bool.and_false]
        have hR : gatesR wide vars t = (0, [], []) := by unfold gatesR; rw [hB]; rfl
        rw [hB, hR]
        clear h hk hb0 hx0 hw0 hB hR hpl hw4
        go_enter Tryd.func18, Tryd.ntmps18
        go_wp2_with fail
        rw [HW0.out]
        refine gP.mono ?_
        rintro e w1 ⟨rfl, hs1⟩
        have HB1 : Hid (Below w.heap.size w w1) := HB0.out.trans (hs1.mono HB0.out.size)
        have HX1 : Hid (Box3 w1 w.heap.size 41 (.int .i64 0) (.slice none 0 0) (.slice none 0 0)) := HX0.out.below hs1 HX0.out.lt
        clear gP hs1
        go_wp2_with fail
        refine (gL _).mono ?_
        rintro e w1' ⟨rfl, hw1'⟩
        have hw2' := hw1'.symm
        subst hw2'
        clear hw1' gL
        obtain ⟨e0, e1, e2⟩ := HX1.out.cells
        have f0 := HX1.out.frozen 0
        have f1 := HX1.out.frozen 1
        have f2 := HX1.out.frozen 2
        have q0 := HX1.out.heap
        have q1 := HX1.out.lt
        go_wp2_with fail
        refine bodyPost_ret (results_c1 rfl _ _ w.heap.size 41 _ (0, 0) _ rfl (zero_box HX1.out).heap Tryd.underlying41 rfl (by kernel_rfl)) rfl ?_
        exact ⟨_, rfl, HEND.out w1 HB1.out HX1.out⟩
  · have hB : gatesB wide vars t = false := by unfold gatesB plainL; rw [decide_eq_false hk, Bool.false_and, Bool.false_and]
    have hR : gatesR wide vars t = (0, [], []) := by unfold gatesR; rw [hB]; rfl
    rw [hB, hR]
    rw [decide_eq_false hk] at gP
    clear h hk hb0 hx0 hw0 gL hB hR
    generalize plainL wide vars t = PL at *
    go_enter Tryd.func18, Tryd.ntmps18
    go_wp2_with fail
    rw [HW0.out]
    refine gP.mono ?_
    rintro e w1 ⟨rfl, hs1⟩
    have HB1 : Hid (Below w.heap.size w w1) := HB0.out.trans (hs1.mono HB0.out.size)
    have HX1 : Hid (Box3 w1 w.heap.size 41 (.int .i64 0) (.slice none 0 0) (.slice none 0 0)) := HX0.out.below hs1 HX0.out.lt
    clear gP hs1
    obtain ⟨e0, e1, e2⟩ := HX1.out.cells
    have f0 := HX1.out.frozen 0
    have f1 := HX1.out.frozen 1
    have f2 := HX1.out.frozen 2
    have q0 := HX1.out.heap
    have q1 := HX1.out.lt
    go_wp2_with fail
    refine bodyPost_ret (results_c1 rfl _ _ w.heap.size 41 _ (0, 0) _ rfl (zero_box HX1.out).heap Tryd.underlying41 rfl (by kernel_rfl)) rfl ?_
    exact ⟨_, rfl, HEND.out w1 HB1.out HX1.out⟩
end Go.Proofs.YtpjllhlbdcanlaaDoor

namespace Go.Proofs.YtpjllhlbdcanlaaDoor
open Go Go.RowKit
open M
set_option linter.unusedVariables false

theorem bits_bit1 (n : Int) (h0 : 0 ≤ n) (h1 : n ≤ 18446744073709551615) (j : Nat) : bits BinOp.and IntKind.u64 (n / 2 ^ j) 1 = bitI n j := by
  have e : n / 2 ^ j = n / pw j := by rw [pw_int]
  have hp := pw_pos j
  have h2 : 0 ≤ n / pw j := Int.ediv_nonneg h0 (by omega)
  have h3 : n / pw j ≤ n := Int.ediv_le_self _ h0
  rw [e, and_one_u64 _ h2 (by omega)]
  rfl
end Go.Proofs.YtpjllhlbdcanlaaDoor

namespace Go.Proofs.YtpjllhlbdcanlaaDoor
open Go Go.RowKit
open M
set_option linter.unusedVariables false
set_option linter.unusedSimpArgs false

/-- the bits of a word, the lowest first; of words -/
def bits1 (W : Nat) (s : Int) : List Bool := (List.range W).map fun (j : Nat) => bitI s j == 1
def bitsL (W : Nat) (st : List Int) : List Bool := st.flatMap (bits1 W)
theorem bits1_snoc (s : Int) (j : Nat) : bits1 (j + 1) s = bits1 j s ++ [bitI s j == 1] := by simp [bits1, List.range_succ]
theorem bits1_len (W : Nat) (s : Int) : (bits1 W s).length = W := by simp [bits1]
theorem bitsL_len (W : Nat) : ∀ st : List Int, (bitsL W st).length = st.length * W
  | [] => by simp [bitsL]
  | s :: st => by
    have := bitsL_len W st
    unfold bitsL at this ⊢
    rw [List.flatMap_cons, List.length_append, this, bits1_len, List.length_cons, Nat.add_mul]
    omega
theorem bitsL_snoc (W : Nat) (st : List Int) (s : Int) : bitsL W (st ++ [s]) = bitsL W st ++ bits1 W s := by simp [bitsL]
set_option maxRecDepth 100000 in
set_option maxHeartbeats 8000000 in
theorem iBitsOf_in (W : Nat) (h1 : 1 ≤ W) (h4 : W ≤ 4) (b off cap : Nat) (st : List Int) (hn1 : 1 ≤ st.length) (hn4 : st.length ≤ 4) (hst : ∀ s ∈ st, 0 ≤ s ∧ s ≤ 18446744073709551615) (hall : st.all (goodB W) = true) (w : World) (hT : Tab w) (hlt : b < w.heap.size)
    (hc : ∀ (i : Nat) (s : Int), st[i]? = some s → w.cell? ⟨b, off + i, none⟩ = some (.int .u64 s)) (gl : Calls Tryd.prog 39 #[.int .i64 W] w fun e w' => e = .returned (.bool true) ∧ w' = w) :
    Calls Tryd.prog 10 #[.int .i64 W, .slice (some ⟨b, off, none⟩) st.length cap] w fun e w' => ∃ r, e = .returned (.tuple #[r, .bool true]) ∧ w'.ownsRow w.heap.size 4 1 r (bitsL W st).length (cellsB (bitsL W st)) ∧ Below w.heap.size w w' := by
  have g2 := goodVars_yes st.length (by omega) w
  obtain ⟨i0, hi, hz0, hz1, hz2⟩ := info_parts infoBool
  obtain ⟨m, hm⟩ : ∃ m : Nat, W * st.length = m := ⟨_, rfl⟩
  have hm1 : m ≤ 16 := by rw [← hm]; exact Nat.mul_le_mul h4 hn4
  have hmi : (W : Int) * (st.length : Int) = (m : Int) := by rw [← hm]; exact (Int.natCast_mul W st.length).symm
  have HC : Hid (∀ w' : World, Below w.heap.size w w' → ∀ (i : Nat) (s : Int), st[i]? = some s → w'.cell? ⟨b, off + i, none⟩ = some (.int .u64 s)) := fun w' hb i s hs => (hb.cell (p := ⟨b, off + i, none⟩) hlt).trans (hc i s hs)
  have HG : Hid (∀ (i : Nat) (s : Int) (w' : World), st[i]? = some s → Below w.heap.size w w' → Calls Tryd.prog 41 #[.int .i64 W, .int .u64 s] w' fun e w'' => e = .returned (.bool true) ∧ w'' = w') := by
    intro i s w' hs hb
    have g := iGoodWord_any W s w' (hT.below hb hT.some)
    rw [List.all_eq_true.1 hall s (List.mem_of_getElem? hs)] at g
    exact g
  have HST : Hid (∀ s ∈ st, 0 ≤ s ∧ s ≤ 18446744073709551615) := hst
  clear hc hall hT hst hm
  generalize hnn : st.length = n at *
  have HN : Hid (st.length = n) := hnn
  clear hnn
  go_enter Tryd.func10, Tryd.ntmps10
  go_wp2_with fail
  refine gl.mono ?_
  rintro e w1 ⟨rfl, rfl⟩
  go_wp2_with fail
  refine g2.mono ?_
  rintro e w1 ⟨rfl, rfl⟩
  go_wp2_with (at_make; refine wpList_make_own _ rfl _ _ 27 rfl w1.heap.size 4 i0 (.bool false) 1 Tryd.underlying27 hi hz0 hz1 .i64 .i64 _ m rfl rfl (by first | exact hmi | omega) (by rw [hz2]; omega) (by unfold maxLen; omega) (Nat.le_refl _) ?_)
  intro w3 own3 grow3
  have HO3 : Hid (w3.ownsRow w1.heap.size 4 1 (.slice (some ⟨w1.heap.size, 0, none⟩) 0 m) 0 []) := own3
  have HB3 : Hid (Below w1.heap.size w1 w3) := (Below.refl _ _).grown grow3 (Nat.le_refl _) (fun k hk => by cases hk)
  clear own3 grow3 gl g2
  go_wp2_with fail
  go_loopw [6, 26] (fun v i wr => ∃ j : Nat, j ≤ n ∧ i = .int .i64 j ∧ Hid (wr.ownsRow w1.heap.size 4 1 v (bitsL W (st.take j)).length (cellsB (bitsL W (st.take j)))) ∧ Hid (Below w1.heap.size w1 wr)) (fun _ i _ => n - (intOf i).toNat)
  case atStart => exact ⟨0, by omega, rfl, HO3, HB3⟩
  case round =>
    obtain ⟨j, hj, rfl, HO, HB⟩ := hrel
    generalize wr = wq at *
    clear HO3 HB3
    by_cases hlt2 : j < n
    · obtain ⟨s, hs⟩ : ∃ s, st[j]? = some s := ⟨st[j]'(by have := HN.out; omega), List.getElem?_eq_getElem _⟩
      have cs := HC.out wq HB.out j s hs
      have g3 := HG.out j s wq hs HB.out
      obtain ⟨hs0, hs1⟩ := HST.out s (List.mem_of_getElem? hs)
      have hbl : b < wq.heap.size := Nat.lt_of_lt_of_le hlt HB.out.size
      have HT1 : Hid (bitsL W (st.take (j + 1)) = bitsL W (st.take j) ++ bits1 W s) := by
        show bitsL W (st.take (j + 1)) = _
        rw [List.take_add_one, hs, ← bitsL_snoc]
        rfl
      have hbll : (bitsL W (st.take j)).length ≤ 16 := by
        rw [bitsL_len]
        have h5 : (st.take j).length ≤ 4 := by rw [List.length_take]; omega
        exact Nat.mul_le_mul h5 h4
      obtain ⟨L, hL⟩ : ∃ L, bitsL W (st.take j) = L := ⟨_, rfl⟩
      rw [hL] at HO HT1 hbll
      obtain ⟨va, vcp, hv⟩ := own_shape HO.out
      subst hv
      have hjA : (j : Int) < (n : Int) := by omega
      clear hL hs
      obtain ⟨ln, hln⟩ : ∃ ln, L.length = ln := ⟨_, rfl⟩
      rw [hln] at HO ⊢
      have HLN : Hid (L.length = ln) := hln
      have hln16 : ln ≤ 16 := by omega
      clear hln hbll
      go_wp2_with fail
      refine g3.mono ?_
      rintro e w4 ⟨rfl, hw4⟩
      have hw5 := hw4.symm
      subst hw5
      clear g3 hw4
      go_wp2_with fail
      go_loopw [6, 35] (fun v i wr => ∃ k : Nat, k ≤ W ∧ i = .int .i64 k ∧ Hid (wr.ownsRow w1.heap.size 4 1 v (ln + k) (cellsB (L ++ bits1 k s))) ∧ Hid (Below w1.heap.size w1 wr)) (fun _ i _ => W - (intOf i).toNat)
      case atStart => exact ⟨0, by omega, rfl, (by show World.ownsRow _ _ _ _ _ (ln + 0) (cellsB (L ++ [])); rw [List.append_nil]; exact HO.out), HB⟩
      case round =>
        obtain ⟨k, hk, rfl, HOk, HBk⟩ := hrel
        by_cases hlt3 : k < W
        · obtain ⟨va2, vcp2, hv2⟩ := own_shape HOk.out
          subst hv2
          have hbit := bits_bit1 s hs0 hs1 k
          obtain ⟨z, hz⟩ : ∃ z : Bool, (bitI s k == 1) = z := ⟨_, rfl⟩
          have HS : Hid (bits1 (k + 1) s = bits1 k s ++ [z]) := by
            show bits1 (k + 1) s = _
            rw [bits1_snoc, hz]
          have hzz : (bits BinOp.and IntKind.u64 (s / 2 ^ k) 1 == 1) = z := by rw [hbit]; exact hz
          have own6 := World.ownsRow.alloc HOk.out (.cells #[.bool z] 4)
          have hb6 : Below w1.heap.size w1 (wr.alloc (.cells #[.bool z] 4)) := HBk.out.alloc HBk.out.size _
          have hs6 := hb6.size
          have hkA : (k : Int) < (W : Int) := by omega
          have hlk : ln + k ≤ 20 := by omega
          clear hbit hz HOk HBk
          go_wp2_with (at_builtin; refine wpList_append_own _ rfl _ _ 27 rfl w1.heap.size 4 i0 (.bool false) 1 1 Tryd.underlying27 hi hz0 hz1 hz2 rfl (by decide) _ _ _ rfl own6 ⟨wr.heap.size, 0, none⟩ 1 1 [.bool z] rfl rfl (oneB_cells wr z) (bools_one [z]) (by unfold maxLen; omega) (by omega) hs6 ?_)
          intro v7 w7 own7 grow7 _
          have HB7 : Hid (Below w1.heap.size w1 w7) := below_app hb6 (by omega) (Nat.le_refl _) own6 grow7
          have HO7 : Hid (w7.ownsRow w1.heap.size 4 1 v7 (ln + (k + 1)) (cellsB (L ++ bits1 (k + 1) s))) := by
            show w7.ownsRow w1.heap.size 4 1 v7 (ln + (k + 1)) (cellsB (L ++ bits1 (k + 1) s))
            rw [HS.out, ← List.append_assoc, cellsB_append, ← Nat.add_assoc]
            exact own7
          clear own6 own7 grow7 hb6 HS
          go_wp2_with fail
          go_roundw
          case rel => exact ⟨k + 1, by omega, by go_num, HO7, HB7⟩
          case measure => simp [intOf]; omega
        · obtain rfl : k = W := by omega
          have HO9 : Hid (wr.ownsRow w1.heap.size 4 1 u6 (bitsL k (st.take (j + 1))).length (cellsB (bitsL k (st.take (j + 1))))) := by
            show wr.ownsRow w1.heap.size 4 1 u6 (bitsL k (st.take (j + 1))).length (cellsB (bitsL k (st.take (j + 1))))
            rw [HT1.out, List.length_append, bits1_len, HLN.out]
            exact HOk.out
          clear HOk
          go_wp2_with fail
          go_roundw
          case rel => exact ⟨j + 1, by omega, by go_num, HO9, HBk⟩
          case measure => simp [intOf]; omega
    · obtain rfl : j = n := by omega
      have HO9 : Hid (wq.ownsRow w1.heap.size 4 1 u6 (bitsL W st).length (cellsB (bitsL W st))) := by
        have h1 := HO.out
        rw [← HN.out, List.take_length] at h1
        exact h1
      clear HO HC HG
      go_wp2_with fail
      go_ret2
      exact ⟨_, rfl, HO9.out, HB.out⟩
end Go.Proofs.YtpjllhlbdcanlaaDoor
