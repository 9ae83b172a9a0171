/-
  The nodes of a tree laid in a row: the program's layBehind and nodesOf, and with them TurnTerm and JoinTerms.
-/
import Derived.Test.YtjbfembblgkakaaDoorIRoot
import Derived.Test.YtjbfembblgkakaaDoorLJoin
import Derived.Test.YtjbfembblgkakaaDoorFold2
namespace Go.Proofs.YtjbfembblgkakaaDoor
open Go Go.RowKit
open M
set_option linter.unusedVariables false

/-- all but a row is as it was, and the row is the old one or a new one -/
def Laid (w w' : World) (v v' : Value) : Prop := w.grownBy w' v.ownBlock ∧ (v'.ownBlock = v.ownBlock ∨ ∃ k, v'.ownBlock = some k ∧ w.heap.size ≤ k)
theorem Laid.refl (w : World) (v : Value) : Laid w w v v := ⟨⟨rfl, rfl, rfl, Nat.le_refl _, fun _ _ _ => rfl⟩, Or.inl rfl⟩
theorem Laid.apart {w w' : World} {v v' : Value} (h : Laid w w' v v') {k : Nat} (hk : OldBut w v k) : OldBut w' v' k ∧ w'.heap[k]? = w.heap[k]? := by
  refine ⟨⟨Nat.lt_of_lt_of_le hk.1 h.1.size, ?_⟩, h.1.block k hk.1 hk.2⟩
  rcases h.2 with e | ⟨g, e, hg⟩
  · rw [e]
    exact hk.2
  · rw [e]
    intro e2
    have := Option.some.inj e2
    have := hk.1
    omega
theorem Laid.trans {w w1 w2 : World} {v v1 v2 : Value} (h : Laid w w1 v v1) (h' : Laid w1 w2 v1 v2) : Laid w w2 v v2 := by
  refine ⟨⟨h'.1.os.trans h.1.os, h'.1.tape.trans h.1.tape, h'.1.output.trans h.1.output, Nat.le_trans h.1.size h'.1.size, fun k hk hne => ?_⟩, ?_⟩
  · have h1 := h.apart (k := k) ⟨hk, hne⟩
    rw [h'.1.block k h1.1.1 h1.1.2]
    exact h1.2
  · rcases h'.2 with e | ⟨g, e, hg⟩
    · rw [e]
      exact h.2
    · exact Or.inr ⟨g, e, Nat.le_trans h.1.size hg⟩
theorem Laid.tree {w w' : World} {v v' : Value} {t : Tr} {b : Nat} (h : Laid w w' v v') (ht : TrAt w (OldBut w v) t b) : TrAt w' (OldBut w' v') t b :=
  TrAt.frame (fun k hk => (h.apart hk).1) (fun k hk => (h.apart hk).2) ht
/-- what layBehind does with a tree -/
def LayP (r : Tr) : Prop := ∀ (b : Nat) (ts : List Nd) (tv : Value) (w : World) (B : Nat), TrAt w (OldBut w tv) r b → OwnNodes w B tv ts → B ≤ w.heap.size → ts.length + r.size ≤ 100000 →
  Calls Tryd.prog 149 #[ptr b, tv] w fun e w' => ∃ tv', e = .returned tv' ∧ OwnNodes w' B tv' (ts ++ r.flat) ∧ Laid w w' tv tv'
theorem flats_take {l : List Tr} {j : Nat} {a : Tr} (h : l[j]? = some a) : (l.take (j + 1)).flatMap Tr.flat = (l.take j).flatMap Tr.flat ++ a.flat := by
  rw [List.take_add_one, h, List.flatMap_append]
  simp
theorem PtrsAt.at {w : World} {S : Nat → Prop} {a : Option Addr} {n cap : Nat} {ps : List Nat} (h : PtrsAt w S (.slice a n cap) ps) {j p : Nat} (hp : ps[j]? = some p) : ∃ g off : Nat, a = some ⟨g, off, none⟩ ∧ S g ∧ w.cell? ⟨g, off + j, none⟩ = some (ptr p) := by
  rcases h.2 with ⟨rfl, _⟩ | ⟨g, off, cap', h1, h2, h3⟩
  · simp at hp
  · simp at h1
    exact ⟨g, off, h1.1, h2, h3 j p hp⟩
set_option maxRecDepth 100000 in
set_option maxHeartbeats 4000000 in
theorem layBehind_step (r : Tr) (ih : ∀ q ∈ r.parts, LayP q) : LayP r := by
  intro b ts tv w B htr hown hB hsz
  obtain ⟨ps, ⟨hb, n0, n1, _, _, pvl, n4, hpv⟩, hpt⟩ := trAt_open htr
  have hsize := r.size_eq
  have HIH : Hid _ := ih
  have HPT : Hid _ := hpt
  have hl := hpt.1
  obtain ⟨i0, hi, hz0, hz1, hz2⟩ := info_parts infoNode
  obtain ⟨av, cv, rfl⟩ := own_shape hown
  obtain ⟨pa, pc, hpsh⟩ := hpv.shape
  have HPV : Hid _ := hpv
  have HO0 : Hid _ := hown
  have hpl2 : ps.length ≤ 2 := by
    have h2 : r.parts.length ≤ 2 := by cases r <;> simp [Tr.parts]
    omega
  have HSZ : Hid (ts.length + (1 + sizes r.parts) ≤ 100000) := (by omega : ts.length + (1 + sizes r.parts) ≤ 100000)
  have HFL : Hid (r.flat = r.parts.flatMap Tr.flat ++ [(r.nd.1, r.nd.2)]) := r.flat_eq
  have HBD : Hid _ := hb
  have HN0 : Hid _ := n0
  have HN1 : Hid _ := n1
  clear ih hpt hpv htr hown hl hsize hsz n0 n1 hb
  generalize r.nd.1 = op at *
  generalize r.nd.2 = n at *
  subst hpsh
  go_enter Tryd.func149, Tryd.ntmps149
  go_wp2_with fail
  go_loopw [1, 12] (fun v i wr => ∃ j : Nat, j ≤ ps.length ∧ i = .int .i64 j ∧ Hid (OwnNodes wr B v (ts ++ (r.parts.take j).flatMap Tr.flat)) ∧ Hid (Laid w wr (.slice av ts.length cv) v)) (fun _ i _ => ps.length - (intOf i).toNat)
  case atStart =>
    refine ⟨0, by omega, rfl, ?_, Laid.refl _ _⟩
    show OwnNodes _ _ _ _
    rw [List.take_zero, List.flatMap_nil, List.append_nil]
    exact HO0.out
  case round =>
    obtain ⟨j, hj, rfl, HO, HL⟩ := hrel
    obtain ⟨aj, cj, hsj⟩ := own_shape HO.out
    by_cases hlt' : j < ps.length
    · obtain ⟨p, hp⟩ : ∃ p, ps[j]? = some p := ⟨ps[j], List.getElem?_eq_getElem hlt'⟩
      obtain ⟨q, hq⟩ : ∃ q, r.parts[j]? = some q := ⟨r.parts[j]'(by have := HPT.out.1; omega), List.getElem?_eq_getElem _⟩
      obtain ⟨g, off, rfl, hg, c0⟩ := PtrsAt.at HPV.out hp
      have c1 : wr.cell? ⟨g, off + j, none⟩ = some (ptr p) := by
        rw [World.cell?_of_block (w := w) (a := ⟨g, off + j, none⟩) (HL.out.apart hg).2]
        exact c0
      have hle : (ts ++ (r.parts.take j).flatMap Tr.flat).length + q.size ≤ 100000 := by
        have h1 := HSZ.out
        have h2 := sizes_take hq
        have h3 := sizes_le r.parts (j + 1)
        have h4 := sizes_flat (r.parts.take j)
        rw [List.length_append, ← h4]
        omega
      have gI := HIH.out q (List.mem_of_getElem? hq) p _ _ wr B (HL.out.tree (HPT.out.2 j q p hq hp)) HO.out (Nat.le_trans hB HL.out.1.size) hle
      have HE : Hid (ts ++ (r.parts.take j).flatMap Tr.flat ++ q.flat = ts ++ (r.parts.take (j + 1)).flatMap Tr.flat) := by
        show _ = _
        rw [flats_take hq, List.append_assoc]
      rw [HE.out] at gI
      clear hp hq hg c0 hle HE
      generalize ts ++ (r.parts.take j).flatMap Tr.flat = Rj at *
      generalize hRk : ts ++ (r.parts.take (j + 1)).flatMap Tr.flat = Rk at *
      have HRK : Hid (ts ++ (r.parts.take (j + 1)).flatMap Tr.flat = Rk) := hRk
      clear hRk
      subst hsj
      go_wp2_with fail
      refine gI.mono ?_
      rintro e w2 ⟨v2, rfl, ho2, hl2⟩
      have HO2 : Hid _ := ho2
      have HL2 : Hid (Laid w w2 (.slice av ts.length cv) v2) := HL.out.trans hl2
      clear gI ho2 hl2
      go_wp2_with fail
      go_roundw
      case rel => exact ⟨j + 1, by omega, by go_num, by rw [HRK.out]; exact HO2, HL2⟩
      case measure => simp [intOf]; omega
    · clear hsj
      obtain rfl : j = ps.length := by omega
      have hn : wr.cell? ⟨b, 0, none⟩ = some (.int .i64 op) := by
        rw [World.cell?_of_block (w := w) (a := ⟨b, 0, none⟩) (HL.out.apart HBD.out).2]
        exact HN0.out
      have hn1 : wr.cell? ⟨b, 1, none⟩ = some (.int .u64 n) := by
        rw [World.cell?_of_block (w := w) (a := ⟨b, 1, none⟩) (HL.out.apart HBD.out).2]
        exact HN1.out
      have hown := HO.out
      have hE : (r.parts.take ps.length).flatMap Tr.flat = r.parts.flatMap Tr.flat := by
        have h1 : r.parts.length = ps.length := HPT.out.1
        rw [← h1, List.take_length]
      rw [hE] at hown
      have HFE : Hid (ts ++ r.flat = (ts ++ r.parts.flatMap Tr.flat) ++ [(op, n)]) := by
        show _ = _
        rw [HFL.out, List.append_assoc]
      have hle : (ts ++ r.parts.flatMap Tr.flat).length ≤ 100000 := by
        have h1 := HSZ.out
        rw [List.length_append, ← sizes_flat]
        omega
      generalize ts ++ r.parts.flatMap Tr.flat = R at *
      have hBs : B ≤ wr.heap.size := Nat.le_trans hB HL.out.1.size
      have own1 : (wr.alloc (.cells #[.int .i64 op, .int .u64 n] 112)).ownsRow B 112 2 u1 R.length (flat R) := World.ownsRow.alloc hown _
      have HOR : Hid (OwnNodes wr B u1 R) := hown
      have cells9 := one_cells2 wr op n
      clear hown hE
      go_wp2_with (at_builtin; refine wpList_append_own_at _ rfl _ _ 24 rfl B 112 i0 (.agg #[.int .i64 0, .int .u64 0]) 2 16 Tryd.underlying24 hi hz0 hz1 hz2 rfl (by decide) _ _ _ rfl own1 ⟨wr.heap.size, 0, none⟩ 1 1 [.int .i64 op, .int .u64 n] rfl rfl cells9 (flat_one [(op, n)]) (by unfold maxLen; omega) (by omega) (by simp; omega) ?_)
      intro v7 w7 own7 grow7 _ hat7
      have HO7 : Hid (OwnNodes w7 B v7 (ts ++ r.flat)) := by
        show OwnNodes _ _ _ _
        rw [HFE.out]
        unfold OwnNodes
        rw [flat_append, List.length_append]
        exact own7
      have HL7 : Hid (Laid w w7 (.slice av ts.length cv) v7) := by
        refine HL.out.trans ⟨⟨grow7.os, grow7.tape, grow7.output, Nat.le_trans (by simp) grow7.size, fun k hk hne => ?_⟩, ?_⟩
        · rw [grow7.block k (by simp; omega) hne]
          exact Below.heap_alloc _ _ _ hk
        · rcases hat7 with h | h
          · exact Or.inl h
          · exact Or.inr ⟨_, h, by omega⟩
      clear own1 own7 grow7 hat7 cells9
      go_wp2_with fail
      go_ret
      exact ⟨_, rfl, HO7.out, HL7.out⟩
theorem layBehind_any : ∀ r : Tr, LayP r := Tr.ind layBehind_step
end Go.Proofs.YtjbfembblgkakaaDoor
