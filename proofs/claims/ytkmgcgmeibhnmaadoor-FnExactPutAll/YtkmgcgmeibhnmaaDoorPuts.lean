/-
  What is put for variables: the model's PutAll.
-/
import Derived.Test.YtkmgcgmeibhnmaaDoorFold5
namespace Go.Proofs.YtkmgcgmeibhnmaaDoor
open Go Go.RowKit
open M
set_option linter.unusedVariables false

/-- a slice of slices of nodes -/
def NodesSS (w : World) (v : Value) (bs : List (List Nd)) : Prop :=
  bs.length ≤ 9223372036854775807 ∧ ((bs = [] ∧ ∃ (a : Option Addr) (cap : Nat), v = .slice a 0 cap) ∨
  ∃ b off cap : Nat, v = .slice (some ⟨b, off, none⟩) bs.length cap ∧ b < w.heap.size ∧ ∀ (i : Nat) (t : List Nd), bs[i]? = some t → ∃ u : Value, w.cell? ⟨b, off + i, none⟩ = some u ∧ NodesAt w u t)
theorem NodesSS.below {w w' : World} {v : Value} {bs : List (List Nd)} (h : NodesSS w v bs) (hb : Below w.heap.size w w') : NodesSS w' v bs := by
  obtain ⟨h1, h2⟩ := h
  refine ⟨h1, ?_⟩
  rcases h2 with h2 | ⟨b, off, cap, hv, hlt, hc⟩
  · exact Or.inl h2
  · refine Or.inr ⟨b, off, cap, hv, Nat.lt_of_lt_of_le hlt hb.size, fun i t ht => ?_⟩
    obtain ⟨u, h3, h4⟩ := hc i t ht
    refine ⟨u, ?_, h4.below hb⟩
    rw [hb.cell (p := ⟨b, off + i, none⟩) hlt]
    exact h3
/-- for each variable its nodes, for any other node itself -/
def putsL (bs : List (List Nd)) (t : List Nd) : List Nd := t.flatMap fun x => if x.1 = 2 then bs.getD x.2.toNat [] else [x]
theorem putsL_snoc (bs : List (List Nd)) (t : List Nd) (x : Nd) : putsL bs (t ++ [x]) = putsL bs t ++ (if x.1 = 2 then bs.getD x.2.toNat [] else [x]) := by
  unfold putsL
  rw [List.flatMap_append]
  simp
set_option maxRecDepth 100000 in
set_option maxHeartbeats 4000000 in
theorem putAll_yes (wide vars : Int) (b off cap c o cp : Nat) (t : List Nd) (bs : List (List Nd)) (w : World) (hlt : b < w.heap.size) (hl : t.length ≤ 48) (hv : (bs.length : Int) = vars) (hv4 : vars ≤ 4)
    (hc : Cells w b off t) (hok : ∀ x ∈ t, NdOk x)
    (hsm : ∀ x ∈ t, x.1 = 2 → x.2 < vars)
    (hk : 0 < kindL wide vars t) (hclt : c < w.heap.size)
    (hcs : ∀ (i : Nat) (u : List Nd), bs[i]? = some u → ∃ z : Value, w.cell? ⟨c, o + i, none⟩ = some z ∧ NodesAt w z u) (hall : ∀ u ∈ bs, kindL wide vars u = 1) :
    Calls Tryd.prog 17 #[.int .i64 wide, .int .i64 vars, .slice (some ⟨b, off, none⟩) t.length cap, .slice (some ⟨c, o, none⟩) bs.length cp] w fun e w' => ∃ v', e = .returned (.tuple #[v', .bool (decide (0 < kindL wide vars (putsL bs t)))]) ∧ OwnNodes w' w.heap.size v' (madeL wide vars (putsL bs t)) ∧ Below w.heap.size w w' := by
  have g1 := goodTerm_any wide vars (.slice (some ⟨b, off, none⟩) t.length cap) t w ⟨hok, by omega, Or.inr ⟨b, off, cap, rfl, hlt, hc⟩⟩
  rw [decide_eq_true hk] at g1
  have hu48 : ∀ u ∈ bs, 1 ≤ u.length ∧ u.length ≤ 48 := fun u hu => by
    have h := hall u hu
    obtain ⟨_, h1, h2, _⟩ := good_var (wide := wide) (vars := vars) (t := u) (by omega)
    exact ⟨h1, h2⟩
  have GK : Hid (∀ (z : Value) (u : List Nd) (w1 : World), u ∈ bs → NodesAt w1 z u → Calls Tryd.prog 64 #[.int .i64 wide, .int .i64 vars, z] w1 fun e w' => e = .returned (.int .i64 1) ∧ Below w1.heap.size w1 w') := by
    intro z u w1 hu hz
    have g := l2Kind_any wide vars z u w1 hz
    rw [hall u hu] at g
    exact g
  have hokp : ∀ x ∈ putsL bs t, NdOk x := by
    intro x hx
    unfold putsL at hx
    obtain ⟨y, hy, hxy⟩ := List.mem_flatMap.1 hx
    split at hxy
    · rw [List.getD_eq_getElem?_getD] at hxy
      cases hg : bs[y.2.toNat]? with
      | none => rw [hg] at hxy; simp at hxy
      | some u =>
        rw [hg] at hxy
        obtain ⟨z, _, hz⟩ := hcs _ u hg
        exact hz.1 x (by simpa using hxy)
    · simp at hxy
      subst hxy
      exact hok x hy
  have GM : Hid (∀ (v : Value) (w1 : World), (putsL bs t).length ≤ 4096 → OwnNodes w1 w.heap.size v (putsL bs t) → Calls Tryd.prog 65 #[.int .i64 wide, .int .i64 vars, v] w1 fun e w' => ∃ v', e = .returned (.tuple #[v', .bool (decide (0 < kindL wide vars (putsL bs t)))]) ∧ OwnNodes w' w.heap.size v' (madeL wide vars (putsL bs t)) ∧ Below w1.heap.size w1 w') := fun v w1 hle ho => l2Made_any wide vars v _ _ hokp (by omega) w1 ho
  have HCS : Hid _ := hcs
  have HC : Hid _ := hc
  have HOK : Hid _ := hok
  have HSM : Hid _ := hsm
  have HU : Hid _ := hu48
  obtain ⟨i0, hi, hz0, hz1, hz2⟩ := info_parts infoNode
  clear hcs hc hok hsm hu48 hokp hk hall
  generalize decide (0 < kindL wide vars (putsL bs t)) = Z at *
  generalize madeL wide vars (putsL bs t) = M at *
  subst hv
  go_enter Tryd.func17, Tryd.ntmps17
  go_wp2_with fail
  refine g1.mono ?_
  rintro e w1 ⟨rfl, hb1⟩
  clear g1
  have HB1 : Hid (Below w.heap.size w w1) := hb1
  clear hb1
  go_wp2_with fail
  go_loopw [28] (fun i wr => ∃ j : Nat, j ≤ bs.length ∧ i = .int .i64 j ∧ Hid (Below w.heap.size w wr)) (fun i _ => bs.length - (intOf i).toNat)
  case atStart => exact ⟨0, by omega, rfl, HB1⟩
  case round =>
    obtain ⟨j, hj, rfl, HB⟩ := hrel
    by_cases hlt' : j < bs.length
    · obtain ⟨u, hu⟩ : ∃ u, bs[j]? = some u := ⟨bs[j], List.getElem?_eq_getElem hlt'⟩
      obtain ⟨z, cz, hz⟩ := HCS.out j u hu
      rw [← HB.out.cell (p := ⟨c, o + j, none⟩) hclt] at cz
      have g := GK.out z u wr (List.mem_of_getElem? hu) (hz.below HB.out)
      obtain ⟨za, zc, rfl⟩ := hz.shape
      clear hu hz
      go_wp2_with fail
      refine g.mono ?_
      rintro e w2 ⟨rfl, hb2⟩
      have HB2 : Hid (Below w.heap.size w w2) := HB.out.trans (hb2.mono HB.out.size)
      clear g hb2
      go_wp2_with fail
      go_roundw
      case rel => exact ⟨j + 1, by omega, by go_num, HB2⟩
      case measure => simp [intOf]; omega
    · obtain rfl : j = bs.length := by omega
      clear hlt' GK
      go_wp2_with fail
      go_loopw [12, 40] (fun v i wr => ∃ j : Nat, j ≤ t.length ∧ i = .int .i64 j ∧ Hid (OwnNodes wr w.heap.size v (putsL bs (t.take j)) ∧ (putsL bs (t.take j)).length ≤ j * 48) ∧ Hid (Below w.heap.size w wr)) (fun _ i _ => t.length - (intOf i).toNat)
      case atStart => exact ⟨0, by omega, rfl, ⟨World.ownsRow_nil _ _ _ _, by simp [putsL]⟩, HB⟩
      case round =>
        obtain ⟨j, hj, rfl, HV, HB'⟩ := hrel
        by_cases hlt' : j < t.length
        · obtain ⟨⟨op, n⟩, hx⟩ : ∃ x, t[j]? = some x := ⟨t[j], List.getElem?_eq_getElem hlt'⟩
          obtain ⟨ho0, ho1, hn0, hn1⟩ := HOK.out (op, n) (List.mem_of_getElem? hx)
          have hs := HSM.out (op, n) (List.mem_of_getElem? hx)
          simp only at ho0 ho1 hn0 hn1 hs
          obtain ⟨c0, c1⟩ := HC.out j (op, n) hx
          rw [← HB'.out.cell (p := ⟨b, off + j * 2, none⟩) hlt] at c0
          rw [← HB'.out.cell (p := ⟨b, off + j * 2 + 1, none⟩) hlt] at c1
          simp only at c0 c1
          have HE : Hid (putsL bs (t.take (j + 1)) = putsL bs (t.take j) ++ (if op = 2 then bs.getD n.toNat [] else [(op, n)])) := by
            show putsL bs (t.take (j + 1)) = _
            rw [List.take_add_one, hx]
            exact putsL_snoc bs (t.take j) (op, n)
          have HBa : Hid (Below w.heap.size w (wr.alloc (.cells #[.int .i64 op, .int .u64 n] 91))) := HB'.out.alloc HB'.out.size _
          have hlen := HV.out.2
          have own1 : (wr.alloc (.cells #[.int .i64 op, .int .u64 n] 91)).ownsRow w.heap.size 91 2 u12 (putsL bs (t.take j)).length (flat (putsL bs (t.take j))) := World.ownsRow.alloc HV.out.1 _
          clear hx HV
          by_cases h2 : op = 2
          · subst h2
            have hn4 := hs rfl
            obtain ⟨q, rfl⟩ : ∃ q : Nat, n = q := ⟨n.toNat, by omega⟩
            obtain ⟨u, hu⟩ : ∃ u, bs[q]? = some u := ⟨bs[q], List.getElem?_eq_getElem (by omega)⟩
            obtain ⟨z, cz, hz⟩ := HCS.out q u hu
            obtain ⟨hu1, hu2⟩ := HU.out u (List.mem_of_getElem? hu)
            have hz' := hz.below HBa.out
            rw [← HBa.out.cell (p := ⟨c, o + q, none⟩) hclt] at cz
            have HE2 : Hid (putsL bs (t.take (j + 1)) = putsL bs (t.take j) ++ u) := by
              have h := HE.out
              rw [if_pos rfl, List.getD_eq_getElem?_getD, show ((q : Int)).toNat = q by omega, hu] at h
              exact h
            rcases hz'.2.2 with ⟨h, _⟩ | ⟨pb, po, pc, rfl, hplt, hpc⟩
            · rw [h] at hu1
              simp at hu1
            have cells6 : ∀ (j : Nat) (x : Value), (flat u)[j]? = some x → (wr.alloc (.cells #[.int .i64 2, .int .u64 (q : Int)] 91)).cell? ((⟨pb, po, none⟩ : Addr).add j) = some x := by
              apply flat_from
              intro i x hx
              exact hpc i x hx
            clear HE hu hz hz' hpc
            generalize hR : putsL bs (t.take j) = R at *
            go_wp2_with (at_builtin; refine wpList_append_own _ rfl _ _ 24 rfl w.heap.size 91 i0 (.agg #[.int .i64 0, .int .u64 0]) 2 16 Tryd.underlying24 hi hz0 hz1 hz2 rfl (by decide) _ _ _ rfl own1 ⟨pb, po, none⟩ u.length pc (flat u) rfl (flat_len u) cells6 (flat_one u) (by unfold maxLen; omega) (by omega) (by have := HBa.out.size; omega) ?_)
            intro v7 w7 own7 grow _
            have HB7 : Hid (Below w.heap.size w w7) := HBa.out.grown grow HBa.out.size (fun kk hkk => by
            rcases own1.2 with ⟨h, _⟩ | ⟨g, cap3, cur, h, hg, _⟩
            · rw [h] at hkk
              cases hkk
            · rw [h] at hkk
              cases hkk
              exact hg)
            have HV7 : Hid (OwnNodes w7 w.heap.size v7 (putsL bs (t.take (j + 1))) ∧ (putsL bs (t.take (j + 1))).length ≤ (j + 1) * 48) := by
              show OwnNodes w7 w.heap.size v7 (putsL bs (t.take (j + 1))) ∧ (putsL bs (t.take (j + 1))).length ≤ (j + 1) * 48
              rw [HE2.out]
              unfold OwnNodes
              rw [flat_append, List.length_append]
              exact ⟨own7, by omega⟩
            clear own7 grow own1 cells6 HE2 HBa
            go_wp2_with fail
            go_roundw
            case rel => exact ⟨j + 1, by omega, by go_num, HV7, HB7⟩
            case measure => simp [intOf]; omega
          · have e2 : (op == 2) = false := beq_eq_false_iff_ne.2 h2
            have HE2 : Hid (putsL bs (t.take (j + 1)) = putsL bs (t.take j) ++ [(op, n)]) := by
              have h := HE.out
              rw [if_neg h2] at h
              exact h
            have cells9 : ∀ (j : Nat) (u : Value), ([.int .i64 op, .int .u64 n] : List Value)[j]? = some u → ((wr.alloc (.cells #[.int .i64 op, .int .u64 n] 91)).alloc (.cells #[.int .i64 op, .int .u64 n] 91)).cell? ((⟨wr.heap.size + 1, 0, none⟩ : Addr).add j) = some u := by
              have h := one_cells2 (wr.alloc (.cells #[.int .i64 op, .int .u64 n] 91)) op n
              rw [show (wr.alloc (.cells #[.int .i64 op, .int .u64 n] 91)).heap.size = wr.heap.size + 1 from by show (wr.heap.push _).size = _; simp] at h
              exact h
            have own2 := own1.alloc (.cells #[.int .i64 op, .int .u64 n] 91)
            have HBb : Hid (Below w.heap.size w ((wr.alloc (.cells #[.int .i64 op, .int .u64 n] 91)).alloc (.cells #[.int .i64 op, .int .u64 n] 91))) := HBa.out.alloc HBa.out.size _
            clear HE h2 hs
            generalize hR : putsL bs (t.take j) = R at *
            go_wp2_with (at_builtin; refine wpList_append_own _ rfl _ _ 24 rfl w.heap.size 91 i0 (.agg #[.int .i64 0, .int .u64 0]) 2 16 Tryd.underlying24 hi hz0 hz1 hz2 rfl (by decide) _ _ _ rfl own2 ⟨wr.heap.size + 1, 0, none⟩ 1 1 [.int .i64 op, .int .u64 n] rfl rfl cells9 (flat_one [(op, n)]) (by unfold maxLen; omega) (by omega) (by have := HBb.out.size; omega) ?_)
            intro v7 w7 own7 grow _
            have HB7 : Hid (Below w.heap.size w w7) := HBb.out.grown grow HBb.out.size (fun kk hkk => by
            rcases own1.2 with ⟨h, _⟩ | ⟨g, cap3, cur, h, hg, _⟩
            · rw [h] at hkk
              cases hkk
            · rw [h] at hkk
              cases hkk
              exact hg)
            have HV7 : Hid (OwnNodes w7 w.heap.size v7 (putsL bs (t.take (j + 1))) ∧ (putsL bs (t.take (j + 1))).length ≤ (j + 1) * 48) := by
              show OwnNodes w7 w.heap.size v7 (putsL bs (t.take (j + 1))) ∧ (putsL bs (t.take (j + 1))).length ≤ (j + 1) * 48
              rw [HE2.out]
              unfold OwnNodes
              rw [flat_append, List.length_append]
              exact ⟨own7, by simp; omega⟩
            clear own7 grow own1 own2 HE2 HBa HBb cells9
            go_wp2_with fail
            go_roundw
            case rel => exact ⟨j + 1, by omega, by go_num, HV7, HB7⟩
            case measure => simp [intOf]; omega
        · obtain rfl : j = t.length := by omega
          have h := HV.out
          rw [List.take_length] at h
          have g := GM.out u12 wr (by omega) h.1
          clear h HV GM
          go_wp2_with fail
          refine g.mono ?_
          rintro e w9 ⟨v9, rfl, ho9, hb9⟩
          have HO : Hid (OwnNodes w9 w.heap.size v9 M) := ho9
          have HB9 : Hid (Below w.heap.size w w9) := HB'.out.trans (hb9.mono HB'.out.size)
          clear g ho9 hb9
          go_wp2_with fail
          go_ret2
          exact ⟨_, rfl, HO.out, HB9.out⟩
end Go.Proofs.YtkmgcgmeibhnmaaDoor
