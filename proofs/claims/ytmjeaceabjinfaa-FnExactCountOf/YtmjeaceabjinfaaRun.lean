/-
  What wires carry: the model's l4Run.
-/
import Derived.Test.YtmjeaceabjinfaaGood2
import Derived.Test.YtmjeaceabjinfaaStrong
import Derived.Laws.AppendOwnNone
import Derived.Deep.QuietTactic
namespace Go.Proofs.Ytmjeaceabjinfaa
open Go Go.RowKit
open M
set_option linter.unusedVariables false

def OwnBools (w : World) (B : Nat) (v : Value) (t : List Bool) : Prop := w.ownsRow B 4 1 v t.length (cellsB t)
theorem own_emptyB (w : World) (base : Nat) (hb : base ≤ w.heap.size) : (w.alloc (.cells #[] 4)).ownsRow base 4 1 (.slice (some ⟨w.heap.size, 0, none⟩) 0 0) 0 [] := by
  refine ⟨rfl, Or.inr ⟨w.heap.size, 0, #[], rfl, hb, ?_, Nat.le_refl _, by unfold maxLen; omega, rfl, rfl⟩⟩
  show (w.heap.push _)[w.heap.size]? = _
  simp
theorem bools_one (t : List Bool) : ∀ u ∈ cellsB t, u.oneCell' = true := by
  intro u hu
  obtain ⟨x, _, rfl⟩ := List.mem_map.1 hu
  rfl
theorem oneB_cells (w : World) (n : Bool) : ∀ (j : Nat) (u : Value), ([.bool n] : List Value)[j]? = some u → (w.alloc (.cells #[.bool n] 4)).cell? ((⟨w.heap.size, 0, none⟩ : Addr).add j) = some u := by
  intro j u hu
  match j, hu with
  | 0, hu => simp at hu; subst hu; simp [Addr.add]
/-- cells of a row of bools, from a place on -/
theorem bools_from {w : World} {g o : Nat} {t : List Bool} (hc : ∀ (i : Nat) (x : Bool), t[i]? = some x → w.cell? ⟨g, o + i, none⟩ = some (.bool x)) :
    ∀ (j : Nat) (u : Value), (cellsB t)[j]? = some u → w.cell? ((⟨g, o, none⟩ : Addr).add j) = some u := by
  intro j u hu
  unfold cellsB at hu
  rw [List.getElem?_map, Option.map_eq_some_iff] at hu
  obtain ⟨x, hx, rfl⟩ := hu
  have ea : (⟨g, o, none⟩ : Addr).add j = ⟨g, o + j, none⟩ := by
    unfold Addr.add
    by_cases h0 : j = 0
    · subst h0
      simp
    · simp [h0]
  rw [ea]
  exact hc j x hx
theorem cellsB_append (s t : List Bool) : cellsB (s ++ t) = cellsB s ++ cellsB t := by simp [cellsB]
/-- what a wire carries, read from the row -/
theorem ownB_at {w : World} {B : Nat} {v : Value} {t : List Bool} (h : OwnBools w B v t) {i : Int} (h0 : 0 ≤ i) (h1 : i < t.length) : ∃ g cap : Nat, v = .slice (some ⟨g, 0, none⟩) t.length cap ∧ g < w.heap.size ∧ w.cell? ⟨g, i.toNat, none⟩ = some (.bool (at' t i)) := by
  have hbl := fun k hk => own_block h (k := k) hk
  rcases h.2 with ⟨_, hz⟩ | ⟨g, cap, cur, rfl, _⟩
  · omega
  · refine ⟨g, cap, rfl, (hbl g rfl).2, ?_⟩
    rw [World.ownsRow.cellAt h i.toNat (by omega)]
    unfold cellsB at'
    rw [List.getElem?_map, List.getElem?_eq_getElem (by omega), List.getD_eq_getElem?_getD, List.getElem?_eq_getElem (by omega)]
    rfl
theorem own_base {w : World} {B B' : Nat} {e : TypeId} {s : Nat} {v : Value} {n : Nat} {xs : List Value} (h : w.ownsRow B e s v n xs) (hB : B' ≤ B) : w.ownsRow B' e s v n xs := by
  obtain ⟨h1, h2⟩ := h
  refine ⟨h1, ?_⟩
  rcases h2 with h2 | ⟨g, cap, cur, hv, hg, r⟩
  · exact Or.inl h2
  · exact Or.inr ⟨g, cap, cur, hv, Nat.le_trans hB hg, r⟩
set_option maxRecDepth 100000 in
set_option maxHeartbeats 2000000 in
theorem l4Run_any (v iv : Value) (c : Ci) (il : List Bool) (hgood : goodC c = true) (hlen : (il.length : Int) = c.1) (w : World) (h : AtCirc w v c) (hiv : AtBS w iv il) :
    Calls Try.prog 145 #[v, iv] w fun e w' => ∃ r, e = .returned r ∧ OwnBools w' w.heap.size r (runG c.2.1 il) ∧ Below w.heap.size w w' := by
  obtain ⟨_, gw, o, rfl, h1, h2⟩ := h
  obtain ⟨hI0, hI1, hG, hO, hgb, _⟩ := goodC_ins hgood
  obtain ⟨ga, gc, rfl, hg⟩ := h1.opened
  obtain ⟨oa, oc, rfl⟩ := h2.shape
  obtain ⟨ins, gs, os⟩ := c
  simp only at *
  obtain ⟨i0, hi, hz0, hz1, hz2⟩ := info_parts infoBool
  have HG : Hid (∀ (w1 : World), Below w.heap.size w w1 → ∀ (i : Nat) (x : Gt), gs[i]? = some x → ∃ b off : Nat, ga = some ⟨b, off, none⟩ ∧ GateAt w1 b (off + i * 3) x) := fun w1 hb i x hx => by
    obtain ⟨b, off, e, hlt, hat⟩ := hg i x hx
    exact ⟨b, off, e, hat.below hb hlt⟩
  have HGB : Hid (∀ (i : Nat) (x : Gt), gs[i]? = some x → gateB (ins + i) x = true) := fun i x hx => gatesB_at hgb hx
  have HB0 : Hid (Below w.heap.size w (w.alloc (.cells #[.int .i64 ins, .slice ga gs.length gc, .slice oa os.length oc] 27))) := (Below.refl _ _).alloc (Nat.le_refl _) _
  have hsz0 : (w.alloc (.cells #[.int .i64 ins, .slice ga gs.length gc, .slice oa os.length oc] 27)).heap.size = w.heap.size + 1 := by simp only [World.size_alloc]
  have hb1 : Below (w.heap.size + 1) (w.alloc (.cells #[.int .i64 ins, .slice ga gs.length gc, .slice oa os.length oc] 27)) ((w.alloc (.cells #[.int .i64 ins, .slice ga gs.length gc, .slice oa os.length oc] 27)).alloc (.cells #[] 4)) := (Below.refl _ _).alloc (by omega) _
  have own0 := own_emptyB (w.alloc (.cells #[.int .i64 ins, .slice ga gs.length gc, .slice oa os.length oc] 27)) (w.heap.size + 1) (by omega)
  rw [World.size_alloc] at own0
  have HX : Hid (Box3 (w.alloc (.cells #[.int .i64 ins, .slice ga gs.length gc, .slice oa os.length oc] 27)) w.heap.size 27 (.int .i64 ins) (.slice ga gs.length gc) (.slice oa os.length oc)) := box3_alloc w 27 (.int .i64 ins) (.slice ga gs.length gc) (.slice oa os.length oc)
  have hs1 := hb1.size
  have hil := hiv.opened
  have hiln := hiv.1.1
  clear h1 h2 hg hgb hgood
  have HW : Hid (∀ wr, Below (w.heap.size + 1) (w.alloc (.cells #[.int .i64 ins, .slice ga gs.length gc, .slice oa os.length oc] 27)) wr → Below w.heap.size w wr) := fun wr hb => HB0.out.trans (hb.mono (by omega))
  rcases hil with ⟨hil0, rfl⟩ | ⟨ib, icap, rfl, hilt, hicap, hic⟩
  · have own1 : ((w.alloc (.cells #[.int .i64 ins, .slice ga gs.length gc, .slice oa os.length oc] 27)).alloc (.cells #[] 4)).ownsRow (w.heap.size + 1) 4 1 (.slice (some ⟨w.heap.size + 1, 0, none⟩) 0 0) il.length (cellsB il) := by
      rw [hil0]
      exact own0
    have HL0 : Hid (il = []) := hil0
    clear hil0
    go_enter Try.func145, Try.ntmps145
    go_wp2_with (at_builtin; refine wpList_append_own_none rfl _ _ 33 rfl (w.heap.size + 1) 4 i0 1 Try.underlying33 hi _ _ _ rfl own0 rfl ?_)
    obtain ⟨c0, c1, c2⟩ := (HX.out.below hb1 (by omega)).cells
    have hlt1 := (HX.out.below hb1 (by omega)).lt
    clear own0
    generalize ((w.alloc (.cells #[.int .i64 ins, .slice ga gs.length gc, .slice oa os.length oc] 27)).alloc (.cells #[] 4)) = w1 at *
    generalize (Value.slice (some ⟨w.heap.size + 1, 0, none⟩) 0 0) = v1 at *
    have HB1 : Hid (Below (w.heap.size + 1) (w.alloc (.cells #[.int .i64 ins, .slice ga gs.length gc, .slice oa os.length oc] 27)) w1) := hb1
    have HO1 : Hid (OwnBools w1 (w.heap.size + 1) v1 il) := own1
    clear own1 hb1 hs1
    go_wp2_with fail
    clear c0 c1 c2 hlt1
    go_loopw [5, 15] (fun v i wr => ∃ j : Nat, j ≤ gs.length ∧ i = .int .i64 j ∧ Hid (OwnBools wr (w.heap.size + 1) v (runG (gs.take j) il)) ∧ Hid (Below (w.heap.size + 1) (w.alloc (.cells #[.int .i64 ins, .slice ga gs.length gc, .slice oa os.length oc] 27)) wr)) (fun _ i _ => gs.length - (intOf i).toNat)
    case atStart => exact ⟨0, by omega, rfl, HO1, HB1⟩
    case round =>
      obtain ⟨j, hj, rfl, HO, HB⟩ := hrel
      have hszr := HB.out.size
      have hwr : w.heap.size + 1 ≤ wr.heap.size := by omega
      by_cases hlt : j < gs.length
      · obtain ⟨x, hx⟩ : ∃ x, gs[j]? = some x := ⟨gs[j], List.getElem?_eq_getElem hlt⟩
        obtain ⟨b, off, rfl, d0, d1, d2⟩ := HG.out wr (HW.out wr HB.out) j x hx
        have hgk := gateB_kind (HGB.out j x hx)
        have hnew : runG (gs.take (j + 1)) il = runG (gs.take j) il ++ [gateV (runG (gs.take j) il) x] := by
          rw [List.take_add_one, hx, runG_append]
          rfl
        have HNEW : Hid _ := hnew
        have hol : (runG (gs.take j) il).length = il.length + j := by rw [runG_len, List.length_take_of_le (by omega)]
        obtain ⟨k, xa, xb⟩ := x
        simp only at d0 d1 d2 hgk
        have HOg : Hid (OwnBools (wr.alloc (.cells #[.int .i64 k, .int .i64 xa, .int .i64 xb] 108)) (w.heap.size + 1) u5 (runG (gs.take j) il)) := World.ownsRow.alloc HO.out _
        have HBg : Hid (Below (w.heap.size + 1) (w.alloc (.cells #[.int .i64 ins, .slice (some ⟨b, off, none⟩) gs.length gc, .slice oa os.length oc] 27)) (wr.alloc (.cells #[.int .i64 k, .int .i64 xa, .int .i64 xb] 108))) := HB.out.alloc hwr _
        generalize hrun : runG (gs.take j) il = rl at *
        have HNX : ∀ z : Bool, gateV rl (k, xa, xb) = z → Hid (∀ (v2 : Value) (w2 : World), w2.ownsRow (w.heap.size + 1) 4 1 v2 (rl.length + 1) (cellsB rl ++ [.bool z]) → OwnBools w2 (w.heap.size + 1) v2 (runG (gs.take (j + 1)) il)) := by
          intro z hz v2 w2 ho2
          show OwnBools w2 (w.heap.size + 1) v2 (runG (gs.take (j + 1)) il)
          rw [HNEW.out]
          unfold OwnBools
          rw [List.length_append, List.length_singleton, cellsB_append, hz]
          exact ho2
        clear hx hnew HNEW HG HGB HO1 HB1 HX hrun
        rcases hgk with ⟨rfl, ha0, ha1, rfl⟩ | ⟨rfl, ⟨ha0, ha1⟩, rfl⟩ | ⟨hk, ⟨ha0, ha1⟩, ⟨hb0, hb1⟩⟩
        · have hz : gateV rl (1, xa, 0) = (xa == 1) := by
            show (if (1 : Int) = 1 then decide (xa = 1) else _) = _
            rw [if_pos rfl, Bool.eq_iff_iff]
            simp
          have own2 := World.ownsRow.alloc HOg.out (.cells #[.bool (xa == 1)] 4)
          have hbA : Below (w.heap.size + 1) (w.alloc (.cells #[.int .i64 ins, .slice (some ⟨b, off, none⟩) gs.length gc, .slice oa os.length oc] 27)) ((wr.alloc (.cells #[.int .i64 1, .int .i64 xa, .int .i64 0] 108)).alloc (.cells #[.bool (xa == 1)] 4)) := HBg.out.alloc (by have := HBg.out.size; omega) _
          have cells2 : ∀ (i : Nat) (u : Value), ([.bool (xa == 1)] : List Value)[i]? = some u → ((wr.alloc (.cells #[.int .i64 1, .int .i64 xa, .int .i64 0] 108)).alloc (.cells #[.bool (xa == 1)] 4)).cell? ((⟨wr.heap.size + 1, 0, none⟩ : Addr).add i) = some u := by
            have h := oneB_cells (wr.alloc (.cells #[.int .i64 1, .int .i64 xa, .int .i64 0] 108)) (xa == 1)
            rw [World.size_alloc] at h
            exact h
          have hsA := hbA.size
          have HNX' := HNX (xa == 1) hz
          clear HNX HOg HBg hz HO
          go_wp2_with (at_builtin; refine wpList_append_own _ rfl _ _ 33 rfl (w.heap.size + 1) 4 i0 (.bool false) 1 1 Try.underlying33 hi hz0 hz1 hz2 rfl (by decide) _ _ _ rfl own2 ⟨wr.heap.size + 1, 0, none⟩ 1 1 [.bool (xa == 1)] rfl rfl cells2 (bools_one [(xa == 1)]) (by unfold maxLen; omega) (by omega) (by omega) ?_)
          intro v2 w2 own3 grow2 _
          have HB3 : Hid (Below (w.heap.size + 1) (w.alloc (.cells #[.int .i64 ins, .slice (some ⟨b, off, none⟩) gs.length gc, .slice oa os.length oc] 27)) w2) := below_app hbA (by omega) (Nat.le_refl _) own2 grow2
          have HO3 : Hid (OwnBools w2 (w.heap.size + 1) v2 (runG (gs.take (j + 1)) il)) := HNX'.out v2 w2 (by first | exact own3 | (rw [hol]; exact own3))
          clear own2 own3 grow2 hbA cells2 HNX' hsA
          go_wp2_with fail
          go_roundw
          case rel => exact ⟨j + 1, by omega, by go_num, HO3, HB3⟩
          case measure => simp [intOf]; omega
        · obtain ⟨vg, vcp, hv, hvl, hcell⟩ := ownB_at HO.out ha0 (by omega)
          subst hv
          obtain ⟨A, rfl⟩ := Int.eq_ofNat_of_zero_le ha0
          rw [Int.toNat_natCast] at hcell
          have hz0' : gateV rl (2, (A : Int), 0) = !(at' rl A) := by simp [gateV]
          generalize at' rl A = p at *
          cases p
          · have hz : gateV rl (2, (A : Int), 0) = true := hz0'
            clear hz0'
            have own2 := World.ownsRow.alloc HOg.out (.cells #[.bool true] 4)
            have hbA : Below (w.heap.size + 1) (w.alloc (.cells #[.int .i64 ins, .slice (some ⟨b, off, none⟩) gs.length gc, .slice oa os.length oc] 27)) ((wr.alloc (.cells #[.int .i64 2, .int .i64 (A : Int), .int .i64 0] 108)).alloc (.cells #[.bool true] 4)) := HBg.out.alloc (by have := HBg.out.size; omega) _
            have cells2 : ∀ (i : Nat) (u : Value), ([.bool true] : List Value)[i]? = some u → ((wr.alloc (.cells #[.int .i64 2, .int .i64 (A : Int), .int .i64 0] 108)).alloc (.cells #[.bool true] 4)).cell? ((⟨wr.heap.size + 1, 0, none⟩ : Addr).add i) = some u := by
              have h := oneB_cells (wr.alloc (.cells #[.int .i64 2, .int .i64 (A : Int), .int .i64 0] 108)) true
              rw [World.size_alloc] at h
              exact h
            have hsA := hbA.size
            have HNX' := HNX true hz
            clear HNX HOg HBg hz HO
            go_wp2_with (at_builtin; refine wpList_append_own _ rfl _ _ 33 rfl (w.heap.size + 1) 4 i0 (.bool false) 1 1 Try.underlying33 hi hz0 hz1 hz2 rfl (by decide) _ _ _ rfl own2 ⟨wr.heap.size + 1, 0, none⟩ 1 1 [.bool true] rfl rfl cells2 (bools_one [true]) (by unfold maxLen; omega) (by omega) (by omega) ?_)
            intro v2 w2 own3 grow2 _
            have HB3 : Hid (Below (w.heap.size + 1) (w.alloc (.cells #[.int .i64 ins, .slice (some ⟨b, off, none⟩) gs.length gc, .slice oa os.length oc] 27)) w2) := below_app hbA (by omega) (Nat.le_refl _) own2 grow2
            have HO3 : Hid (OwnBools w2 (w.heap.size + 1) v2 (runG (gs.take (j + 1)) il)) := HNX'.out v2 w2 (by first | exact own3 | (rw [hol]; exact own3))
            clear own2 own3 grow2 hbA cells2 HNX' hsA
            go_wp2_with fail
            go_roundw
            case rel => exact ⟨j + 1, by omega, by go_num, HO3, HB3⟩
            case measure => simp [intOf]; omega
          · have hz : gateV rl (2, (A : Int), 0) = false := hz0'
            clear hz0'
            have own2 := World.ownsRow.alloc HOg.out (.cells #[.bool false] 4)
            have hbA : Below (w.heap.size + 1) (w.alloc (.cells #[.int .i64 ins, .slice (some ⟨b, off, none⟩) gs.length gc, .slice oa os.length oc] 27)) ((wr.alloc (.cells #[.int .i64 2, .int .i64 (A : Int), .int .i64 0] 108)).alloc (.cells #[.bool false] 4)) := HBg.out.alloc (by have := HBg.out.size; omega) _
            have cells2 : ∀ (i : Nat) (u : Value), ([.bool false] : List Value)[i]? = some u → ((wr.alloc (.cells #[.int .i64 2, .int .i64 (A : Int), .int .i64 0] 108)).alloc (.cells #[.bool false] 4)).cell? ((⟨wr.heap.size + 1, 0, none⟩ : Addr).add i) = some u := by
              have h := oneB_cells (wr.alloc (.cells #[.int .i64 2, .int .i64 (A : Int), .int .i64 0] 108)) false
              rw [World.size_alloc] at h
              exact h
            have hsA := hbA.size
            have HNX' := HNX false hz
            clear HNX HOg HBg hz HO
            go_wp2_with (at_builtin; refine wpList_append_own _ rfl _ _ 33 rfl (w.heap.size + 1) 4 i0 (.bool false) 1 1 Try.underlying33 hi hz0 hz1 hz2 rfl (by decide) _ _ _ rfl own2 ⟨wr.heap.size + 1, 0, none⟩ 1 1 [.bool false] rfl rfl cells2 (bools_one [false]) (by unfold maxLen; omega) (by omega) (by omega) ?_)
            intro v2 w2 own3 grow2 _
            have HB3 : Hid (Below (w.heap.size + 1) (w.alloc (.cells #[.int .i64 ins, .slice (some ⟨b, off, none⟩) gs.length gc, .slice oa os.length oc] 27)) w2) := below_app hbA (by omega) (Nat.le_refl _) own2 grow2
            have HO3 : Hid (OwnBools w2 (w.heap.size + 1) v2 (runG (gs.take (j + 1)) il)) := HNX'.out v2 w2 (by first | exact own3 | (rw [hol]; exact own3))
            clear own2 own3 grow2 hbA cells2 HNX' hsA
            go_wp2_with fail
            go_roundw
            case rel => exact ⟨j + 1, by omega, by go_num, HO3, HB3⟩
            case measure => simp [intOf]; omega
        · obtain ⟨vg, vcp, hv, hvl, hcell⟩ := ownB_at HO.out ha0 (by omega)
          obtain ⟨vg', vcp', hv', hvl', hcell'⟩ := ownB_at HO.out hb0 (by omega)
          rw [hv] at hv'
          injection hv' with e1 e2 e3
          injection e1 with e1
          injection e1 with e1
          subst e1 e3 hv
          obtain ⟨A, rfl⟩ := Int.eq_ofNat_of_zero_le ha0
          obtain ⟨B, rfl⟩ := Int.eq_ofNat_of_zero_le hb0
          rw [Int.toNat_natCast] at hcell hcell'
          have hz3 : gateV rl (3, (A : Int), (B : Int)) = (at' rl A && at' rl B) := by simp [gateV]
          have hz4 : gateV rl (4, (A : Int), (B : Int)) = (at' rl A || at' rl B) := by simp [gateV]
          have hz5 : gateV rl (5, (A : Int), (B : Int)) = (at' rl A != at' rl B) := by simp [gateV]
          generalize at' rl A = p at *
          generalize at' rl B = q at *
          rcases hk with rfl | rfl | rfl
          · cases p <;> cases q
            · have hz : gateV rl (3, (A : Int), (B : Int)) = false := hz3
              clear hz3 hz4 hz5
              have own2 := World.ownsRow.alloc HOg.out (.cells #[.bool false] 4)
              have hbA : Below (w.heap.size + 1) (w.alloc (.cells #[.int .i64 ins, .slice (some ⟨b, off, none⟩) gs.length gc, .slice oa os.length oc] 27)) ((wr.alloc (.cells #[.int .i64 3, .int .i64 (A : Int), .int .i64 (B : Int)] 108)).alloc (.cells #[.bool false] 4)) := HBg.out.alloc (by have := HBg.out.size; omega) _
              have cells2 : ∀ (i : Nat) (u : Value), ([.bool false] : List Value)[i]? = some u → ((wr.alloc (.cells #[.int .i64 3, .int .i64 (A : Int), .int .i64 (B : Int)] 108)).alloc (.cells #[.bool false] 4)).cell? ((⟨wr.heap.size + 1, 0, none⟩ : Addr).add i) = some u := by
                have h := oneB_cells (wr.alloc (.cells #[.int .i64 3, .int .i64 (A : Int), .int .i64 (B : Int)] 108)) false
                rw [World.size_alloc] at h
                exact h
              have hsA := hbA.size
              have HNX' := HNX false hz
              clear HNX HOg HBg hz HO
              go_wp2_with (at_builtin; refine wpList_append_own _ rfl _ _ 33 rfl (w.heap.size + 1) 4 i0 (.bool false) 1 1 Try.underlying33 hi hz0 hz1 hz2 rfl (by decide) _ _ _ rfl own2 ⟨wr.heap.size + 1, 0, none⟩ 1 1 [.bool false] rfl rfl cells2 (bools_one [false]) (by unfold maxLen; omega) (by omega) (by omega) ?_)
              intro v2 w2 own3 grow2 _
              have HB3 : Hid (Below (w.heap.size + 1) (w.alloc (.cells #[.int .i64 ins, .slice (some ⟨b, off, none⟩) gs.length gc, .slice oa os.length oc] 27)) w2) := below_app hbA (by omega) (Nat.le_refl _) own2 grow2
              have HO3 : Hid (OwnBools w2 (w.heap.size + 1) v2 (runG (gs.take (j + 1)) il)) := HNX'.out v2 w2 (by first | exact own3 | (rw [hol]; exact own3))
              clear own2 own3 grow2 hbA cells2 HNX' hsA
              go_wp2_with fail
              go_roundw
              case rel => exact ⟨j + 1, by omega, by go_num, HO3, HB3⟩
              case measure => simp [intOf]; omega
            · have hz : gateV rl (3, (A : Int), (B : Int)) = false := hz3
              clear hz3 hz4 hz5
              have own2 := World.ownsRow.alloc HOg.out (.cells #[.bool false] 4)
              have hbA : Below (w.heap.size + 1) (w.alloc (.cells #[.int .i64 ins, .slice (some ⟨b, off, none⟩) gs.length gc, .slice oa os.length oc] 27)) ((wr.alloc (.cells #[.int .i64 3, .int .i64 (A : Int), .int .i64 (B : Int)] 108)).alloc (.cells #[.bool false] 4)) := HBg.out.alloc (by have := HBg.out.size; omega) _
              have cells2 : ∀ (i : Nat) (u : Value), ([.bool false] : List Value)[i]? = some u → ((wr.alloc (.cells #[.int .i64 3, .int .i64 (A : Int), .int .i64 (B : Int)] 108)).alloc (.cells #[.bool false] 4)).cell? ((⟨wr.heap.size + 1, 0, none⟩ : Addr).add i) = some u := by
                have h := oneB_cells (wr.alloc (.cells #[.int .i64 3, .int .i64 (A : Int), .int .i64 (B : Int)] 108)) false
                rw [World.size_alloc] at h
                exact h
              have hsA := hbA.size
              have HNX' := HNX false hz
              clear HNX HOg HBg hz HO
              go_wp2_with (at_builtin; refine wpList_append_own _ rfl _ _ 33 rfl (w.heap.size + 1) 4 i0 (.bool false) 1 1 Try.underlying33 hi hz0 hz1 hz2 rfl (by decide) _ _ _ rfl own2 ⟨wr.heap.size + 1, 0, none⟩ 1 1 [.bool false] rfl rfl cells2 (bools_one [false]) (by unfold maxLen; omega) (by omega) (by omega) ?_)
              intro v2 w2 own3 grow2 _
              have HB3 : Hid (Below (w.heap.size + 1) (w.alloc (.cells #[.int .i64 ins, .slice (some ⟨b, off, none⟩) gs.length gc, .slice oa os.length oc] 27)) w2) := below_app hbA (by omega) (Nat.le_refl _) own2 grow2
              have HO3 : Hid (OwnBools w2 (w.heap.size + 1) v2 (runG (gs.take (j + 1)) il)) := HNX'.out v2 w2 (by first | exact own3 | (rw [hol]; exact own3))
              clear own2 own3 grow2 hbA cells2 HNX' hsA
              go_wp2_with fail
              go_roundw
              case rel => exact ⟨j + 1, by omega, by go_num, HO3, HB3⟩
              case measure => simp [intOf]; omega
            · have hz : gateV rl (3, (A : Int), (B : Int)) = false := hz3
              clear hz3 hz4 hz5
              have own2 := World.ownsRow.alloc HOg.out (.cells #[.bool false] 4)
              have hbA : Below (w.heap.size + 1) (w.alloc (.cells #[.int .i64 ins, .slice (some ⟨b, off, none⟩) gs.length gc, .slice oa os.length oc] 27)) ((wr.alloc (.cells #[.int .i64 3, .int .i64 (A : Int), .int .i64 (B : Int)] 108)).alloc (.cells #[.bool false] 4)) := HBg.out.alloc (by have := HBg.out.size; omega) _
              have cells2 : ∀ (i : Nat) (u : Value), ([.bool false] : List Value)[i]? = some u → ((wr.alloc (.cells #[.int .i64 3, .int .i64 (A : Int), .int .i64 (B : Int)] 108)).alloc (.cells #[.bool false] 4)).cell? ((⟨wr.heap.size + 1, 0, none⟩ : Addr).add i) = some u := by
                have h := oneB_cells (wr.alloc (.cells #[.int .i64 3, .int .i64 (A : Int), .int .i64 (B : Int)] 108)) false
                rw [World.size_alloc] at h
                exact h
              have hsA := hbA.size
              have HNX' := HNX false hz
              clear HNX HOg HBg hz HO
              go_wp2_with (at_builtin; refine wpList_append_own _ rfl _ _ 33 rfl (w.heap.size + 1) 4 i0 (.bool false) 1 1 Try.underlying33 hi hz0 hz1 hz2 rfl (by decide) _ _ _ rfl own2 ⟨wr.heap.size + 1, 0, none⟩ 1 1 [.bool false] rfl rfl cells2 (bools_one [false]) (by unfold maxLen; omega) (by omega) (by omega) ?_)
              intro v2 w2 own3 grow2 _
              have HB3 : Hid (Below (w.heap.size + 1) (w.alloc (.cells #[.int .i64 ins, .slice (some ⟨b, off, none⟩) gs.length gc, .slice oa os.length oc] 27)) w2) := below_app hbA (by omega) (Nat.le_refl _) own2 grow2
              have HO3 : Hid (OwnBools w2 (w.heap.size + 1) v2 (runG (gs.take (j + 1)) il)) := HNX'.out v2 w2 (by first | exact own3 | (rw [hol]; exact own3))
              clear own2 own3 grow2 hbA cells2 HNX' hsA
              go_wp2_with fail
              go_roundw
              case rel => exact ⟨j + 1, by omega, by go_num, HO3, HB3⟩
              case measure => simp [intOf]; omega
            · have hz : gateV rl (3, (A : Int), (B : Int)) = true := hz3
              clear hz3 hz4 hz5
              have own2 := World.ownsRow.alloc HOg.out (.cells #[.bool true] 4)
              have hbA : Below (w.heap.size + 1) (w.alloc (.cells #[.int .i64 ins, .slice (some ⟨b, off, none⟩) gs.length gc, .slice oa os.length oc] 27)) ((wr.alloc (.cells #[.int .i64 3, .int .i64 (A : Int), .int .i64 (B : Int)] 108)).alloc (.cells #[.bool true] 4)) := HBg.out.alloc (by have := HBg.out.size; omega) _
              have cells2 : ∀ (i : Nat) (u : Value), ([.bool true] : List Value)[i]? = some u → ((wr.alloc (.cells #[.int .i64 3, .int .i64 (A : Int), .int .i64 (B : Int)] 108)).alloc (.cells #[.bool true] 4)).cell? ((⟨wr.heap.size + 1, 0, none⟩ : Addr).add i) = some u := by
                have h := oneB_cells (wr.alloc (.cells #[.int .i64 3, .int .i64 (A : Int), .int .i64 (B : Int)] 108)) true
                rw [World.size_alloc] at h
                exact h
              have hsA := hbA.size
              have HNX' := HNX true hz
              clear HNX HOg HBg hz HO
              go_wp2_with (at_builtin; refine wpList_append_own _ rfl _ _ 33 rfl (w.heap.size + 1) 4 i0 (.bool false) 1 1 Try.underlying33 hi hz0 hz1 hz2 rfl (by decide) _ _ _ rfl own2 ⟨wr.heap.size + 1, 0, none⟩ 1 1 [.bool true] rfl rfl cells2 (bools_one [true]) (by unfold maxLen; omega) (by omega) (by omega) ?_)
              intro v2 w2 own3 grow2 _
              have HB3 : Hid (Below (w.heap.size + 1) (w.alloc (.cells #[.int .i64 ins, .slice (some ⟨b, off, none⟩) gs.length gc, .slice oa os.length oc] 27)) w2) := below_app hbA (by omega) (Nat.le_refl _) own2 grow2
              have HO3 : Hid (OwnBools w2 (w.heap.size + 1) v2 (runG (gs.take (j + 1)) il)) := HNX'.out v2 w2 (by first | exact own3 | (rw [hol]; exact own3))
              clear own2 own3 grow2 hbA cells2 HNX' hsA
              go_wp2_with fail
              go_roundw
              case rel => exact ⟨j + 1, by omega, by go_num, HO3, HB3⟩
              case measure => simp [intOf]; omega
          · cases p <;> cases q
            · have hz : gateV rl (4, (A : Int), (B : Int)) = false := hz4
              clear hz3 hz4 hz5
              have own2 := World.ownsRow.alloc HOg.out (.cells #[.bool false] 4)
              have hbA : Below (w.heap.size + 1) (w.alloc (.cells #[.int .i64 ins, .slice (some ⟨b, off, none⟩) gs.length gc, .slice oa os.length oc] 27)) ((wr.alloc (.cells #[.int .i64 4, .int .i64 (A : Int), .int .i64 (B : Int)] 108)).alloc (.cells #[.bool false] 4)) := HBg.out.alloc (by have := HBg.out.size; omega) _
              have cells2 : ∀ (i : Nat) (u : Value), ([.bool false] : List Value)[i]? = some u → ((wr.alloc (.cells #[.int .i64 4, .int .i64 (A : Int), .int .i64 (B : Int)] 108)).alloc (.cells #[.bool false] 4)).cell? ((⟨wr.heap.size + 1, 0, none⟩ : Addr).add i) = some u := by
                have h := oneB_cells (wr.alloc (.cells #[.int .i64 4, .int .i64 (A : Int), .int .i64 (B : Int)] 108)) false
                rw [World.size_alloc] at h
                exact h
              have hsA := hbA.size
              have HNX' := HNX false hz
              clear HNX HOg HBg hz HO
              go_wp2_with (at_builtin; refine wpList_append_own _ rfl _ _ 33 rfl (w.heap.size + 1) 4 i0 (.bool false) 1 1 Try.underlying33 hi hz0 hz1 hz2 rfl (by decide) _ _ _ rfl own2 ⟨wr.heap.size + 1, 0, none⟩ 1 1 [.bool false] rfl rfl cells2 (bools_one [false]) (by unfold maxLen; omega) (by omega) (by omega) ?_)
              intro v2 w2 own3 grow2 _
              have HB3 : Hid (Below (w.heap.size + 1) (w.alloc (.cells #[.int .i64 ins, .slice (some ⟨b, off, none⟩) gs.length gc, .slice oa os.length oc] 27)) w2) := below_app hbA (by omega) (Nat.le_refl _) own2 grow2
              have HO3 : Hid (OwnBools w2 (w.heap.size + 1) v2 (runG (gs.take (j + 1)) il)) := HNX'.out v2 w2 (by first | exact own3 | (rw [hol]; exact own3))
              clear own2 own3 grow2 hbA cells2 HNX' hsA
              go_wp2_with fail
              go_roundw
              case rel => exact ⟨j + 1, by omega, by go_num, HO3, HB3⟩
              case measure => simp [intOf]; omega
            · have hz : gateV rl (4, (A : Int), (B : Int)) = true := hz4
              clear hz3 hz4 hz5
              have own2 := World.ownsRow.alloc HOg.out (.cells #[.bool true] 4)
              have hbA : Below (w.heap.size + 1) (w.alloc (.cells #[.int .i64 ins, .slice (some ⟨b, off, none⟩) gs.length gc, .slice oa os.length oc] 27)) ((wr.alloc (.cells #[.int .i64 4, .int .i64 (A : Int), .int .i64 (B : Int)] 108)).alloc (.cells #[.bool true] 4)) := HBg.out.alloc (by have := HBg.out.size; omega) _
              have cells2 : ∀ (i : Nat) (u : Value), ([.bool true] : List Value)[i]? = some u → ((wr.alloc (.cells #[.int .i64 4, .int .i64 (A : Int), .int .i64 (B : Int)] 108)).alloc (.cells #[.bool true] 4)).cell? ((⟨wr.heap.size + 1, 0, none⟩ : Addr).add i) = some u := by
                have h := oneB_cells (wr.alloc (.cells #[.int .i64 4, .int .i64 (A : Int), .int .i64 (B : Int)] 108)) true
                rw [World.size_alloc] at h
                exact h
              have hsA := hbA.size
              have HNX' := HNX true hz
              clear HNX HOg HBg hz HO
              go_wp2_with (at_builtin; refine wpList_append_own _ rfl _ _ 33 rfl (w.heap.size + 1) 4 i0 (.bool false) 1 1 Try.underlying33 hi hz0 hz1 hz2 rfl (by decide) _ _ _ rfl own2 ⟨wr.heap.size + 1, 0, none⟩ 1 1 [.bool true] rfl rfl cells2 (bools_one [true]) (by unfold maxLen; omega) (by omega) (by omega) ?_)
              intro v2 w2 own3 grow2 _
              have HB3 : Hid (Below (w.heap.size + 1) (w.alloc (.cells #[.int .i64 ins, .slice (some ⟨b, off, none⟩) gs.length gc, .slice oa os.length oc] 27)) w2) := below_app hbA (by omega) (Nat.le_refl _) own2 grow2
              have HO3 : Hid (OwnBools w2 (w.heap.size + 1) v2 (runG (gs.take (j + 1)) il)) := HNX'.out v2 w2 (by first | exact own3 | (rw [hol]; exact own3))
              clear own2 own3 grow2 hbA cells2 HNX' hsA
              go_wp2_with fail
              go_roundw
              case rel => exact ⟨j + 1, by omega, by go_num, HO3, HB3⟩
              case measure => simp [intOf]; omega
            · have hz : gateV rl (4, (A : Int), (B : Int)) = true := hz4
              clear hz3 hz4 hz5
              have own2 := World.ownsRow.alloc HOg.out (.cells #[.bool true] 4)
              have hbA : Below (w.heap.size + 1) (w.alloc (.cells #[.int .i64 ins, .slice (some ⟨b, off, none⟩) gs.length gc, .slice oa os.length oc] 27)) ((wr.alloc (.cells #[.int .i64 4, .int .i64 (A : Int), .int .i64 (B : Int)] 108)).alloc (.cells #[.bool true] 4)) := HBg.out.alloc (by have := HBg.out.size; omega) _
              have cells2 : ∀ (i : Nat) (u : Value), ([.bool true] : List Value)[i]? = some u → ((wr.alloc (.cells #[.int .i64 4, .int .i64 (A : Int), .int .i64 (B : Int)] 108)).alloc (.cells #[.bool true] 4)).cell? ((⟨wr.heap.size + 1, 0, none⟩ : Addr).add i) = some u := by
                have h := oneB_cells (wr.alloc (.cells #[.int .i64 4, .int .i64 (A : Int), .int .i64 (B : Int)] 108)) true
                rw [World.size_alloc] at h
                exact h
              have hsA := hbA.size
              have HNX' := HNX true hz
              clear HNX HOg HBg hz HO
              go_wp2_with (at_builtin; refine wpList_append_own _ rfl _ _ 33 rfl (w.heap.size + 1) 4 i0 (.bool false) 1 1 Try.underlying33 hi hz0 hz1 hz2 rfl (by decide) _ _ _ rfl own2 ⟨wr.heap.size + 1, 0, none⟩ 1 1 [.bool true] rfl rfl cells2 (bools_one [true]) (by unfold maxLen; omega) (by omega) (by omega) ?_)
              intro v2 w2 own3 grow2 _
              have HB3 : Hid (Below (w.heap.size + 1) (w.alloc (.cells #[.int .i64 ins, .slice (some ⟨b, off, none⟩) gs.length gc, .slice oa os.length oc] 27)) w2) := below_app hbA (by omega) (Nat.le_refl _) own2 grow2
              have HO3 : Hid (OwnBools w2 (w.heap.size + 1) v2 (runG (gs.take (j + 1)) il)) := HNX'.out v2 w2 (by first | exact own3 | (rw [hol]; exact own3))
              clear own2 own3 grow2 hbA cells2 HNX' hsA
              go_wp2_with fail
              go_roundw
              case rel => exact ⟨j + 1, by omega, by go_num, HO3, HB3⟩
              case measure => simp [intOf]; omega
            · have hz : gateV rl (4, (A : Int), (B : Int)) = true := hz4
              clear hz3 hz4 hz5
              have own2 := World.ownsRow.alloc HOg.out (.cells #[.bool true] 4)
              have hbA : Below (w.heap.size + 1) (w.alloc (.cells #[.int .i64 ins, .slice (some ⟨b, off, none⟩) gs.length gc, .slice oa os.length oc] 27)) ((wr.alloc (.cells #[.int .i64 4, .int .i64 (A : Int), .int .i64 (B : Int)] 108)).alloc (.cells #[.bool true] 4)) := HBg.out.alloc (by have := HBg.out.size; omega) _
              have cells2 : ∀ (i : Nat) (u : Value), ([.bool true] : List Value)[i]? = some u → ((wr.alloc (.cells #[.int .i64 4, .int .i64 (A : Int), .int .i64 (B : Int)] 108)).alloc (.cells #[.bool true] 4)).cell? ((⟨wr.heap.size + 1, 0, none⟩ : Addr).add i) = some u := by
                have h := oneB_cells (wr.alloc (.cells #[.int .i64 4, .int .i64 (A : Int), .int .i64 (B : Int)] 108)) true
                rw [World.size_alloc] at h
                exact h
              have hsA := hbA.size
              have HNX' := HNX true hz
              clear HNX HOg HBg hz HO
              go_wp2_with (at_builtin; refine wpList_append_own _ rfl _ _ 33 rfl (w.heap.size + 1) 4 i0 (.bool false) 1 1 Try.underlying33 hi hz0 hz1 hz2 rfl (by decide) _ _ _ rfl own2 ⟨wr.heap.size + 1, 0, none⟩ 1 1 [.bool true] rfl rfl cells2 (bools_one [true]) (by unfold maxLen; omega) (by omega) (by omega) ?_)
              intro v2 w2 own3 grow2 _
              have HB3 : Hid (Below (w.heap.size + 1) (w.alloc (.cells #[.int .i64 ins, .slice (some ⟨b, off, none⟩) gs.length gc, .slice oa os.length oc] 27)) w2) := below_app hbA (by omega) (Nat.le_refl _) own2 grow2
              have HO3 : Hid (OwnBools w2 (w.heap.size + 1) v2 (runG (gs.take (j + 1)) il)) := HNX'.out v2 w2 (by first | exact own3 | (rw [hol]; exact own3))
              clear own2 own3 grow2 hbA cells2 HNX' hsA
              go_wp2_with fail
              go_roundw
              case rel => exact ⟨j + 1, by omega, by go_num, HO3, HB3⟩
              case measure => simp [intOf]; omega
          · cases p <;> cases q
            · have hz : gateV rl (5, (A : Int), (B : Int)) = false := hz5
              clear hz3 hz4 hz5
              go_wp2_with fail
              go_quiet (fail)
              have hs5 : ((wr.alloc (.cells #[.int .i64 5, .int .i64 (A : Int), .int .i64 (B : Int)] 108)).drewN nq).heap.size = wr.heap.size + 1 := World.size_alloc wr (.cells #[.int .i64 5, .int .i64 (A : Int), .int .i64 (B : Int)] 108)
              have own2 := World.ownsRow.alloc (show ((wr.alloc (.cells #[.int .i64 5, .int .i64 (A : Int), .int .i64 (B : Int)] 108)).drewN nq).ownsRow (w.heap.size + 1) 4 1 _ rl.length (cellsB rl) from HOg.out) (.cells #[.bool false] 4)
              rw [hol] at own2
              have hbA : Below (w.heap.size + 1) (w.alloc (.cells #[.int .i64 ins, .slice (some ⟨b, off, none⟩) gs.length gc, .slice oa os.length oc] 27)) (((wr.alloc (.cells #[.int .i64 5, .int .i64 (A : Int), .int .i64 (B : Int)] 108)).drewN nq).alloc (.cells #[.bool false] 4)) := (show Below (w.heap.size + 1) _ ((wr.alloc (.cells #[.int .i64 5, .int .i64 (A : Int), .int .i64 (B : Int)] 108)).drewN nq) from ⟨HBg.out.os, HBg.out.tape, HBg.out.output, HBg.out.size, HBg.out.block⟩).alloc (by have := HBg.out.size; have := hs5; omega) _
              have cells2 : ∀ (i : Nat) (u : Value), ([.bool false] : List Value)[i]? = some u → (((wr.alloc (.cells #[.int .i64 5, .int .i64 (A : Int), .int .i64 (B : Int)] 108)).drewN nq).alloc (.cells #[.bool false] 4)).cell? ((⟨wr.heap.size + 1, 0, none⟩ : Addr).add i) = some u := by
                have h := oneB_cells ((wr.alloc (.cells #[.int .i64 5, .int .i64 (A : Int), .int .i64 (B : Int)] 108)).drewN nq) false
                rw [hs5] at h
                exact h
              have hsA := hbA.size
              have HNX' := HNX false hz
              clear HNX HOg HBg hz HO
              go_wp2_with (at_builtin; refine wpList_append_own _ rfl _ _ 33 rfl (w.heap.size + 1) 4 i0 (.bool false) 1 1 Try.underlying33 hi hz0 hz1 hz2 rfl (by decide) _ _ _ rfl own2 ⟨wr.heap.size + 1, 0, none⟩ 1 1 [.bool false] rfl rfl cells2 (bools_one [false]) (by unfold maxLen; omega) (by omega) (by omega) ?_)
              intro v2 w2 own3 grow2 _
              have HB3 : Hid (Below (w.heap.size + 1) (w.alloc (.cells #[.int .i64 ins, .slice (some ⟨b, off, none⟩) gs.length gc, .slice oa os.length oc] 27)) w2) := below_app hbA (by omega) (Nat.le_refl _) own2 grow2
              have HO3 : Hid (OwnBools w2 (w.heap.size + 1) v2 (runG (gs.take (j + 1)) il)) := HNX'.out v2 w2 (by first | exact own3 | (rw [hol]; exact own3))
              clear own2 own3 grow2 hbA cells2 HNX' hsA
              go_wp2_with fail
              go_roundw
              case rel => exact ⟨j + 1, by omega, by go_num, HO3, HB3⟩
              case measure => simp [intOf]; omega
            · have hz : gateV rl (5, (A : Int), (B : Int)) = true := hz5
              clear hz3 hz4 hz5
              go_wp2_with fail
              go_quiet (fail)
              have hs5 : ((wr.alloc (.cells #[.int .i64 5, .int .i64 (A : Int), .int .i64 (B : Int)] 108)).drewN nq).heap.size = wr.heap.size + 1 := World.size_alloc wr (.cells #[.int .i64 5, .int .i64 (A : Int), .int .i64 (B : Int)] 108)
              have own2 := World.ownsRow.alloc (show ((wr.alloc (.cells #[.int .i64 5, .int .i64 (A : Int), .int .i64 (B : Int)] 108)).drewN nq).ownsRow (w.heap.size + 1) 4 1 _ rl.length (cellsB rl) from HOg.out) (.cells #[.bool true] 4)
              rw [hol] at own2
              have hbA : Below (w.heap.size + 1) (w.alloc (.cells #[.int .i64 ins, .slice (some ⟨b, off, none⟩) gs.length gc, .slice oa os.length oc] 27)) (((wr.alloc (.cells #[.int .i64 5, .int .i64 (A : Int), .int .i64 (B : Int)] 108)).drewN nq).alloc (.cells #[.bool true] 4)) := (show Below (w.heap.size + 1) _ ((wr.alloc (.cells #[.int .i64 5, .int .i64 (A : Int), .int .i64 (B : Int)] 108)).drewN nq) from ⟨HBg.out.os, HBg.out.tape, HBg.out.output, HBg.out.size, HBg.out.block⟩).alloc (by have := HBg.out.size; have := hs5; omega) _
              have cells2 : ∀ (i : Nat) (u : Value), ([.bool true] : List Value)[i]? = some u → (((wr.alloc (.cells #[.int .i64 5, .int .i64 (A : Int), .int .i64 (B : Int)] 108)).drewN nq).alloc (.cells #[.bool true] 4)).cell? ((⟨wr.heap.size + 1, 0, none⟩ : Addr).add i) = some u := by
                have h := oneB_cells ((wr.alloc (.cells #[.int .i64 5, .int .i64 (A : Int), .int .i64 (B : Int)] 108)).drewN nq) true
                rw [hs5] at h
                exact h
              have hsA := hbA.size
              have HNX' := HNX true hz
              clear HNX HOg HBg hz HO
              go_wp2_with (at_builtin; refine wpList_append_own _ rfl _ _ 33 rfl (w.heap.size + 1) 4 i0 (.bool false) 1 1 Try.underlying33 hi hz0 hz1 hz2 rfl (by decide) _ _ _ rfl own2 ⟨wr.heap.size + 1, 0, none⟩ 1 1 [.bool true] rfl rfl cells2 (bools_one [true]) (by unfold maxLen; omega) (by omega) (by omega) ?_)
              intro v2 w2 own3 grow2 _
              have HB3 : Hid (Below (w.heap.size + 1) (w.alloc (.cells #[.int .i64 ins, .slice (some ⟨b, off, none⟩) gs.length gc, .slice oa os.length oc] 27)) w2) := below_app hbA (by omega) (Nat.le_refl _) own2 grow2
              have HO3 : Hid (OwnBools w2 (w.heap.size + 1) v2 (runG (gs.take (j + 1)) il)) := HNX'.out v2 w2 (by first | exact own3 | (rw [hol]; exact own3))
              clear own2 own3 grow2 hbA cells2 HNX' hsA
              go_wp2_with fail
              go_roundw
              case rel => exact ⟨j + 1, by omega, by go_num, HO3, HB3⟩
              case measure => simp [intOf]; omega
            · have hz : gateV rl (5, (A : Int), (B : Int)) = true := hz5
              clear hz3 hz4 hz5
              go_wp2_with fail
              go_quiet (fail)
              have hs5 : ((wr.alloc (.cells #[.int .i64 5, .int .i64 (A : Int), .int .i64 (B : Int)] 108)).drewN nq).heap.size = wr.heap.size + 1 := World.size_alloc wr (.cells #[.int .i64 5, .int .i64 (A : Int), .int .i64 (B : Int)] 108)
              have own2 := World.ownsRow.alloc (show ((wr.alloc (.cells #[.int .i64 5, .int .i64 (A : Int), .int .i64 (B : Int)] 108)).drewN nq).ownsRow (w.heap.size + 1) 4 1 _ rl.length (cellsB rl) from HOg.out) (.cells #[.bool true] 4)
              rw [hol] at own2
              have hbA : Below (w.heap.size + 1) (w.alloc (.cells #[.int .i64 ins, .slice (some ⟨b, off, none⟩) gs.length gc, .slice oa os.length oc] 27)) (((wr.alloc (.cells #[.int .i64 5, .int .i64 (A : Int), .int .i64 (B : Int)] 108)).drewN nq).alloc (.cells #[.bool true] 4)) := (show Below (w.heap.size + 1) _ ((wr.alloc (.cells #[.int .i64 5, .int .i64 (A : Int), .int .i64 (B : Int)] 108)).drewN nq) from ⟨HBg.out.os, HBg.out.tape, HBg.out.output, HBg.out.size, HBg.out.block⟩).alloc (by have := HBg.out.size; have := hs5; omega) _
              have cells2 : ∀ (i : Nat) (u : Value), ([.bool true] : List Value)[i]? = some u → (((wr.alloc (.cells #[.int .i64 5, .int .i64 (A : Int), .int .i64 (B : Int)] 108)).drewN nq).alloc (.cells #[.bool true] 4)).cell? ((⟨wr.heap.size + 1, 0, none⟩ : Addr).add i) = some u := by
                have h := oneB_cells ((wr.alloc (.cells #[.int .i64 5, .int .i64 (A : Int), .int .i64 (B : Int)] 108)).drewN nq) true
                rw [hs5] at h
                exact h
              have hsA := hbA.size
              have HNX' := HNX true hz
              clear HNX HOg HBg hz HO
              go_wp2_with (at_builtin; refine wpList_append_own _ rfl _ _ 33 rfl (w.heap.size + 1) 4 i0 (.bool false) 1 1 Try.underlying33 hi hz0 hz1 hz2 rfl (by decide) _ _ _ rfl own2 ⟨wr.heap.size + 1, 0, none⟩ 1 1 [.bool true] rfl rfl cells2 (bools_one [true]) (by unfold maxLen; omega) (by omega) (by omega) ?_)
              intro v2 w2 own3 grow2 _
              have HB3 : Hid (Below (w.heap.size + 1) (w.alloc (.cells #[.int .i64 ins, .slice (some ⟨b, off, none⟩) gs.length gc, .slice oa os.length oc] 27)) w2) := below_app hbA (by omega) (Nat.le_refl _) own2 grow2
              have HO3 : Hid (OwnBools w2 (w.heap.size + 1) v2 (runG (gs.take (j + 1)) il)) := HNX'.out v2 w2 (by first | exact own3 | (rw [hol]; exact own3))
              clear own2 own3 grow2 hbA cells2 HNX' hsA
              go_wp2_with fail
              go_roundw
              case rel => exact ⟨j + 1, by omega, by go_num, HO3, HB3⟩
              case measure => simp [intOf]; omega
            · have hz : gateV rl (5, (A : Int), (B : Int)) = false := hz5
              clear hz3 hz4 hz5
              go_wp2_with fail
              go_quiet (fail)
              have hs5 : ((wr.alloc (.cells #[.int .i64 5, .int .i64 (A : Int), .int .i64 (B : Int)] 108)).drewN nq).heap.size = wr.heap.size + 1 := World.size_alloc wr (.cells #[.int .i64 5, .int .i64 (A : Int), .int .i64 (B : Int)] 108)
              have own2 := World.ownsRow.alloc (show ((wr.alloc (.cells #[.int .i64 5, .int .i64 (A : Int), .int .i64 (B : Int)] 108)).drewN nq).ownsRow (w.heap.size + 1) 4 1 _ rl.length (cellsB rl) from HOg.out) (.cells #[.bool false] 4)
              rw [hol] at own2
              have hbA : Below (w.heap.size + 1) (w.alloc (.cells #[.int .i64 ins, .slice (some ⟨b, off, none⟩) gs.length gc, .slice oa os.length oc] 27)) (((wr.alloc (.cells #[.int .i64 5, .int .i64 (A : Int), .int .i64 (B : Int)] 108)).drewN nq).alloc (.cells #[.bool false] 4)) := (show Below (w.heap.size + 1) _ ((wr.alloc (.cells #[.int .i64 5, .int .i64 (A : Int), .int .i64 (B : Int)] 108)).drewN nq) from ⟨HBg.out.os, HBg.out.tape, HBg.out.output, HBg.out.size, HBg.out.block⟩).alloc (by have := HBg.out.size; have := hs5; omega) _
              have cells2 : ∀ (i : Nat) (u : Value), ([.bool false] : List Value)[i]? = some u → (((wr.alloc (.cells #[.int .i64 5, .int .i64 (A : Int), .int .i64 (B : Int)] 108)).drewN nq).alloc (.cells #[.bool false] 4)).cell? ((⟨wr.heap.size + 1, 0, none⟩ : Addr).add i) = some u := by
                have h := oneB_cells ((wr.alloc (.cells #[.int .i64 5, .int .i64 (A : Int), .int .i64 (B : Int)] 108)).drewN nq) false
                rw [hs5] at h
                exact h
              have hsA := hbA.size
              have HNX' := HNX false hz
              clear HNX HOg HBg hz HO
              go_wp2_with (at_builtin; refine wpList_append_own _ rfl _ _ 33 rfl (w.heap.size + 1) 4 i0 (.bool false) 1 1 Try.underlying33 hi hz0 hz1 hz2 rfl (by decide) _ _ _ rfl own2 ⟨wr.heap.size + 1, 0, none⟩ 1 1 [.bool false] rfl rfl cells2 (bools_one [false]) (by unfold maxLen; omega) (by omega) (by omega) ?_)
              intro v2 w2 own3 grow2 _
              have HB3 : Hid (Below (w.heap.size + 1) (w.alloc (.cells #[.int .i64 ins, .slice (some ⟨b, off, none⟩) gs.length gc, .slice oa os.length oc] 27)) w2) := below_app hbA (by omega) (Nat.le_refl _) own2 grow2
              have HO3 : Hid (OwnBools w2 (w.heap.size + 1) v2 (runG (gs.take (j + 1)) il)) := HNX'.out v2 w2 (by first | exact own3 | (rw [hol]; exact own3))
              clear own2 own3 grow2 hbA cells2 HNX' hsA
              go_wp2_with fail
              go_roundw
              case rel => exact ⟨j + 1, by omega, by go_num, HO3, HB3⟩
              case measure => simp [intOf]; omega
      · obtain rfl : j = gs.length := by omega
        have HN : Hid (OwnBools wr (w.heap.size + 1) u5 (runG gs il)) := by
          have h1 := HO.out
          rw [List.take_length] at h1
          exact h1
        have HB2 : Hid (Below w.heap.size w wr) := HW.out wr HB.out
        clear HO HB HG HGB HX HO1 HB1
        go_wp2_with fail
        go_ret
        exact ⟨_, rfl, own_base HN.out (by omega), HB2.out⟩
  · have cells0 := bools_from (w := ((w.alloc (.cells #[.int .i64 ins, .slice ga gs.length gc, .slice oa os.length oc] 27)).alloc (.cells #[] 4))) (g := ib) (o := 0) (t := il) (fun i x hx => by rw [hb1.cell (p := ⟨ib, 0 + i, none⟩) (by show ib < w.heap.size + 1; omega), HB0.out.cell (p := ⟨ib, 0 + i, none⟩) hilt]; exact hic i x hx)
    clear hic
    go_enter Try.func145, Try.ntmps145
    go_wp2_with (at_builtin; refine wpList_append_own _ rfl _ _ 33 rfl (w.heap.size + 1) 4 i0 (.bool false) 1 1 Try.underlying33 hi hz0 hz1 hz2 rfl (by decide) _ _ _ rfl own0 ⟨ib, 0, none⟩ il.length icap (cellsB il) rfl (by simp [cellsB]) cells0 (bools_one il) (by unfold maxLen; omega) (by omega) (by omega) ?_)
    intro v1 w1 own1 grow1 _
    have hb2 : Below (w.heap.size + 1) (w.alloc (.cells #[.int .i64 ins, .slice ga gs.length gc, .slice oa os.length oc] 27)) w1 := below_app hb1 (by omega) (Nat.le_refl _) own0 grow1
    obtain ⟨c0, c1, c2⟩ := (HX.out.below hb2 (by omega)).cells
    have hlt1 := (HX.out.below hb2 (by omega)).lt
    have HB1 : Hid (Below (w.heap.size + 1) (w.alloc (.cells #[.int .i64 ins, .slice ga gs.length gc, .slice oa os.length oc] 27)) w1) := hb2
    have HO1 : Hid (OwnBools w1 (w.heap.size + 1) v1 il) := by
      first | exact own1 | simpa using own1
    clear cells0 own0 own1 grow1 hb1 hb2 hs1
    go_wp2_with fail
    clear c0 c1 c2 hlt1
    go_loopw [5, 15] (fun v i wr => ∃ j : Nat, j ≤ gs.length ∧ i = .int .i64 j ∧ Hid (OwnBools wr (w.heap.size + 1) v (runG (gs.take j) il)) ∧ Hid (Below (w.heap.size + 1) (w.alloc (.cells #[.int .i64 ins, .slice ga gs.length gc, .slice oa os.length oc] 27)) wr)) (fun _ i _ => gs.length - (intOf i).toNat)
    case atStart => exact ⟨0, by omega, rfl, HO1, HB1⟩
    case round =>
      obtain ⟨j, hj, rfl, HO, HB⟩ := hrel
      have hszr := HB.out.size
      have hwr : w.heap.size + 1 ≤ wr.heap.size := by omega
      by_cases hlt : j < gs.length
      · obtain ⟨x, hx⟩ : ∃ x, gs[j]? = some x := ⟨gs[j], List.getElem?_eq_getElem hlt⟩
        obtain ⟨b, off, rfl, d0, d1, d2⟩ := HG.out wr (HW.out wr HB.out) j x hx
        have hgk := gateB_kind (HGB.out j x hx)
        have hnew : runG (gs.take (j + 1)) il = runG (gs.take j) il ++ [gateV (runG (gs.take j) il) x] := by
          rw [List.take_add_one, hx, runG_append]
          rfl
        have HNEW : Hid _ := hnew
        have hol : (runG (gs.take j) il).length = il.length + j := by rw [runG_len, List.length_take_of_le (by omega)]
        obtain ⟨k, xa, xb⟩ := x
        simp only at d0 d1 d2 hgk
        have HOg : Hid (OwnBools (wr.alloc (.cells #[.int .i64 k, .int .i64 xa, .int .i64 xb] 108)) (w.heap.size + 1) u5 (runG (gs.take j) il)) := World.ownsRow.alloc HO.out _
        have HBg : Hid (Below (w.heap.size + 1) (w.alloc (.cells #[.int .i64 ins, .slice (some ⟨b, off, none⟩) gs.length gc, .slice oa os.length oc] 27)) (wr.alloc (.cells #[.int .i64 k, .int .i64 xa, .int .i64 xb] 108))) := HB.out.alloc hwr _
        generalize hrun : runG (gs.take j) il = rl at *
        have HNX : ∀ z : Bool, gateV rl (k, xa, xb) = z → Hid (∀ (v2 : Value) (w2 : World), w2.ownsRow (w.heap.size + 1) 4 1 v2 (rl.length + 1) (cellsB rl ++ [.bool z]) → OwnBools w2 (w.heap.size + 1) v2 (runG (gs.take (j + 1)) il)) := by
          intro z hz v2 w2 ho2
          show OwnBools w2 (w.heap.size + 1) v2 (runG (gs.take (j + 1)) il)
          rw [HNEW.out]
          unfold OwnBools
          rw [List.length_append, List.length_singleton, cellsB_append, hz]
          exact ho2
        clear hx hnew HNEW HG HGB HO1 HB1 HX hrun
        rcases hgk with ⟨rfl, ha0, ha1, rfl⟩ | ⟨rfl, ⟨ha0, ha1⟩, rfl⟩ | ⟨hk, ⟨ha0, ha1⟩, ⟨hb0, hb1⟩⟩
        · have hz : gateV rl (1, xa, 0) = (xa == 1) := by
            show (if (1 : Int) = 1 then decide (xa = 1) else _) = _
            rw [if_pos rfl, Bool.eq_iff_iff]
            simp
          have own2 := World.ownsRow.alloc HOg.out (.cells #[.bool (xa == 1)] 4)
          have hbA : Below (w.heap.size + 1) (w.alloc (.cells #[.int .i64 ins, .slice (some ⟨b, off, none⟩) gs.length gc, .slice oa os.length oc] 27)) ((wr.alloc (.cells #[.int .i64 1, .int .i64 xa, .int .i64 0] 108)).alloc (.cells #[.bool (xa == 1)] 4)) := HBg.out.alloc (by have := HBg.out.size; omega) _
          have cells2 : ∀ (i : Nat) (u : Value), ([.bool (xa == 1)] : List Value)[i]? = some u → ((wr.alloc (.cells #[.int .i64 1, .int .i64 xa, .int .i64 0] 108)).alloc (.cells #[.bool (xa == 1)] 4)).cell? ((⟨wr.heap.size + 1, 0, none⟩ : Addr).add i) = some u := by
            have h := oneB_cells (wr.alloc (.cells #[.int .i64 1, .int .i64 xa, .int .i64 0] 108)) (xa == 1)
            rw [World.size_alloc] at h
            exact h
          have hsA := hbA.size
          have HNX' := HNX (xa == 1) hz
          clear HNX HOg HBg hz HO
          go_wp2_with (at_builtin; refine wpList_append_own _ rfl _ _ 33 rfl (w.heap.size + 1) 4 i0 (.bool false) 1 1 Try.underlying33 hi hz0 hz1 hz2 rfl (by decide) _ _ _ rfl own2 ⟨wr.heap.size + 1, 0, none⟩ 1 1 [.bool (xa == 1)] rfl rfl cells2 (bools_one [(xa == 1)]) (by unfold maxLen; omega) (by omega) (by omega) ?_)
          intro v2 w2 own3 grow2 _
          have HB3 : Hid (Below (w.heap.size + 1) (w.alloc (.cells #[.int .i64 ins, .slice (some ⟨b, off, none⟩) gs.length gc, .slice oa os.length oc] 27)) w2) := below_app hbA (by omega) (Nat.le_refl _) own2 grow2
          have HO3 : Hid (OwnBools w2 (w.heap.size + 1) v2 (runG (gs.take (j + 1)) il)) := HNX'.out v2 w2 (by first | exact own3 | (rw [hol]; exact own3))
          clear own2 own3 grow2 hbA cells2 HNX' hsA
          go_wp2_with fail
          go_roundw
          case rel => exact ⟨j + 1, by omega, by go_num, HO3, HB3⟩
          case measure => simp [intOf]; omega
        · obtain ⟨vg, vcp, hv, hvl, hcell⟩ := ownB_at HO.out ha0 (by omega)
          subst hv
          obtain ⟨A, rfl⟩ := Int.eq_ofNat_of_zero_le ha0
          rw [Int.toNat_natCast] at hcell
          have hz0' : gateV rl (2, (A : Int), 0) = !(at' rl A) := by simp [gateV]
          generalize at' rl A = p at *
          cases p
          · have hz : gateV rl (2, (A : Int), 0) = true := hz0'
            clear hz0'
            have own2 := World.ownsRow.alloc HOg.out (.cells #[.bool true] 4)
            have hbA : Below (w.heap.size + 1) (w.alloc (.cells #[.int .i64 ins, .slice (some ⟨b, off, none⟩) gs.length gc, .slice oa os.length oc] 27)) ((wr.alloc (.cells #[.int .i64 2, .int .i64 (A : Int), .int .i64 0] 108)).alloc (.cells #[.bool true] 4)) := HBg.out.alloc (by have := HBg.out.size; omega) _
            have cells2 : ∀ (i : Nat) (u : Value), ([.bool true] : List Value)[i]? = some u → ((wr.alloc (.cells #[.int .i64 2, .int .i64 (A : Int), .int .i64 0] 108)).alloc (.cells #[.bool true] 4)).cell? ((⟨wr.heap.size + 1, 0, none⟩ : Addr).add i) = some u := by
              have h := oneB_cells (wr.alloc (.cells #[.int .i64 2, .int .i64 (A : Int), .int .i64 0] 108)) true
              rw [World.size_alloc] at h
              exact h
            have hsA := hbA.size
            have HNX' := HNX true hz
            clear HNX HOg HBg hz HO
            go_wp2_with (at_builtin; refine wpList_append_own _ rfl _ _ 33 rfl (w.heap.size + 1) 4 i0 (.bool false) 1 1 Try.underlying33 hi hz0 hz1 hz2 rfl (by decide) _ _ _ rfl own2 ⟨wr.heap.size + 1, 0, none⟩ 1 1 [.bool true] rfl rfl cells2 (bools_one [true]) (by unfold maxLen; omega) (by omega) (by omega) ?_)
            intro v2 w2 own3 grow2 _
            have HB3 : Hid (Below (w.heap.size + 1) (w.alloc (.cells #[.int .i64 ins, .slice (some ⟨b, off, none⟩) gs.length gc, .slice oa os.length oc] 27)) w2) := below_app hbA (by omega) (Nat.le_refl _) own2 grow2
            have HO3 : Hid (OwnBools w2 (w.heap.size + 1) v2 (runG (gs.take (j + 1)) il)) := HNX'.out v2 w2 (by first | exact own3 | (rw [hol]; exact own3))
            clear own2 own3 grow2 hbA cells2 HNX' hsA
            go_wp2_with fail
            go_roundw
            case rel => exact ⟨j + 1, by omega, by go_num, HO3, HB3⟩
            case measure => simp [intOf]; omega
          · have hz : gateV rl (2, (A : Int), 0) = false := hz0'
            clear hz0'
            have own2 := World.ownsRow.alloc HOg.out (.cells #[.bool false] 4)
            have hbA : Below (w.heap.size + 1) (w.alloc (.cells #[.int .i64 ins, .slice (some ⟨b, off, none⟩) gs.length gc, .slice oa os.length oc] 27)) ((wr.alloc (.cells #[.int .i64 2, .int .i64 (A : Int), .int .i64 0] 108)).alloc (.cells #[.bool false] 4)) := HBg.out.alloc (by have := HBg.out.size; omega) _
            have cells2 : ∀ (i : Nat) (u : Value), ([.bool false] : List Value)[i]? = some u → ((wr.alloc (.cells #[.int .i64 2, .int .i64 (A : Int), .int .i64 0] 108)).alloc (.cells #[.bool false] 4)).cell? ((⟨wr.heap.size + 1, 0, none⟩ : Addr).add i) = some u := by
              have h := oneB_cells (wr.alloc (.cells #[.int .i64 2, .int .i64 (A : Int), .int .i64 0] 108)) false
              rw [World.size_alloc] at h
              exact h
            have hsA := hbA.size
            have HNX' := HNX false hz
            clear HNX HOg HBg hz HO
            go_wp2_with (at_builtin; refine wpList_append_own _ rfl _ _ 33 rfl (w.heap.size + 1) 4 i0 (.bool false) 1 1 Try.underlying33 hi hz0 hz1 hz2 rfl (by decide) _ _ _ rfl own2 ⟨wr.heap.size + 1, 0, none⟩ 1 1 [.bool false] rfl rfl cells2 (bools_one [false]) (by unfold maxLen; omega) (by omega) (by omega) ?_)
            intro v2 w2 own3 grow2 _
            have HB3 : Hid (Below (w.heap.size + 1) (w.alloc (.cells #[.int .i64 ins, .slice (some ⟨b, off, none⟩) gs.length gc, .slice oa os.length oc] 27)) w2) := below_app hbA (by omega) (Nat.le_refl _) own2 grow2
            have HO3 : Hid (OwnBools w2 (w.heap.size + 1) v2 (runG (gs.take (j + 1)) il)) := HNX'.out v2 w2 (by first | exact own3 | (rw [hol]; exact own3))
            clear own2 own3 grow2 hbA cells2 HNX' hsA
            go_wp2_with fail
            go_roundw
            case rel => exact ⟨j + 1, by omega, by go_num, HO3, HB3⟩
            case measure => simp [intOf]; omega
        · obtain ⟨vg, vcp, hv, hvl, hcell⟩ := ownB_at HO.out ha0 (by omega)
          obtain ⟨vg', vcp', hv', hvl', hcell'⟩ := ownB_at HO.out hb0 (by omega)
          rw [hv] at hv'
          injection hv' with e1 e2 e3
          injection e1 with e1
          injection e1 with e1
          subst e1 e3 hv
          obtain ⟨A, rfl⟩ := Int.eq_ofNat_of_zero_le ha0
          obtain ⟨B, rfl⟩ := Int.eq_ofNat_of_zero_le hb0
          rw [Int.toNat_natCast] at hcell hcell'
          have hz3 : gateV rl (3, (A : Int), (B : Int)) = (at' rl A && at' rl B) := by simp [gateV]
          have hz4 : gateV rl (4, (A : Int), (B : Int)) = (at' rl A || at' rl B) := by simp [gateV]
          have hz5 : gateV rl (5, (A : Int), (B : Int)) = (at' rl A != at' rl B) := by simp [gateV]
          generalize at' rl A = p at *
          generalize at' rl B = q at *
          rcases hk with rfl | rfl | rfl
          · cases p <;> cases q
            · have hz : gateV rl (3, (A : Int), (B : Int)) = false := hz3
              clear hz3 hz4 hz5
              have own2 := World.ownsRow.alloc HOg.out (.cells #[.bool false] 4)
              have hbA : Below (w.heap.size + 1) (w.alloc (.cells #[.int .i64 ins, .slice (some ⟨b, off, none⟩) gs.length gc, .slice oa os.length oc] 27)) ((wr.alloc (.cells #[.int .i64 3, .int .i64 (A : Int), .int .i64 (B : Int)] 108)).alloc (.cells #[.bool false] 4)) := HBg.out.alloc (by have := HBg.out.size; omega) _
              have cells2 : ∀ (i : Nat) (u : Value), ([.bool false] : List Value)[i]? = some u → ((wr.alloc (.cells #[.int .i64 3, .int .i64 (A : Int), .int .i64 (B : Int)] 108)).alloc (.cells #[.bool false] 4)).cell? ((⟨wr.heap.size + 1, 0, none⟩ : Addr).add i) = some u := by
                have h := oneB_cells (wr.alloc (.cells #[.int .i64 3, .int .i64 (A : Int), .int .i64 (B : Int)] 108)) false
                rw [World.size_alloc] at h
                exact h
              have hsA := hbA.size
              have HNX' := HNX false hz
              clear HNX HOg HBg hz HO
              go_wp2_with (at_builtin; refine wpList_append_own _ rfl _ _ 33 rfl (w.heap.size + 1) 4 i0 (.bool false) 1 1 Try.underlying33 hi hz0 hz1 hz2 rfl (by decide) _ _ _ rfl own2 ⟨wr.heap.size + 1, 0, none⟩ 1 1 [.bool false] rfl rfl cells2 (bools_one [false]) (by unfold maxLen; omega) (by omega) (by omega) ?_)
              intro v2 w2 own3 grow2 _
              have HB3 : Hid (Below (w.heap.size + 1) (w.alloc (.cells #[.int .i64 ins, .slice (some ⟨b, off, none⟩) gs.length gc, .slice oa os.length oc] 27)) w2) := below_app hbA (by omega) (Nat.le_refl _) own2 grow2
              have HO3 : Hid (OwnBools w2 (w.heap.size + 1) v2 (runG (gs.take (j + 1)) il)) := HNX'.out v2 w2 (by first | exact own3 | (rw [hol]; exact own3))
              clear own2 own3 grow2 hbA cells2 HNX' hsA
              go_wp2_with fail
              go_roundw
              case rel => exact ⟨j + 1, by omega, by go_num, HO3, HB3⟩
              case measure => simp [intOf]; omega
            · have hz : gateV rl (3, (A : Int), (B : Int)) = false := hz3
              clear hz3 hz4 hz5
              have own2 := World.ownsRow.alloc HOg.out (.cells #[.bool false] 4)
              have hbA : Below (w.heap.size + 1) (w.alloc (.cells #[.int .i64 ins, .slice (some ⟨b, off, none⟩) gs.length gc, .slice oa os.length oc] 27)) ((wr.alloc (.cells #[.int .i64 3, .int .i64 (A : Int), .int .i64 (B : Int)] 108)).alloc (.cells #[.bool false] 4)) := HBg.out.alloc (by have := HBg.out.size; omega) _
              have cells2 : ∀ (i : Nat) (u : Value), ([.bool false] : List Value)[i]? = some u → ((wr.alloc (.cells #[.int .i64 3, .int .i64 (A : Int), .int .i64 (B : Int)] 108)).alloc (.cells #[.bool false] 4)).cell? ((⟨wr.heap.size + 1, 0, none⟩ : Addr).add i) = some u := by
                have h := oneB_cells (wr.alloc (.cells #[.int .i64 3, .int .i64 (A : Int), .int .i64 (B : Int)] 108)) false
                rw [World.size_alloc] at h
                exact h
              have hsA := hbA.size
              have HNX' := HNX false hz
              clear HNX HOg HBg hz HO
              go_wp2_with (at_builtin; refine wpList_append_own _ rfl _ _ 33 rfl (w.heap.size + 1) 4 i0 (.bool false) 1 1 Try.underlying33 hi hz0 hz1 hz2 rfl (by decide) _ _ _ rfl own2 ⟨wr.heap.size + 1, 0, none⟩ 1 1 [.bool false] rfl rfl cells2 (bools_one [false]) (by unfold maxLen; omega) (by omega) (by omega) ?_)
              intro v2 w2 own3 grow2 _
              have HB3 : Hid (Below (w.heap.size + 1) (w.alloc (.cells #[.int .i64 ins, .slice (some ⟨b, off, none⟩) gs.length gc, .slice oa os.length oc] 27)) w2) := below_app hbA (by omega) (Nat.le_refl _) own2 grow2
              have HO3 : Hid (OwnBools w2 (w.heap.size + 1) v2 (runG (gs.take (j + 1)) il)) := HNX'.out v2 w2 (by first | exact own3 | (rw [hol]; exact own3))
              clear own2 own3 grow2 hbA cells2 HNX' hsA
              go_wp2_with fail
              go_roundw
              case rel => exact ⟨j + 1, by omega, by go_num, HO3, HB3⟩
              case measure => simp [intOf]; omega
            · have hz : gateV rl (3, (A : Int), (B : Int)) = false := hz3
              clear hz3 hz4 hz5
              have own2 := World.ownsRow.alloc HOg.out (.cells #[.bool false] 4)
              have hbA : Below (w.heap.size + 1) (w.alloc (.cells #[.int .i64 ins, .slice (some ⟨b, off, none⟩) gs.length gc, .slice oa os.length oc] 27)) ((wr.alloc (.cells #[.int .i64 3, .int .i64 (A : Int), .int .i64 (B : Int)] 108)).alloc (.cells #[.bool false] 4)) := HBg.out.alloc (by have := HBg.out.size; omega) _
              have cells2 : ∀ (i : Nat) (u : Value), ([.bool false] : List Value)[i]? = some u → ((wr.alloc (.cells #[.int .i64 3, .int .i64 (A : Int), .int .i64 (B : Int)] 108)).alloc (.cells #[.bool false] 4)).cell? ((⟨wr.heap.size + 1, 0, none⟩ : Addr).add i) = some u := by
                have h := oneB_cells (wr.alloc (.cells #[.int .i64 3, .int .i64 (A : Int), .int .i64 (B : Int)] 108)) false
                rw [World.size_alloc] at h
                exact h
              have hsA := hbA.size
              have HNX' := HNX false hz
              clear HNX HOg HBg hz HO
              go_wp2_with (at_builtin; refine wpList_append_own _ rfl _ _ 33 rfl (w.heap.size + 1) 4 i0 (.bool false) 1 1 Try.underlying33 hi hz0 hz1 hz2 rfl (by decide) _ _ _ rfl own2 ⟨wr.heap.size + 1, 0, none⟩ 1 1 [.bool false] rfl rfl cells2 (bools_one [false]) (by unfold maxLen; omega) (by omega) (by omega) ?_)
              intro v2 w2 own3 grow2 _
              have HB3 : Hid (Below (w.heap.size + 1) (w.alloc (.cells #[.int .i64 ins, .slice (some ⟨b, off, none⟩) gs.length gc, .slice oa os.length oc] 27)) w2) := below_app hbA (by omega) (Nat.le_refl _) own2 grow2
              have HO3 : Hid (OwnBools w2 (w.heap.size + 1) v2 (runG (gs.take (j + 1)) il)) := HNX'.out v2 w2 (by first | exact own3 | (rw [hol]; exact own3))
              clear own2 own3 grow2 hbA cells2 HNX' hsA
              go_wp2_with fail
              go_roundw
              case rel => exact ⟨j + 1, by omega, by go_num, HO3, HB3⟩
              case measure => simp [intOf]; omega
            · have hz : gateV rl (3, (A : Int), (B : Int)) = true := hz3
              clear hz3 hz4 hz5
              have own2 := World.ownsRow.alloc HOg.out (.cells #[.bool true] 4)
              have hbA : Below (w.heap.size + 1) (w.alloc (.cells #[.int .i64 ins, .slice (some ⟨b, off, none⟩) gs.length gc, .slice oa os.length oc] 27)) ((wr.alloc (.cells #[.int .i64 3, .int .i64 (A : Int), .int .i64 (B : Int)] 108)).alloc (.cells #[.bool true] 4)) := HBg.out.alloc (by have := HBg.out.size; omega) _
              have cells2 : ∀ (i : Nat) (u : Value), ([.bool true] : List Value)[i]? = some u → ((wr.alloc (.cells #[.int .i64 3, .int .i64 (A : Int), .int .i64 (B : Int)] 108)).alloc (.cells #[.bool true] 4)).cell? ((⟨wr.heap.size + 1, 0, none⟩ : Addr).add i) = some u := by
                have h := oneB_cells (wr.alloc (.cells #[.int .i64 3, .int .i64 (A : Int), .int .i64 (B : Int)] 108)) true
                rw [World.size_alloc] at h
                exact h
              have hsA := hbA.size
              have HNX' := HNX true hz
              clear HNX HOg HBg hz HO
              go_wp2_with (at_builtin; refine wpList_append_own _ rfl _ _ 33 rfl (w.heap.size + 1) 4 i0 (.bool false) 1 1 Try.underlying33 hi hz0 hz1 hz2 rfl (by decide) _ _ _ rfl own2 ⟨wr.heap.size + 1, 0, none⟩ 1 1 [.bool true] rfl rfl cells2 (bools_one [true]) (by unfold maxLen; omega) (by omega) (by omega) ?_)
              intro v2 w2 own3 grow2 _
              have HB3 : Hid (Below (w.heap.size + 1) (w.alloc (.cells #[.int .i64 ins, .slice (some ⟨b, off, none⟩) gs.length gc, .slice oa os.length oc] 27)) w2) := below_app hbA (by omega) (Nat.le_refl _) own2 grow2
              have HO3 : Hid (OwnBools w2 (w.heap.size + 1) v2 (runG (gs.take (j + 1)) il)) := HNX'.out v2 w2 (by first | exact own3 | (rw [hol]; exact own3))
              clear own2 own3 grow2 hbA cells2 HNX' hsA
              go_wp2_with fail
              go_roundw
              case rel => exact ⟨j + 1, by omega, by go_num, HO3, HB3⟩
              case measure => simp [intOf]; omega
          · cases p <;> cases q
            · have hz : gateV rl (4, (A : Int), (B : Int)) = false := hz4
              clear hz3 hz4 hz5
              have own2 := World.ownsRow.alloc HOg.out (.cells #[.bool false] 4)
              have hbA : Below (w.heap.size + 1) (w.alloc (.cells #[.int .i64 ins, .slice (some ⟨b, off, none⟩) gs.length gc, .slice oa os.length oc] 27)) ((wr.alloc (.cells #[.int .i64 4, .int .i64 (A : Int), .int .i64 (B : Int)] 108)).alloc (.cells #[.bool false] 4)) := HBg.out.alloc (by have := HBg.out.size; omega) _
              have cells2 : ∀ (i : Nat) (u : Value), ([.bool false] : List Value)[i]? = some u → ((wr.alloc (.cells #[.int .i64 4, .int .i64 (A : Int), .int .i64 (B : Int)] 108)).alloc (.cells #[.bool false] 4)).cell? ((⟨wr.heap.size + 1, 0, none⟩ : Addr).add i) = some u := by
                have h := oneB_cells (wr.alloc (.cells #[.int .i64 4, .int .i64 (A : Int), .int .i64 (B : Int)] 108)) false
                rw [World.size_alloc] at h
                exact h
              have hsA := hbA.size
              have HNX' := HNX false hz
              clear HNX HOg HBg hz HO
              go_wp2_with (at_builtin; refine wpList_append_own _ rfl _ _ 33 rfl (w.heap.size + 1) 4 i0 (.bool false) 1 1 Try.underlying33 hi hz0 hz1 hz2 rfl (by decide) _ _ _ rfl own2 ⟨wr.heap.size + 1, 0, none⟩ 1 1 [.bool false] rfl rfl cells2 (bools_one [false]) (by unfold maxLen; omega) (by omega) (by omega) ?_)
              intro v2 w2 own3 grow2 _
              have HB3 : Hid (Below (w.heap.size + 1) (w.alloc (.cells #[.int .i64 ins, .slice (some ⟨b, off, none⟩) gs.length gc, .slice oa os.length oc] 27)) w2) := below_app hbA (by omega) (Nat.le_refl _) own2 grow2
              have HO3 : Hid (OwnBools w2 (w.heap.size + 1) v2 (runG (gs.take (j + 1)) il)) := HNX'.out v2 w2 (by first | exact own3 | (rw [hol]; exact own3))
              clear own2 own3 grow2 hbA cells2 HNX' hsA
              go_wp2_with fail
              go_roundw
              case rel => exact ⟨j + 1, by omega, by go_num, HO3, HB3⟩
              case measure => simp [intOf]; omega
            · have hz : gateV rl (4, (A : Int), (B : Int)) = true := hz4
              clear hz3 hz4 hz5
              have own2 := World.ownsRow.alloc HOg.out (.cells #[.bool true] 4)
              have hbA : Below (w.heap.size + 1) (w.alloc (.cells #[.int .i64 ins, .slice (some ⟨b, off, none⟩) gs.length gc, .slice oa os.length oc] 27)) ((wr.alloc (.cells #[.int .i64 4, .int .i64 (A : Int), .int .i64 (B : Int)] 108)).alloc (.cells #[.bool true] 4)) := HBg.out.alloc (by have := HBg.out.size; omega) _
              have cells2 : ∀ (i : Nat) (u : Value), ([.bool true] : List Value)[i]? = some u → ((wr.alloc (.cells #[.int .i64 4, .int .i64 (A : Int), .int .i64 (B : Int)] 108)).alloc (.cells #[.bool true] 4)).cell? ((⟨wr.heap.size + 1, 0, none⟩ : Addr).add i) = some u := by
                have h := oneB_cells (wr.alloc (.cells #[.int .i64 4, .int .i64 (A : Int), .int .i64 (B : Int)] 108)) true
                rw [World.size_alloc] at h
                exact h
              have hsA := hbA.size
              have HNX' := HNX true hz
              clear HNX HOg HBg hz HO
              go_wp2_with (at_builtin; refine wpList_append_own _ rfl _ _ 33 rfl (w.heap.size + 1) 4 i0 (.bool false) 1 1 Try.underlying33 hi hz0 hz1 hz2 rfl (by decide) _ _ _ rfl own2 ⟨wr.heap.size + 1, 0, none⟩ 1 1 [.bool true] rfl rfl cells2 (bools_one [true]) (by unfold maxLen; omega) (by omega) (by omega) ?_)
              intro v2 w2 own3 grow2 _
              have HB3 : Hid (Below (w.heap.size + 1) (w.alloc (.cells #[.int .i64 ins, .slice (some ⟨b, off, none⟩) gs.length gc, .slice oa os.length oc] 27)) w2) := below_app hbA (by omega) (Nat.le_refl _) own2 grow2
              have HO3 : Hid (OwnBools w2 (w.heap.size + 1) v2 (runG (gs.take (j + 1)) il)) := HNX'.out v2 w2 (by first | exact own3 | (rw [hol]; exact own3))
              clear own2 own3 grow2 hbA cells2 HNX' hsA
              go_wp2_with fail
              go_roundw
              case rel => exact ⟨j + 1, by omega, by go_num, HO3, HB3⟩
              case measure => simp [intOf]; omega
            · have hz : gateV rl (4, (A : Int), (B : Int)) = true := hz4
              clear hz3 hz4 hz5
              have own2 := World.ownsRow.alloc HOg.out (.cells #[.bool true] 4)
              have hbA : Below (w.heap.size + 1) (w.alloc (.cells #[.int .i64 ins, .slice (some ⟨b, off, none⟩) gs.length gc, .slice oa os.length oc] 27)) ((wr.alloc (.cells #[.int .i64 4, .int .i64 (A : Int), .int .i64 (B : Int)] 108)).alloc (.cells #[.bool true] 4)) := HBg.out.alloc (by have := HBg.out.size; omega) _
              have cells2 : ∀ (i : Nat) (u : Value), ([.bool true] : List Value)[i]? = some u → ((wr.alloc (.cells #[.int .i64 4, .int .i64 (A : Int), .int .i64 (B : Int)] 108)).alloc (.cells #[.bool true] 4)).cell? ((⟨wr.heap.size + 1, 0, none⟩ : Addr).add i) = some u := by
                have h := oneB_cells (wr.alloc (.cells #[.int .i64 4, .int .i64 (A : Int), .int .i64 (B : Int)] 108)) true
                rw [World.size_alloc] at h
                exact h
              have hsA := hbA.size
              have HNX' := HNX true hz
              clear HNX HOg HBg hz HO
              go_wp2_with (at_builtin; refine wpList_append_own _ rfl _ _ 33 rfl (w.heap.size + 1) 4 i0 (.bool false) 1 1 Try.underlying33 hi hz0 hz1 hz2 rfl (by decide) _ _ _ rfl own2 ⟨wr.heap.size + 1, 0, none⟩ 1 1 [.bool true] rfl rfl cells2 (bools_one [true]) (by unfold maxLen; omega) (by omega) (by omega) ?_)
              intro v2 w2 own3 grow2 _
              have HB3 : Hid (Below (w.heap.size + 1) (w.alloc (.cells #[.int .i64 ins, .slice (some ⟨b, off, none⟩) gs.length gc, .slice oa os.length oc] 27)) w2) := below_app hbA (by omega) (Nat.le_refl _) own2 grow2
              have HO3 : Hid (OwnBools w2 (w.heap.size + 1) v2 (runG (gs.take (j + 1)) il)) := HNX'.out v2 w2 (by first | exact own3 | (rw [hol]; exact own3))
              clear own2 own3 grow2 hbA cells2 HNX' hsA
              go_wp2_with fail
              go_roundw
              case rel => exact ⟨j + 1, by omega, by go_num, HO3, HB3⟩
              case measure => simp [intOf]; omega
            · have hz : gateV rl (4, (A : Int), (B : Int)) = true := hz4
              clear hz3 hz4 hz5
              have own2 := World.ownsRow.alloc HOg.out (.cells #[.bool true] 4)
              have hbA : Below (w.heap.size + 1) (w.alloc (.cells #[.int .i64 ins, .slice (some ⟨b, off, none⟩) gs.length gc, .slice oa os.length oc] 27)) ((wr.alloc (.cells #[.int .i64 4, .int .i64 (A : Int), .int .i64 (B : Int)] 108)).alloc (.cells #[.bool true] 4)) := HBg.out.alloc (by have := HBg.out.size; omega) _
              have cells2 : ∀ (i : Nat) (u : Value), ([.bool true] : List Value)[i]? = some u → ((wr.alloc (.cells #[.int .i64 4, .int .i64 (A : Int), .int .i64 (B : Int)] 108)).alloc (.cells #[.bool true] 4)).cell? ((⟨wr.heap.size + 1, 0, none⟩ : Addr).add i) = some u := by
                have h := oneB_cells (wr.alloc (.cells #[.int .i64 4, .int .i64 (A : Int), .int .i64 (B : Int)] 108)) true
                rw [World.size_alloc] at h
                exact h
              have hsA := hbA.size
              have HNX' := HNX true hz
              clear HNX HOg HBg hz HO
              go_wp2_with (at_builtin; refine wpList_append_own _ rfl _ _ 33 rfl (w.heap.size + 1) 4 i0 (.bool false) 1 1 Try.underlying33 hi hz0 hz1 hz2 rfl (by decide) _ _ _ rfl own2 ⟨wr.heap.size + 1, 0, none⟩ 1 1 [.bool true] rfl rfl cells2 (bools_one [true]) (by unfold maxLen; omega) (by omega) (by omega) ?_)
              intro v2 w2 own3 grow2 _
              have HB3 : Hid (Below (w.heap.size + 1) (w.alloc (.cells #[.int .i64 ins, .slice (some ⟨b, off, none⟩) gs.length gc, .slice oa os.length oc] 27)) w2) := below_app hbA (by omega) (Nat.le_refl _) own2 grow2
              have HO3 : Hid (OwnBools w2 (w.heap.size + 1) v2 (runG (gs.take (j + 1)) il)) := HNX'.out v2 w2 (by first | exact own3 | (rw [hol]; exact own3))
              clear own2 own3 grow2 hbA cells2 HNX' hsA
              go_wp2_with fail
              go_roundw
              case rel => exact ⟨j + 1, by omega, by go_num, HO3, HB3⟩
              case measure => simp [intOf]; omega
          · cases p <;> cases q
            · have hz : gateV rl (5, (A : Int), (B : Int)) = false := hz5
              clear hz3 hz4 hz5
              go_wp2_with fail
              go_quiet (fail)
              have hs5 : ((wr.alloc (.cells #[.int .i64 5, .int .i64 (A : Int), .int .i64 (B : Int)] 108)).drewN nq).heap.size = wr.heap.size + 1 := World.size_alloc wr (.cells #[.int .i64 5, .int .i64 (A : Int), .int .i64 (B : Int)] 108)
              have own2 := World.ownsRow.alloc (show ((wr.alloc (.cells #[.int .i64 5, .int .i64 (A : Int), .int .i64 (B : Int)] 108)).drewN nq).ownsRow (w.heap.size + 1) 4 1 _ rl.length (cellsB rl) from HOg.out) (.cells #[.bool false] 4)
              rw [hol] at own2
              have hbA : Below (w.heap.size + 1) (w.alloc (.cells #[.int .i64 ins, .slice (some ⟨b, off, none⟩) gs.length gc, .slice oa os.length oc] 27)) (((wr.alloc (.cells #[.int .i64 5, .int .i64 (A : Int), .int .i64 (B : Int)] 108)).drewN nq).alloc (.cells #[.bool false] 4)) := (show Below (w.heap.size + 1) _ ((wr.alloc (.cells #[.int .i64 5, .int .i64 (A : Int), .int .i64 (B : Int)] 108)).drewN nq) from ⟨HBg.out.os, HBg.out.tape, HBg.out.output, HBg.out.size, HBg.out.block⟩).alloc (by have := HBg.out.size; have := hs5; omega) _
              have cells2 : ∀ (i : Nat) (u : Value), ([.bool false] : List Value)[i]? = some u → (((wr.alloc (.cells #[.int .i64 5, .int .i64 (A : Int), .int .i64 (B : Int)] 108)).drewN nq).alloc (.cells #[.bool false] 4)).cell? ((⟨wr.heap.size + 1, 0, none⟩ : Addr).add i) = some u := by
                have h := oneB_cells ((wr.alloc (.cells #[.int .i64 5, .int .i64 (A : Int), .int .i64 (B : Int)] 108)).drewN nq) false
                rw [hs5] at h
                exact h
              have hsA := hbA.size
              have HNX' := HNX false hz
              clear HNX HOg HBg hz HO
              go_wp2_with (at_builtin; refine wpList_append_own _ rfl _ _ 33 rfl (w.heap.size + 1) 4 i0 (.bool false) 1 1 Try.underlying33 hi hz0 hz1 hz2 rfl (by decide) _ _ _ rfl own2 ⟨wr.heap.size + 1, 0, none⟩ 1 1 [.bool false] rfl rfl cells2 (bools_one [false]) (by unfold maxLen; omega) (by omega) (by omega) ?_)
              intro v2 w2 own3 grow2 _
              have HB3 : Hid (Below (w.heap.size + 1) (w.alloc (.cells #[.int .i64 ins, .slice (some ⟨b, off, none⟩) gs.length gc, .slice oa os.length oc] 27)) w2) := below_app hbA (by omega) (Nat.le_refl _) own2 grow2
              have HO3 : Hid (OwnBools w2 (w.heap.size + 1) v2 (runG (gs.take (j + 1)) il)) := HNX'.out v2 w2 (by first | exact own3 | (rw [hol]; exact own3))
              clear own2 own3 grow2 hbA cells2 HNX' hsA
              go_wp2_with fail
              go_roundw
              case rel => exact ⟨j + 1, by omega, by go_num, HO3, HB3⟩
              case measure => simp [intOf]; omega
            · have hz : gateV rl (5, (A : Int), (B : Int)) = true := hz5
              clear hz3 hz4 hz5
              go_wp2_with fail
              go_quiet (fail)
              have hs5 : ((wr.alloc (.cells #[.int .i64 5, .int .i64 (A : Int), .int .i64 (B : Int)] 108)).drewN nq).heap.size = wr.heap.size + 1 := World.size_alloc wr (.cells #[.int .i64 5, .int .i64 (A : Int), .int .i64 (B : Int)] 108)
              have own2 := World.ownsRow.alloc (show ((wr.alloc (.cells #[.int .i64 5, .int .i64 (A : Int), .int .i64 (B : Int)] 108)).drewN nq).ownsRow (w.heap.size + 1) 4 1 _ rl.length (cellsB rl) from HOg.out) (.cells #[.bool true] 4)
              rw [hol] at own2
              have hbA : Below (w.heap.size + 1) (w.alloc (.cells #[.int .i64 ins, .slice (some ⟨b, off, none⟩) gs.length gc, .slice oa os.length oc] 27)) (((wr.alloc (.cells #[.int .i64 5, .int .i64 (A : Int), .int .i64 (B : Int)] 108)).drewN nq).alloc (.cells #[.bool true] 4)) := (show Below (w.heap.size + 1) _ ((wr.alloc (.cells #[.int .i64 5, .int .i64 (A : Int), .int .i64 (B : Int)] 108)).drewN nq) from ⟨HBg.out.os, HBg.out.tape, HBg.out.output, HBg.out.size, HBg.out.block⟩).alloc (by have := HBg.out.size; have := hs5; omega) _
              have cells2 : ∀ (i : Nat) (u : Value), ([.bool true] : List Value)[i]? = some u → (((wr.alloc (.cells #[.int .i64 5, .int .i64 (A : Int), .int .i64 (B : Int)] 108)).drewN nq).alloc (.cells #[.bool true] 4)).cell? ((⟨wr.heap.size + 1, 0, none⟩ : Addr).add i) = some u := by
                have h := oneB_cells ((wr.alloc (.cells #[.int .i64 5, .int .i64 (A : Int), .int .i64 (B : Int)] 108)).drewN nq) true
                rw [hs5] at h
                exact h
              have hsA := hbA.size
              have HNX' := HNX true hz
              clear HNX HOg HBg hz HO
              go_wp2_with (at_builtin; refine wpList_append_own _ rfl _ _ 33 rfl (w.heap.size + 1) 4 i0 (.bool false) 1 1 Try.underlying33 hi hz0 hz1 hz2 rfl (by decide) _ _ _ rfl own2 ⟨wr.heap.size + 1, 0, none⟩ 1 1 [.bool true] rfl rfl cells2 (bools_one [true]) (by unfold maxLen; omega) (by omega) (by omega) ?_)
              intro v2 w2 own3 grow2 _
              have HB3 : Hid (Below (w.heap.size + 1) (w.alloc (.cells #[.int .i64 ins, .slice (some ⟨b, off, none⟩) gs.length gc, .slice oa os.length oc] 27)) w2) := below_app hbA (by omega) (Nat.le_refl _) own2 grow2
              have HO3 : Hid (OwnBools w2 (w.heap.size + 1) v2 (runG (gs.take (j + 1)) il)) := HNX'.out v2 w2 (by first | exact own3 | (rw [hol]; exact own3))
              clear own2 own3 grow2 hbA cells2 HNX' hsA
              go_wp2_with fail
              go_roundw
              case rel => exact ⟨j + 1, by omega, by go_num, HO3, HB3⟩
              case measure => simp [intOf]; omega
            · have hz : gateV rl (5, (A : Int), (B : Int)) = true := hz5
              clear hz3 hz4 hz5
              go_wp2_with fail
              go_quiet (fail)
              have hs5 : ((wr.alloc (.cells #[.int .i64 5, .int .i64 (A : Int), .int .i64 (B : Int)] 108)).drewN nq).heap.size = wr.heap.size + 1 := World.size_alloc wr (.cells #[.int .i64 5, .int .i64 (A : Int), .int .i64 (B : Int)] 108)
              have own2 := World.ownsRow.alloc (show ((wr.alloc (.cells #[.int .i64 5, .int .i64 (A : Int), .int .i64 (B : Int)] 108)).drewN nq).ownsRow (w.heap.size + 1) 4 1 _ rl.length (cellsB rl) from HOg.out) (.cells #[.bool true] 4)
              rw [hol] at own2
              have hbA : Below (w.heap.size + 1) (w.alloc (.cells #[.int .i64 ins, .slice (some ⟨b, off, none⟩) gs.length gc, .slice oa os.length oc] 27)) (((wr.alloc (.cells #[.int .i64 5, .int .i64 (A : Int), .int .i64 (B : Int)] 108)).drewN nq).alloc (.cells #[.bool true] 4)) := (show Below (w.heap.size + 1) _ ((wr.alloc (.cells #[.int .i64 5, .int .i64 (A : Int), .int .i64 (B : Int)] 108)).drewN nq) from ⟨HBg.out.os, HBg.out.tape, HBg.out.output, HBg.out.size, HBg.out.block⟩).alloc (by have := HBg.out.size; have := hs5; omega) _
              have cells2 : ∀ (i : Nat) (u : Value), ([.bool true] : List Value)[i]? = some u → (((wr.alloc (.cells #[.int .i64 5, .int .i64 (A : Int), .int .i64 (B : Int)] 108)).drewN nq).alloc (.cells #[.bool true] 4)).cell? ((⟨wr.heap.size + 1, 0, none⟩ : Addr).add i) = some u := by
                have h := oneB_cells ((wr.alloc (.cells #[.int .i64 5, .int .i64 (A : Int), .int .i64 (B : Int)] 108)).drewN nq) true
                rw [hs5] at h
                exact h
              have hsA := hbA.size
              have HNX' := HNX true hz
              clear HNX HOg HBg hz HO
              go_wp2_with (at_builtin; refine wpList_append_own _ rfl _ _ 33 rfl (w.heap.size + 1) 4 i0 (.bool false) 1 1 Try.underlying33 hi hz0 hz1 hz2 rfl (by decide) _ _ _ rfl own2 ⟨wr.heap.size + 1, 0, none⟩ 1 1 [.bool true] rfl rfl cells2 (bools_one [true]) (by unfold maxLen; omega) (by omega) (by omega) ?_)
              intro v2 w2 own3 grow2 _
              have HB3 : Hid (Below (w.heap.size + 1) (w.alloc (.cells #[.int .i64 ins, .slice (some ⟨b, off, none⟩) gs.length gc, .slice oa os.length oc] 27)) w2) := below_app hbA (by omega) (Nat.le_refl _) own2 grow2
              have HO3 : Hid (OwnBools w2 (w.heap.size + 1) v2 (runG (gs.take (j + 1)) il)) := HNX'.out v2 w2 (by first | exact own3 | (rw [hol]; exact own3))
              clear own2 own3 grow2 hbA cells2 HNX' hsA
              go_wp2_with fail
              go_roundw
              case rel => exact ⟨j + 1, by omega, by go_num, HO3, HB3⟩
              case measure => simp [intOf]; omega
            · have hz : gateV rl (5, (A : Int), (B : Int)) = false := hz5
              clear hz3 hz4 hz5
              go_wp2_with fail
              go_quiet (fail)
              have hs5 : ((wr.alloc (.cells #[.int .i64 5, .int .i64 (A : Int), .int .i64 (B : Int)] 108)).drewN nq).heap.size = wr.heap.size + 1 := World.size_alloc wr (.cells #[.int .i64 5, .int .i64 (A : Int), .int .i64 (B : Int)] 108)
              have own2 := World.ownsRow.alloc (show ((wr.alloc (.cells #[.int .i64 5, .int .i64 (A : Int), .int .i64 (B : Int)] 108)).drewN nq).ownsRow (w.heap.size + 1) 4 1 _ rl.length (cellsB rl) from HOg.out) (.cells #[.bool false] 4)
              rw [hol] at own2
              have hbA : Below (w.heap.size + 1) (w.alloc (.cells #[.int .i64 ins, .slice (some ⟨b, off, none⟩) gs.length gc, .slice oa os.length oc] 27)) (((wr.alloc (.cells #[.int .i64 5, .int .i64 (A : Int), .int .i64 (B : Int)] 108)).drewN nq).alloc (.cells #[.bool false] 4)) := (show Below (w.heap.size + 1) _ ((wr.alloc (.cells #[.int .i64 5, .int .i64 (A : Int), .int .i64 (B : Int)] 108)).drewN nq) from ⟨HBg.out.os, HBg.out.tape, HBg.out.output, HBg.out.size, HBg.out.block⟩).alloc (by have := HBg.out.size; have := hs5; omega) _
              have cells2 : ∀ (i : Nat) (u : Value), ([.bool false] : List Value)[i]? = some u → (((wr.alloc (.cells #[.int .i64 5, .int .i64 (A : Int), .int .i64 (B : Int)] 108)).drewN nq).alloc (.cells #[.bool false] 4)).cell? ((⟨wr.heap.size + 1, 0, none⟩ : Addr).add i) = some u := by
                have h := oneB_cells ((wr.alloc (.cells #[.int .i64 5, .int .i64 (A : Int), .int .i64 (B : Int)] 108)).drewN nq) false
                rw [hs5] at h
                exact h
              have hsA := hbA.size
              have HNX' := HNX false hz
              clear HNX HOg HBg hz HO
              go_wp2_with (at_builtin; refine wpList_append_own _ rfl _ _ 33 rfl (w.heap.size + 1) 4 i0 (.bool false) 1 1 Try.underlying33 hi hz0 hz1 hz2 rfl (by decide) _ _ _ rfl own2 ⟨wr.heap.size + 1, 0, none⟩ 1 1 [.bool false] rfl rfl cells2 (bools_one [false]) (by unfold maxLen; omega) (by omega) (by omega) ?_)
              intro v2 w2 own3 grow2 _
              have HB3 : Hid (Below (w.heap.size + 1) (w.alloc (.cells #[.int .i64 ins, .slice (some ⟨b, off, none⟩) gs.length gc, .slice oa os.length oc] 27)) w2) := below_app hbA (by omega) (Nat.le_refl _) own2 grow2
              have HO3 : Hid (OwnBools w2 (w.heap.size + 1) v2 (runG (gs.take (j + 1)) il)) := HNX'.out v2 w2 (by first | exact own3 | (rw [hol]; exact own3))
              clear own2 own3 grow2 hbA cells2 HNX' hsA
              go_wp2_with fail
              go_roundw
              case rel => exact ⟨j + 1, by omega, by go_num, HO3, HB3⟩
              case measure => simp [intOf]; omega
      · obtain rfl : j = gs.length := by omega
        have HN : Hid (OwnBools wr (w.heap.size + 1) u5 (runG gs il)) := by
          have h1 := HO.out
          rw [List.take_length] at h1
          exact h1
        have HB2 : Hid (Below w.heap.size w wr) := HW.out wr HB.out
        clear HO HB HG HGB HX HO1 HB1
        go_wp2_with fail
        go_ret
        exact ⟨_, rfl, own_base HN.out (by omega), HB2.out⟩
end Go.Proofs.Ytmjeaceabjinfaa
