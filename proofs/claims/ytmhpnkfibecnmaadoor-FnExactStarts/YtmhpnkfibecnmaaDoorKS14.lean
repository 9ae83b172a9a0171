/-
  The model's l8Those: the numbers of the states in which a condition holds.
  The model's Starts.
  The program's smallRootsAt: a small program read once, with the state of a number.
  The program's states: all states of a small program, in the order of their numbers.
  The program's numbersOf: the numbers of a row of states.
  The program's starts: what is asked of each state (a function value over the roots), and where the first one of a row is told.
  slices.IndexFunc at rows of states, with the function value of starts.
  slices.DeleteFunc at rows of states, with the function value of starts.
  The program's starts and Starts.
-/
import Derived.Test.YtmhpnkfibecnmaaDoorKS13
import Derived.Laws.EntriesVeiled
import Derived.Lib.SliceRun
import Derived.Test.YtmhpnkfibecnmaaDoorKS11
import Derived.Test.YtmhpnkfibecnmaaDoorKS12
namespace Go.Proofs.YtmhpnkfibecnmaaDoor
open Go Go.RowKit
open M
set_option linter.unusedVariables false

def thoseB (p : Pg) (t : List Nd) (no : Int) : Bool := holdsL p.1 t (ofL p.1.toNat p.2.1.toNat no)
/-- the numbers ahead of a place whose states meet a condition -/
def thoseJ (f : Int → Bool) (j : Nat) : List Int := ((List.range j).map (fun (i : Nat) => (i : Int))).filter f
def thoseP (p : Pg) (t : List Nd) : List Int := thoseJ (thoseB p t) (2 ^ (p.1 * p.2.1).toNat)
theorem thoseJ_yes {f : Int → Bool} {j : Nat} (h : f j = true) : thoseJ f (j + 1) = thoseJ f j ++ [(j : Int)] := by
  unfold thoseJ
  rw [List.range_succ, List.map_append, List.filter_append]
  simp [h]
theorem thoseJ_no {f : Int → Bool} {j : Nat} (h : f j = false) : thoseJ f (j + 1) = thoseJ f j := by
  unfold thoseJ
  rw [List.range_succ, List.map_append, List.filter_append]
  simp [h]
theorem thoseJ_len (f : Int → Bool) (j : Nat) : (thoseJ f j).length ≤ j := by
  unfold thoseJ
  refine Nat.le_trans (List.length_filter_le _ _) ?_
  simp
set_option maxRecDepth 100000 in
set_option maxHeartbeats 4000000 in
theorem sThose_any (v tv : Value) (p : Pg) (t : List Nd) (hsm : smallP p = true) (hk2 : kindL p.1 p.2.1 t = 2) (w : World) (h : AtProg w v p) (ht : NodesAt w tv t) :
    Calls Tryd.prog 86 #[v, tv] w fun e w' => ∃ u, e = .returned u ∧ OwnInts w' w.heap.size u (thoseP p t) ∧ Below w.heap.size w w' := by
  obtain ⟨k, u, e1, e2, q1, q2, q3, q4, hk5, hm5, hM⟩ := small_nats hsm
  obtain ⟨t1, t2⟩ := two_small hm5
  have HMY : Hid (∀ w1 : World, Below w.heap.size w w1 → Calls Tryd.prog 82 #[v] w1 fun e w' => e = .returned (.int .i64 (2 ^ (k * u))) ∧ Below w1.heap.size w1 w') := fun w1 hb => sMany_any _ p (k * u) hM hm5 w1 (h.below hb)
  have HOF : Hid (∀ (j : Nat), (j : Int) < 2 ^ (k * u) → ∀ w1 : World, Below w.heap.size w w1 → Calls Tryd.prog 83 #[v, .int .i64 j] w1 fun e w' => ∃ r, e = .returned r ∧ OwnUS w' w1.heap.size w'.heap.size r (ofL k u j) ∧ Below w1.heap.size w1 w') := fun j hj w1 hb => sOf_any _ p k u e1 e2 q1 hk5 q4 j (by omega) (by omega) w1 (h.below hb)
  have HHO : Hid (∀ (j : Nat), (j : Int) < 2 ^ (k * u) → ∀ (w1 : World) (r : Value), Below w.heap.size w w1 → OwnUS w1 w.heap.size w1.heap.size r (ofL k u j) → Calls Tryd.prog 67 #[v, tv, r] w1 fun e w' => e = .returned (.bool (thoseB p t j)) ∧ Below w1.heap.size w1 w') := fun j hj w1 r hb hr => by
    have hb0 : ofB p (j : Int) = true := by
      unfold ofB
      rw [hsm, Bool.true_and, hM, Int.toNat_natCast]
      exact decide_eq_true ⟨by omega, hj⟩
    have hll : ofL p.1.toNat p.2.1.toNat (j : Int) = ofL k u j := by rw [e1, e2, Int.toNat_natCast, Int.toNat_natCast]
    have hok : WsOk (ofL k u j) := by
      have h9 := ofP_ok p (j : Int)
      unfold ofP at h9
      rw [hb0, if_pos rfl, hll] at h9
      exact h9
    have hst : stateP p (ofL k u j) = true := by
      unfold stateP
      rw [e1, e2, ofL_len, decide_eq_true rfl, Bool.true_and, List.all_eq_true]
      intro s hs
      exact good_of k q1 q2 s (by have h9 := ofL_mem s hs; exact h9.2)
    unfold thoseB
    rw [hll]
    exact sHolds_any v tv r p t _ (st_ok hok) (said_of hst (by omega)) w1 (h.below hb) (ht.below hb) (hr.reads hok).2.2
  have hMM : ((2 ^ (p.1 * p.2.1).toNat : Nat) : Int) = 2 ^ (k * u) := by
    rw [hM, Int.toNat_natCast, Int.natCast_pow]
    rfl
  have hT0 : thoseP p t = thoseJ (thoseB p t) (2 ^ (p.1 * p.2.1).toNat) := rfl
  obtain ⟨sa, sn, sc, ca, cn, cc, rfl⟩ := h.shape
  obtain ⟨ta, tc, rfl⟩ := ht.shape
  have HB0 : Hid (Below w.heap.size w (w.alloc (.cells #[.int .i64 p.1, .int .i64 p.2.1, .slice sa sn sc, .slice ca cn cc] 27))) := (Below.refl _ _).alloc (Nat.le_refl _) _
  have x0 := box4_alloc w 27 (.int .i64 p.1) (.int .i64 p.2.1) (.slice sa sn sc) (.slice ca cn cc)
  have hw0z : (w.alloc (.cells #[.int .i64 p.1, .int .i64 p.2.1, .slice sa sn sc, .slice ca cn cc] 27)).heap.size = w.heap.size + 1 := World.size_alloc _ _
  have HXP : Hid (∀ w3, Below (w.heap.size + 1) (w.alloc (.cells #[.int .i64 p.1, .int .i64 p.2.1, .slice sa sn sc, .slice ca cn cc] 27)) w3 → Box4 w3 w.heap.size 27 (.int .i64 p.1) (.int .i64 p.2.1) (.slice sa sn sc) (.slice ca cn cc)) := fun w3 hb3 => x0.below hb3 (by omega)
  have HBX0 : Hid (Below (w.heap.size + 1) (w.alloc (.cells #[.int .i64 p.1, .int .i64 p.2.1, .slice sa sn sc, .slice ca cn cc] 27)) (w.alloc (.cells #[.int .i64 p.1, .int .i64 p.2.1, .slice sa sn sc, .slice ca cn cc] 27))) := Below.refl _ _
  obtain ⟨i0, hi, hz0, hz1, hz2⟩ := info_parts infoInt
  rw [hT0]
  generalize hMN : 2 ^ (p.1 * p.2.1).toNat = MN at *
  clear hMN h ht hsm hk2 hM hT0 x0 e1 e2 q1 q2 q3 q4 hk5 hm5 t1
  rw [← hMM] at HMY HOF HHO t2
  clear hMM
  have hmn : MN ≤ 32 := by omega
  clear t2
  generalize thoseB p t = FB at *
  generalize t.length = n at *
  generalize p.1 = pw at *
  generalize p.2.1 = pv at *
  go_enter Tryd.func86, Tryd.ntmps86
  go_wp2_with fail
  generalize w.alloc (.cells #[.int .i64 pw, .int .i64 pv, .slice sa sn sc, .slice ca cn cc] 27) = w0 at *
  go_loopw [5, 6] (fun v i wr => ∃ j : Nat, j ≤ MN ∧ i = .int .i64 j ∧ Hid (OwnInts wr (w.heap.size + 1) v (thoseJ FB j)) ∧ Hid (Below w.heap.size w wr) ∧ Hid (Below (w.heap.size + 1) w0 wr)) (fun _ i _ => MN - (intOf i).toNat)
  case atStart => exact ⟨0, by omega, rfl, World.ownsRow_nil _ _ _ _, HB0, HBX0⟩
  case round =>
    obtain ⟨j, hj, rfl, HO, HB, HBX⟩ := hrel
    clear HB0 HBX0
    obtain ⟨a0, a1, a2, a3⟩ := (HXP.out _ HBX.out).cells
    have ah := (HXP.out _ HBX.out).heap
    have al := (HXP.out _ HBX.out).lt
    have g0 := HMY.out _ HB.out
    have hszw := HB.out.size
    go_wp2_with fail
    refine g0.mono ?_
    rintro e w2 ⟨rfl, hs⟩
    have HB2 : Hid (Below w.heap.size w w2) := HB.out.trans (hs.mono HB.out.size)
    have HBD : Hid (Below w.heap.size w w2.drew) := HB2.out.drew
    have HBX2 : Hid (Below (w.heap.size + 1) w0 w2) := HBX.out.trans (hs.mono (by have := HBX.out.size; omega))
    have HBXD : Hid (Below (w.heap.size + 1) w0 w2.drew) := HBX2.out.drew
    have HO2 : Hid (OwnInts w2 (w.heap.size + 1) u5 (thoseJ FB j)) := owns_below HO.out hs
    have hszx2 := HBX2.out.size
    clear g0 hs a0 a1 a2 a3 ah al HO HB HBX hszw
    by_cases hlt : j < MN
    · obtain ⟨a0, a1, a2, a3⟩ := (HXP.out _ HBX2.out).cells
      have ah := (HXP.out _ HBX2.out).heap
      have al := (HXP.out _ HBX2.out).lt
      have hle := thoseJ_len FB j
      have hlt' : ((j : Int) < (MN : Int)) := by omega
      have HOF2 : Hid _ := HOF.out j hlt'
      have HHO2 : Hid _ := HHO.out j hlt'
      have HYE : Hid (FB j = true → thoseJ FB (j + 1) = thoseJ FB j ++ [(j : Int)]) := fun h => thoseJ_yes h
      have HNO : Hid (FB j = false → thoseJ FB (j + 1) = thoseJ FB j) := fun h => thoseJ_no h
      clear HOF HHO HMY
      generalize ofL k u (j : Int) = LL at *
      cases hp : FB j with
      | false =>
        rw [hp] at HHO2
        have HE : Hid _ := HNO.out hp
        clear hp HYE HNO
        go_wp2_with fail
        go_region_with (first | (go_at_call 83; refine Calls.mono (HOF2.out _ HBD.out) ?_; rintro e w4 ⟨r, rfl, ho, hs⟩; have HB4 : Hid (Below w.heap.size w w4) := HBD.out.trans (hs.mono HBD.out.size); have HBX4 : Hid (Below (w.heap.size + 1) w0 w4) := HBXD.out.trans (hs.mono (by have := HBXD.out.size; omega)); have HO4 : Hid (OwnUS w4 w.heap.size w4.heap.size r LL) := OwnUS.lower ho HBD.out.size; have HW4 : Hid (OwnInts w4 (w.heap.size + 1) u5 (thoseJ FB j)) := owns_below (by first | exact HO2.out | exact owns_below HO2.out ((Below.refl _ _).drew)) hs; have x4 := HXP.out _ HBX4.out; obtain ⟨b0, b1, b2, b3⟩ := x4.cells; have bh := x4.heap; have bl := x4.lt; clear x4 ho hs) | (go_at_call 67; refine Calls.mono (HHO2.out _ _ HB4.out HO4.out) ?_; rintro e w5 ⟨rfl, hs⟩; have HB5 : Hid (Below w.heap.size w w5) := HB4.out.trans (hs.mono HB4.out.size); have HBX5 : Hid (Below (w.heap.size + 1) w0 w5) := HBX4.out.trans (hs.mono (by have := HBX4.out.size; omega)); have HW5 : Hid (OwnInts w5 (w.heap.size + 1) u5 (thoseJ FB (j + 1))) := (by rw [HE.out]; exact owns_below HW4.out hs); clear hs))
        all_goals
          go_wp2_with fail
          go_roundw
          case rel => exact ⟨j + 1, by omega, by go_num, HW5, HB5, HBX5⟩
          case measure => simp [intOf]; omega
      | true =>
        rw [hp] at HHO2
        have HE : Hid _ := HYE.out hp
        clear hp HYE HNO
        go_wp2_with fail
        go_region_with (first | (go_at_call 83; refine Calls.mono (HOF2.out _ HBD.out) ?_; rintro e w4 ⟨r, rfl, ho, hs⟩; have HB4 : Hid (Below w.heap.size w w4) := HBD.out.trans (hs.mono HBD.out.size); have HBX4 : Hid (Below (w.heap.size + 1) w0 w4) := HBXD.out.trans (hs.mono (by have := HBXD.out.size; omega)); have HO4 : Hid (OwnUS w4 w.heap.size w4.heap.size r LL) := OwnUS.lower ho HBD.out.size; have HW4 : Hid (OwnInts w4 (w.heap.size + 1) u5 (thoseJ FB j)) := owns_below (by first | exact HO2.out | exact owns_below HO2.out ((Below.refl _ _).drew)) hs; have x4 := HXP.out _ HBX4.out; obtain ⟨b0, b1, b2, b3⟩ := x4.cells; have bh := x4.heap; have bl := x4.lt; clear x4 ho hs) | (go_at_call 67; refine Calls.mono (HHO2.out _ _ HB4.out HO4.out) ?_; rintro e w5 ⟨rfl, hs⟩; have HB5 : Hid (Below w.heap.size w w5) := HB4.out.trans (hs.mono HB4.out.size); have HBX5 : Hid (Below (w.heap.size + 1) w0 w5) := HBX4.out.trans (hs.mono (by have := HBX4.out.size; omega)); have HW5 : Hid (OwnInts w5 (w.heap.size + 1) u5 (thoseJ FB j)) := owns_below HW4.out hs; clear hs))
        all_goals
          have own1 : (w5.alloc (.cells #[.int .i64 j] 3)).ownsRow (w.heap.size + 1) 3 1 u5 (thoseJ FB j).length ((thoseJ FB j).map (Value.int .i64)) := World.ownsRow.alloc HW5.out _
          have cellsN := oneI_cells w5 j
          have hsz5 := HB5.out.size
          have hszx5 := HBX5.out.size
          go_wp2_with (at_builtin; refine wpList_append_own _ rfl _ _ 29 rfl (w.heap.size + 1) 3 i0 (.int .i64 0) 1 8 Tryd.underlying29 hi hz0 hz1 hz2 rfl (by decide) _ _ _ rfl own1 ⟨w5.heap.size, 0, none⟩ 1 1 [.int .i64 j] rfl rfl cellsN (ints_one [(j : Int)]) (by unfold maxLen; omega) (by omega) (by simp; omega) ?_)
          intro v7 w7 own7 grow7 _
          have HB7 : Hid (Below w.heap.size w w7) := (HB5.out.alloc HB5.out.size _).grown grow7 (by simp; omega) (fun k hk => by have := (HW5.out.lt k hk).1; omega)
          have HBX7 : Hid (Below (w.heap.size + 1) w0 w7) := (HBX5.out.alloc (by omega) _).grown grow7 (by simp; omega) (fun k hk => (HW5.out.lt k hk).1)
          have HO7 : Hid (OwnInts w7 (w.heap.size + 1) v7 (thoseJ FB (j + 1))) := by
            show OwnInts _ _ _ _
            rw [HE.out]
            unfold OwnInts
            rw [List.map_append, List.length_append]
            exact own7
          clear own1 own7 grow7 cellsN
          go_wp2_with fail
          go_roundw
          case rel => exact ⟨j + 1, by omega, by go_num, HO7, HB7, HBX7⟩
          case measure => simp [intOf]; omega
    · obtain rfl : j = MN := by omega
      clear HOF HHO HMY
      go_wp2_with fail
      go_ret
      exact ⟨_, rfl, own_weaken HO2.out (Nat.le_succ _), HB2.out⟩
end Go.Proofs.YtmhpnkfibecnmaaDoor

namespace Go.Proofs.YtmhpnkfibecnmaaDoor
open Go Go.RowKit
open M
set_option linter.unusedVariables false

def startsP (p : Pg) : List Int := if smallP p = true then thoseP p p.2.2.1 else []
set_option maxRecDepth 100000 in
set_option maxHeartbeats 2000000 in
theorem sStarts_any (v : Value) (p : Pg) (w : World) (h : AtProg w v p) :
    Calls Tryd.prog 40 #[v] w fun e w' => ∃ r0, e = .returned (.tuple #[r0, .bool (smallP p)]) ∧ OwnIS w' w.heap.size w'.heap.size r0 (startsP p) ∧ Below w.heap.size w w' := by
  have HS : Hid (∀ w1 : World, Below w.heap.size w w1 → Calls Tryd.prog 77 #[v] w1 fun e w' => e = .returned (.bool (smallP p)) ∧ Below w1.heap.size w1 w') := fun w1 hb => sSmall_any v p w1 (h.below hb)
  have HN0 : smallP p = true → ∀ (w1 : World) (u : Value), Below w.heap.size w w1 → NodesAt w1 u p.2.2.1 → Calls Tryd.prog 86 #[v, u] w1 fun e w' => ∃ r, e = .returned r ∧ OwnInts w' w1.heap.size r (thoseP p p.2.2.1) ∧ Below w1.heap.size w1 w' := fun h1 w1 u hb hu => by
    obtain ⟨hg, _⟩ := smallP_open h1
    obtain ⟨hk, _⟩ := goodP_parts hg
    exact sThose_any v u p p.2.2.1 h1 (by omega) w1 (h.below hb) hu
  have hS0 : startsP p = if smallP p = true then thoseP p p.2.2.1 else [] := rfl
  obtain ⟨_, _, s', c', e', hns, _⟩ := id h
  obtain ⟨sa, sn, sc, ca, cn, cc, rfl⟩ := h.shape
  have e2 : s' = .slice sa sn sc := by
    injection e' with e'
    simp only [Array.mk.injEq, List.cons.injEq] at e'
    exact e'.2.2.1.symm
  rw [e2] at hns
  clear e' e2
  have HN : Hid (smallP p = true → ∀ (w1 : World), Below w.heap.size w w1 → Calls Tryd.prog 86 #[.agg #[.int .i64 p.1, .int .i64 p.2.1, .slice sa sn sc, .slice ca cn cc], .slice sa sn sc] w1 fun e w' => ∃ r, e = .returned r ∧ OwnInts w' w1.heap.size r (thoseP p p.2.2.1) ∧ Below w1.heap.size w1 w') := fun h1 w1 hb => HN0 h1 w1 _ hb (hns.below hb)
  have HB0 : Hid (Below w.heap.size w (w.alloc (.cells #[.int .i64 p.1, .int .i64 p.2.1, .slice sa sn sc, .slice ca cn cc] 27))) := (Below.refl _ _).alloc (Nat.le_refl _) _
  have x0 := box4_alloc w 27 (.int .i64 p.1) (.int .i64 p.2.1) (.slice sa sn sc) (.slice ca cn cc)
  have HX0 : Hid _ := x0
  rw [hS0]
  clear h x0 HN0 hns hS0
  generalize thoseP p p.2.2.1 = NN at *
  generalize smallP p = B1 at *
  generalize p.1 = pw at *
  generalize p.2.1 = pv at *
  cases B1 with
  | false =>
    rw [if_neg (by decide)]
    clear HN HX0
    go_enter Tryd.func40, Tryd.ntmps40
    go_wp2_with fail
    refine (HS.out _ HB0.out).mono ?_
    rintro e w1 ⟨rfl, hs⟩
    have HB1 : Hid (Below w.heap.size w w1) := Below.step HB0.out HB0.out.size hs
    clear hs
    go_wp2_with fail
    go_ret2
    exact ⟨_, rfl, ownIS_nil _ _ HB1.out.size, HB1.out⟩
  | true =>
    rw [if_pos rfl]
    have HN2 : Hid _ := HN.out rfl
    clear HN
    go_enter Tryd.func40, Tryd.ntmps40
    go_wp2_with fail
    refine (HS.out _ HB0.out).mono ?_
    generalize w.alloc (.cells #[.int .i64 pw, .int .i64 pv, .slice sa sn sc, .slice ca cn cc] 27) = w0 at *
    rintro e w1 ⟨rfl, hs⟩
    have HB1 : Hid (Below w.heap.size w w1) := Below.step HB0.out HB0.out.size hs
    have x1 := HX0.out.below hs HX0.out.lt
    obtain ⟨a0, a1, a2, a3⟩ := x1.cells
    have ah := x1.heap
    have al := x1.lt
    clear hs x1 HX0
    go_wp2_with fail
    refine (HN2.out _ HB1.out).mono ?_
    rintro e w3 ⟨u, rfl, ho, hs⟩
    have HB3 : Hid (Below w.heap.size w w3) := HB1.out.trans (hs.mono HB1.out.size)
    have HO : Hid (OwnIS w3 w.heap.size w3.heap.size u NN) := rowIn_of (own_weaken ho HB1.out.size)
    clear ho hs a0 a1 a2 a3 ah al
    go_wp2_with fail
    go_ret2
    exact ⟨_, rfl, HO.out, HB3.out⟩
end Go.Proofs.YtmhpnkfibecnmaaDoor

namespace Go.Proofs.YtmhpnkfibecnmaaDoor
open Go Go.RowKit
open M
set_option linter.unusedVariables false

/-- what smallRootsAt answers -/
def SAOut (w : World) (p : Pg) (no : Int) (e : Ending) (w' : World) : Prop :=
  ((ofB p no = true ∧ ∃ P : Nat, e = .returned (.tuple #[ptr P, aggS (ofL p.1.toNat p.2.1.toNat no)]) ∧ Rooted w' (fun k => w.heap.size ≤ k ∧ k < w'.heap.size) p P) ∨ (ofB p no = false ∧ e = .returned (.tuple #[.pointer none, zeroS]))) ∧ Below w.heap.size w w'
theorem saOut_no {w w' : World} {p : Pg} {no : Int} (h : ofB p no = false) (hb : Below w.heap.size w w') : SAOut w p no (.returned (.tuple #[.pointer none, zeroS])) w' := ⟨Or.inr ⟨h, rfl⟩, hb⟩
theorem saOut_yes {w w' : World} {p : Pg} {no : Int} (P : Nat) (h : ofB p no = true) (hr : Rooted w' (fun k => w.heap.size ≤ k ∧ k < w'.heap.size) p P) (hb : Below w.heap.size w w') : SAOut w p no (.returned (.tuple #[.pointer (some ⟨P, 0, none⟩), aggS (ofL p.1.toNat p.2.1.toNat no)])) w' := ⟨Or.inl ⟨h, P, rfl, hr⟩, hb⟩
end Go.Proofs.YtmhpnkfibecnmaaDoor

namespace Go.Proofs.YtmhpnkfibecnmaaDoor
open Go Go.RowKit
open M
set_option linter.unusedVariables false

def cellsT (st : List Int) : List Value := [.int .u64 (padW st 0), .int .u64 (padW st 1), .int .u64 (padW st 2), .int .u64 (padW st 3)]
def flatT (l : List (List Int)) : List Value := l.flatMap cellsT
/-- a row of states that is one's own -/
abbrev OwnT (w : World) (B : Nat) (v : Value) (l : List (List Int)) : Prop := w.ownsRow B 86 4 v l.length (flatT l)
def statesL (k u n : Nat) : List (List Int) := (List.range n).map (fun (i : Nat) => ofL k u (i : Int))
theorem statesL_len (k u n : Nat) : (statesL k u n).length = n := by simp [statesL]
theorem statesL_succ (k u n : Nat) : statesL k u (n + 1) = statesL k u n ++ [ofL k u (n : Int)] := by
  unfold statesL
  rw [List.range_succ, List.map_append]
  rfl
theorem infoT : (Tryd.prog.info? 86).map (fun i => (i.zero, i.size, i.bytes)) = some (some zeroS, 4, 32) := by kernel_rfl
theorem oneT_cells (w : World) (a b c d : Int) : ∀ (j : Nat) (v : Value), ([.int .u64 a, .int .u64 b, .int .u64 c, .int .u64 d] : List Value)[j]? = some v → (w.alloc (.cells #[.int .u64 a, .int .u64 b, .int .u64 c, .int .u64 d] 86)).cell? ((⟨w.heap.size, 0, none⟩ : Addr).add j) = some v := by
  intro j v hv
  match j, hv with
  | 0, hv => simp at hv; subst hv; simp [Addr.add]
  | 1, hv => simp at hv; subst hv; simp [Addr.add]
  | 2, hv => simp at hv; subst hv; simp [Addr.add]
  | 3, hv => simp at hv; subst hv; simp [Addr.add]
theorem oneT_one (a b c d : Int) : ∀ v ∈ ([.int .u64 a, .int .u64 b, .int .u64 c, .int .u64 d] : List Value), v.oneCell' = true := by
  intro v hv
  simp only [List.mem_cons, List.not_mem_nil, or_false] at hv
  rcases hv with rfl | rfl | rfl | rfl <;> rfl
set_option maxRecDepth 100000 in
set_option maxHeartbeats 4000000 in
theorem states_any {k u : Nat} (hk1 : 1 ≤ k) (hk5 : k ≤ 5) (hm5 : k * u ≤ 5) (P : Nat) (x y : Value) (w : World) (hT : Tab w) (hP : Box4 w P 107 (.int .i64 k) (.int .i64 u) x y) :
    Calls Tryd.prog 118 #[ptr P] w fun e w' => ∃ v, e = .returned v ∧ OwnT w' w.heap.size v (statesL k u (2 ^ (k * u))) ∧ Below w.heap.size w w' := by
  obtain ⟨i0, hi, hz0, hz1, hz2⟩ := info_parts infoT
  obtain ⟨t1, t2⟩ := two_small hm5
  have hMM : ((2 ^ (k * u) : Nat) : Int) = 2 ^ (k * u) := by
    rw [Int.natCast_pow]
    rfl
  have GC := count_any P (k * u) k u x y w hP (by rw [Int.natCast_mul]) hm5
  have GN : Hid (∀ (j : Nat), (j : Int) < 2 ^ (k * u) → ∀ w1 : World, Below w.heap.size w w1 → Calls Tryd.prog 81 #[ptr P, .int .i64 j] w1 fun e w' => e = .returned (aggS (ofL k u j)) ∧ Below w1.heap.size w1 w') := fun j hj w1 hb => numbered_any hk1 hk5 hm5 P x y j (by omega) hj w1 (hT.below hb hT.some) (hP.below hb hP.lt)
  rw [← hMM] at GC GN t2
  have hmn : 2 ^ (k * u) ≤ 32 := by omega
  clear hMM t1 t2 hT hP hk1 hk5 hm5
  generalize 2 ^ (k * u) = MN at *
  go_enter Tryd.func118, Tryd.ntmps118
  go_wp2_with fail
  refine GC.mono ?_
  rintro e w1 ⟨rfl, hb1⟩
  have HB1 : Hid (Below w.heap.size w w1) := hb1
  clear GC hb1
  go_wp2_with fail
  go_loopw [3, 7] (fun v i wr => ∃ j : Nat, j ≤ MN ∧ i = .int .i64 j ∧ Hid (OwnT wr w.heap.size v (statesL k u j)) ∧ Hid (Below w.heap.size w wr)) (fun _ i _ => MN - (intOf i).toNat)
  case atStart => exact ⟨0, by omega, rfl, World.ownsRow_nil _ _ _ _, HB1⟩
  case round =>
    obtain ⟨j, hj, rfl, HO, HB⟩ := hrel
    clear HB1
    by_cases hlt : j < MN
    · have g := GN.out j (by omega) wr HB.out
      have HE : Hid (statesL k u (j + 1) = statesL k u j ++ [ofL k u (j : Int)]) := statesL_succ k u j
      have hle := statesL_len k u j
      have HC : Hid (flatT [ofL k u (j : Int)] = [.int .u64 (padW (ofL k u j) 0), .int .u64 (padW (ofL k u j) 1), .int .u64 (padW (ofL k u j) 2), .int .u64 (padW (ofL k u j) 3)]) := rfl
      have hlt' : ((j : Int) < (MN : Int)) := by omega
      clear GN
      unfold aggS at g
      generalize statesL k u j = R at *
      generalize ofL k u (j : Int) = LL at *
      generalize padW LL 0 = l0 at *
      generalize padW LL 1 = l1 at *
      generalize padW LL 2 = l2 at *
      generalize padW LL 3 = l3 at *
      go_wp2_with fail
      refine g.mono ?_
      rintro e w2 ⟨rfl, hs⟩
      have HB2 : Hid (Below w.heap.size w w2) := HB.out.trans (hs.mono HB.out.size)
      have ho2 : OwnT w2 w.heap.size u3 R := owns_below HO.out hs
      have HO2 : Hid (OwnT w2 w.heap.size u3 R) := ho2
      have own1 : (w2.alloc (.cells #[.int .u64 l0, .int .u64 l1, .int .u64 l2, .int .u64 l3] 86)).ownsRow w.heap.size 86 4 u3 R.length (flatT R) := World.ownsRow.alloc HO2.out _
      have cellsN := oneT_cells w2 l0 l1 l2 l3
      have hsz2 := HB2.out.size
      clear g hs ho2 HB HO
      go_wp2_with (at_builtin; refine wpList_append_own _ rfl _ _ 133 rfl w.heap.size 86 i0 (.agg #[.int .u64 0, .int .u64 0, .int .u64 0, .int .u64 0]) 4 32 Tryd.underlying133 hi hz0 hz1 hz2 rfl (by decide) _ _ _ rfl own1 ⟨w2.heap.size, 0, none⟩ 1 1 [.int .u64 l0, .int .u64 l1, .int .u64 l2, .int .u64 l3] rfl rfl cellsN (oneT_one l0 l1 l2 l3) (by unfold maxLen; omega) (by omega) (by simp; omega) ?_)
      intro v7 w7 own7 grow7 _
      have HB7 : Hid (Below w.heap.size w w7) := (HB2.out.alloc HB2.out.size _).grown grow7 (by simp; omega) (fun k hk => (HO2.out.lt k hk).1)
      have HO7 : Hid (OwnT w7 w.heap.size v7 (statesL k u (j + 1))) := by
        show OwnT _ _ _ _
        rw [HE.out]
        unfold OwnT flatT
        rw [List.flatMap_append, List.length_append]
        have h9 := HC.out
        unfold flatT at h9
        rw [h9, hle]
        exact own7
      clear own1 own7 grow7 cellsN
      go_wp2_with fail
      go_roundw
      case rel => exact ⟨j + 1, by omega, by go_num, HO7, HB7⟩
      case measure => simp [intOf]; omega
    · obtain rfl : j = MN := by omega
      clear GN
      go_wp2_with fail
      go_ret
      exact ⟨_, rfl, HO.out, HB.out⟩
end Go.Proofs.YtmhpnkfibecnmaaDoor

namespace Go.Proofs.YtmhpnkfibecnmaaDoor
open Go Go.RowKit
open M
set_option linter.unusedVariables false

/-- a row of states as it lies -/
def StsAt (w : World) (v : Value) (l : List (List Int)) : Prop :=
  ∃ (a : Option Addr) (cap : Nat), v = .slice a l.length cap ∧ ∀ (i : Nat) (st : List Int), l[i]? = some st → ∃ b off : Nat, a = some ⟨b, off, none⟩ ∧ b < w.heap.size ∧ w.cell? ⟨b, off + i * 4, none⟩ = some (.int .u64 (padW st 0)) ∧ w.cell? ⟨b, off + i * 4 + 1, none⟩ = some (.int .u64 (padW st 1)) ∧ w.cell? ⟨b, off + i * 4 + 2, none⟩ = some (.int .u64 (padW st 2)) ∧ w.cell? ⟨b, off + i * 4 + 3, none⟩ = some (.int .u64 (padW st 3))
theorem StsAt.below {w w' : World} {v : Value} {l : List (List Int)} (h : StsAt w v l) (hb : Below w.heap.size w w') : StsAt w' v l := by
  obtain ⟨a, cap, e, hc⟩ := h
  refine ⟨a, cap, e, fun i st hi => ?_⟩
  obtain ⟨b, off, e1, hl, c0, c1, c2, c3⟩ := hc i st hi
  exact ⟨b, off, e1, Nat.lt_of_lt_of_le hl hb.size, by rw [hb.cell (p := ⟨b, off + i * 4, none⟩) hl]; exact c0, by rw [hb.cell (p := ⟨b, off + i * 4 + 1, none⟩) hl]; exact c1, by rw [hb.cell (p := ⟨b, off + i * 4 + 2, none⟩) hl]; exact c2, by rw [hb.cell (p := ⟨b, off + i * 4 + 3, none⟩) hl]; exact c3⟩
def numsL (k : Nat) (l : List (List Int)) : List Int := l.map (noL k)
theorem numsL_take {k : Nat} {l : List (List Int)} {j : Nat} {st : List Int} (h : l[j]? = some st) : numsL k (l.take (j + 1)) = numsL k (l.take j) ++ [noL k st] := by
  unfold numsL
  rw [List.take_add_one, h, List.map_append]
  rfl
set_option maxRecDepth 100000 in
set_option maxHeartbeats 4000000 in
theorem numbersOf_any {k u : Nat} (hk5 : k ≤ 5) (l : List (List Int)) (hl : l.length ≤ 1048576) (hw : ∀ st ∈ l, WordsIn k u st) (P : Nat) (x y v : Value) (w : World) (hP : Box4 w P 107 (.int .i64 k) (.int .i64 u) x y) (hs : StsAt w v l) :
    Calls Tryd.prog 89 #[ptr P, v] w fun e w' => ∃ r, e = .returned r ∧ OwnInts w' w.heap.size r (numsL k l) ∧ Below w.heap.size w w' := by
  obtain ⟨i0, hi, hz0, hz1, hz2⟩ := info_parts infoInt
  have HS : Hid (∀ w1 : World, Below w.heap.size w w1 → StsAt w1 v l) := fun w1 hb => hs.below hb
  have GN : Hid (∀ (st : List Int), st ∈ l → ∀ w1 : World, Below w.heap.size w w1 → Calls Tryd.prog 76 #[ptr P, aggS st] w1 fun e w' => e = .returned (.int .i64 (noL k st)) ∧ Below w1.heap.size w1 w') := fun st hst w1 hb => number_any hk5 (hw st hst) P x y w1 (hP.below hb hP.lt)
  have HB0 : Hid (Below w.heap.size w w) := Below.refl _ _
  have HNT : Hid (∀ (j : Nat) (st : List Int), l[j]? = some st → numsL k (l.take (j + 1)) = numsL k (l.take j) ++ [noL k st]) := fun j st h => numsL_take h
  have HNL : Hid (∀ j : Nat, j ≤ l.length → (numsL k (l.take j)).length = j) := fun j h => by
    unfold numsL
    rw [List.length_map, List.length_take]
    omega
  have HNA : Hid (numsL k (l.take l.length) = numsL k l) := by
    show numsL k (l.take l.length) = numsL k l
    rw [List.take_length]
  obtain ⟨a, cap, rfl, _⟩ := hs
  clear hw hP
  go_enter Tryd.func89, Tryd.ntmps89
  go_wp2_with fail
  go_loopw [5, 10] (fun v i wr => ∃ j : Nat, j ≤ l.length ∧ i = .int .i64 j ∧ Hid (OwnInts wr w.heap.size v (numsL k (l.take j))) ∧ Hid (Below w.heap.size w wr)) (fun _ i _ => l.length - (intOf i).toNat)
  case atStart => exact ⟨0, by omega, rfl, World.ownsRow_nil _ _ _ _, HB0⟩
  case round =>
    obtain ⟨j, hj, rfl, HO, HB⟩ := hrel
    clear HB0
    by_cases hlt : j < l.length
    · obtain ⟨st, hst⟩ : ∃ st, l[j]? = some st := ⟨l[j], List.getElem?_eq_getElem hlt⟩
      obtain ⟨b, off, rfl, hbl, c0, c1, c2, c3⟩ : ∃ b off : Nat, a = some ⟨b, off, none⟩ ∧ b < wr.heap.size ∧ wr.cell? ⟨b, off + j * 4, none⟩ = some (.int .u64 (padW st 0)) ∧ wr.cell? ⟨b, off + j * 4 + 1, none⟩ = some (.int .u64 (padW st 1)) ∧ wr.cell? ⟨b, off + j * 4 + 2, none⟩ = some (.int .u64 (padW st 2)) ∧ wr.cell? ⟨b, off + j * 4 + 3, none⟩ = some (.int .u64 (padW st 3)) := by
        obtain ⟨a', cap', e, hc⟩ := HS.out wr HB.out
        injection e with e1 _ _
        subst e1
        exact hc j st hst
      have HE : Hid (numsL k (l.take (j + 1)) = numsL k (l.take j) ++ [noL k st]) := HNT.out j st hst
      have hle := HNL.out j hj
      have hmem := List.mem_of_getElem? hst
      have hb3 : Below w.heap.size w (wr.alloc (.cells #[.int .u64 (padW st 0), .int .u64 (padW st 1), .int .u64 (padW st 2), .int .u64 (padW st 3)] 86)) := HB.out.alloc HB.out.size _
      have HB3 : Hid _ := hb3
      have y3 := box4_alloc wr 86 (.int .u64 (padW st 0)) (.int .u64 (padW st 1)) (.int .u64 (padW st 2)) (.int .u64 (padW st 3))
      obtain ⟨d0, d1, d2, d3⟩ := y3.cells
      have dh := y3.heap
      have dl := y3.lt
      have g := GN.out st hmem _ hb3
      have HO3 : Hid (OwnInts (wr.alloc (.cells #[.int .u64 (padW st 0), .int .u64 (padW st 1), .int .u64 (padW st 2), .int .u64 (padW st 3)] 86)) w.heap.size u5 (numsL k (l.take j))) := World.ownsRow.alloc HO.out _
      have h4 : (Tryd.prog.info? 86).map (·.size) = some 4 := by kernel_rfl
      clear GN HS HNT HNL HNA hst hmem hb3 y3 HO HB
      unfold aggS at g
      generalize numsL k (l.take j) = R at *
      generalize noL k st = NO at *
      generalize padW st 0 = l0 at *
      generalize padW st 1 = l1 at *
      generalize padW st 2 = l2 at *
      generalize padW st 3 = l3 at *
      go_wp2_with fail
      refine g.mono ?_
      rintro e w4 ⟨rfl, hs⟩
      have HB4 : Hid (Below w.heap.size w w4) := HB3.out.trans (hs.mono HB3.out.size)
      have HO4 : Hid (OwnInts w4 w.heap.size u5 R) := owns_below HO3.out hs
      have own1 : (w4.alloc (.cells #[.int .i64 NO] 3)).ownsRow w.heap.size 3 1 u5 R.length (R.map (Value.int .i64)) := World.ownsRow.alloc HO4.out _
      have cellsN := oneI_cells w4 NO
      have hsz4 := HB4.out.size
      clear g hs c0 c1 c2 c3 d0 d1 d2 d3 dh dl HO3 HB3
      go_wp2_with (at_builtin; refine wpList_append_own _ rfl _ _ 29 rfl w.heap.size 3 i0 (.int .i64 0) 1 8 Tryd.underlying29 hi hz0 hz1 hz2 rfl (by decide) _ _ _ rfl own1 ⟨w4.heap.size, 0, none⟩ 1 1 [.int .i64 NO] rfl rfl cellsN (ints_one [NO]) (by unfold maxLen; omega) (by omega) (by simp; omega) ?_)
      intro v7 w7 own7 grow7 _
      have HB7 : Hid (Below w.heap.size w w7) := (HB4.out.alloc HB4.out.size _).grown grow7 (by simp; omega) (fun k hk => (HO4.out.lt k hk).1)
      have HO7 : Hid (OwnInts w7 w.heap.size v7 (numsL k (l.take (j + 1)))) := by
        show OwnInts _ _ _ _
        rw [HE.out]
        unfold OwnInts
        rw [List.map_append, List.length_append]
        first | exact own7 | (rw [hle]; exact own7)
      clear own1 own7 grow7 cellsN
      go_wp2_with fail
      go_roundw
      case rel => exact ⟨j + 1, by omega, by go_num, HO7, HB7⟩
      case measure => simp [intOf]; omega
    · obtain rfl : j = l.length := by omega
      have HO2 : Hid (OwnInts wr w.heap.size u5 (numsL k l)) := by
        have h1 := HO.out
        rw [HNA.out] at h1
        exact h1
      clear HO GN HS HNT HNL HNA
      go_wp2_with fail
      go_ret
      exact ⟨_, rfl, HO2.out, HB.out⟩
end Go.Proofs.YtmhpnkfibecnmaaDoor

namespace Go.Proofs.YtmhpnkfibecnmaaDoor
open Go Go.RowKit
open M
set_option linter.unusedVariables false

/-- a captured pointer to roots, as it lies -/
def CellR (w : World) (cb P : Nat) : Prop := w.heap[cb]? = some (.cells #[ptr P] 84 (0, 0))
theorem CellR.lt {w : World} {cb P : Nat} (h : CellR w cb P) : cb < w.heap.size := (Array.getElem?_eq_some_iff.1 h).1
theorem CellR.below {w w' : World} {cb P : Nat} (h : CellR w cb P) (hb : Below w.heap.size w w') : CellR w' cb P := by
  unfold CellR at *
  rw [hb.block cb (Array.getElem?_eq_some_iff.1 h).1]
  exact h
theorem CellR.cell {w : World} {cb P : Nat} (h : CellR w cb P) : w.cell? ⟨cb, 0, none⟩ = some (ptr P) := cell_heap (o := 0) h
set_option maxRecDepth 100000 in
set_option maxHeartbeats 2000000 in
theorem notStart_any {k vars : Nat} {st : List Int} (hw : WordsIn k vars st) (p : Pg) (hp1 : p.1 = k) (hp2 : p.2.1 = vars) (hpos : ∀ x ∈ p.2.2.1, 0 ≤ x.2) (P cb : Nat) (w : World) (hT : Tab w) (hR : Rooted w (Old w) p P) (hC : CellR w cb P) :
    Calls Tryd.prog 119 #[aggS st, .pointer (some ⟨cb, 0, none⟩)] w fun e w' => e = .returned (.bool (!holdsL p.1 p.2.2.1 st)) ∧ Below w.heap.size w w' := by
  have hal : Below w.heap.size w (w.alloc (.cells #[.int .u64 (padW st 0), .int .u64 (padW st 1), .int .u64 (padW st 2), .int .u64 (padW st 3)] 86)) := (Below.refl _ _).alloc (Nat.le_refl _) _
  have HB0 : Hid _ := hal
  have y0 := box4_alloc w 86 (.int .u64 (padW st 0)) (.int .u64 (padW st 1)) (.int .u64 (padW st 2)) (.int .u64 (padW st 3))
  obtain ⟨q0, q1, q2, q3⟩ := y0.cells
  have qh := y0.heap
  have ql := y0.lt
  have g := isStart_any hw p hp1 hp2 hpos P _ (hT.below hal hT.some) (Rooted.below hR hal)
  have hc0 := hC.below hal
  have c0 := hc0.cell
  have ch : _ = _ := hc0
  unfold CellR at hc0
  have cl := (hC.below hal).lt
  have h4 : (Tryd.prog.info? 86).map (·.size) = some 4 := by kernel_rfl
  unfold aggS at *
  clear hal y0 hw hp1 hp2 hpos hT hR hC ch
  generalize holdsL p.1 p.2.2.1 st = V at *
  generalize padW st 0 = l0 at *
  generalize padW st 1 = l1 at *
  generalize padW st 2 = l2 at *
  generalize padW st 3 = l3 at *
  go_enter Tryd.func119, Tryd.ntmps119
  go_wp2_with fail
  refine g.mono ?_
  rintro e w1 ⟨rfl, hs⟩
  have HB1 : Hid (Below w.heap.size w w1) := Below.step HB0.out HB0.out.size hs
  clear g hs q0 q1 q2 q3 qh ql hc0 c0 cl
  go_wp2_with fail
  go_ret
  exact ⟨rfl, HB1.out⟩
end Go.Proofs.YtmhpnkfibecnmaaDoor

namespace Go.Proofs.YtmhpnkfibecnmaaDoor
open Go Go.RowKit
open M
set_option linter.unusedVariables false

/-- how many stand ahead of the first one that is met -/
def idxN {α : Type} (f : α → Bool) : List α → Nat
  | [] => 0
  | x :: r => if f x = true then 0 else idxN f r + 1
theorem idxN_le {α : Type} (f : α → Bool) : ∀ l : List α, idxN f l ≤ l.length
  | [] => Nat.le_refl _
  | x :: r => by
    unfold idxN
    have := idxN_le f r
    split
    · simp
    · simp
      omega
theorem idxN_hit {α : Type} (f : α → Bool) : ∀ (l : List α) (j : Nat) (x : α), l[j]? = some x → f x = true → (∀ (i : Nat) (y : α), i < j → l[i]? = some y → f y = false) → idxN f l = j
  | [], j, x, h, _, _ => by simp at h
  | y :: r, 0, x, h, hf, _ => by
    simp at h
    subst h
    unfold idxN
    rw [if_pos hf]
  | y :: r, j + 1, x, h, hf, hn => by
    have h0 := hn 0 y (by omega) (by simp)
    have ih := idxN_hit f r j x (by simpa using h) hf (fun i z hi hz => hn (i + 1) z (by omega) (by simpa using hz))
    unfold idxN
    rw [if_neg (by rw [h0]; decide), ih]
theorem idxN_none {α : Type} (f : α → Bool) : ∀ l : List α, (∀ (i : Nat) (y : α), i < l.length → l[i]? = some y → f y = false) → idxN f l = l.length
  | [], _ => rfl
  | y :: r, hn => by
    have h0 := hn 0 y (by simp) (by simp)
    have ih := idxN_none f r (fun i z hi hz => hn (i + 1) z (by simp; omega) (by simpa using hz))
    unfold idxN
    rw [if_neg (by rw [h0]; decide), ih]
    rfl
def idxL {α : Type} (f : α → Bool) (l : List α) : Int := if idxN f l = l.length then -1 else idxN f l
set_option maxRecDepth 100000 in
set_option maxHeartbeats 4000000 in
theorem indexFunc_any (f : List Int → Bool) (l : List (List Int)) (hl : l.length ≤ 1048576) (cb : Nat) (v : Value) (w : World) (hs : StsAt w v l)
    (hf : ∀ st ∈ l, ∀ w1 : World, Below w.heap.size w w1 → Calls Tryd.prog 119 #[aggS st, .pointer (some ⟨cb, 0, none⟩)] w1 fun e w' => e = .returned (.bool (f st)) ∧ Below w1.heap.size w1 w') :
    Calls Tryd.prog 137 #[v, .func (.func 119) #[] #[.pointer (some ⟨cb, 0, none⟩)]] w fun e w' => e = .returned (.int .i64 (idxL f l)) ∧ Below w.heap.size w w' := by
  have HS : Hid (∀ w1 : World, Below w.heap.size w w1 → StsAt w1 v l) := fun w1 hb => hs.below hb
  have GF : Hid _ := hf
  have HB0 : Hid (Below w.heap.size w w) := Below.refl _ _
  have HHIT : Hid (∀ (j : Nat) (x : List Int), j < l.length → l[j]? = some x → f x = true → (∀ (i : Nat) (y : List Int), i < j → l[i]? = some y → f y = false) → idxL f l = j) := fun j x hj h1 h2 h3 => by
    unfold idxL
    rw [idxN_hit f l j x h1 h2 h3, if_neg (by omega)]
  have HNON : Hid ((∀ (i : Nat) (y : List Int), i < l.length → l[i]? = some y → f y = false) → idxL f l = -1) := fun h => by
    unfold idxL
    rw [if_pos (idxN_none f l h)]
  obtain ⟨a, cap, rfl, _⟩ := hs
  clear hf
  have h4 : (Tryd.prog.info? 86).map (·.size) = some 4 := by kernel_rfl
  go_enter Tryd.func137, Tryd.ntmps137
  go_wp2_with fail
  go_loopw [8] (fun i wr => ∃ j : Nat, j ≤ l.length ∧ i = .int .i64 j ∧ Hid (∀ (i : Nat) (y : List Int), i < j → l[i]? = some y → f y = false) ∧ Hid (Below w.heap.size w wr)) (fun i _ => l.length - (intOf i).toNat)
  case atStart => exact ⟨0, by omega, rfl, fun i y h => absurd h (by omega), HB0⟩
  case round =>
    obtain ⟨j, hj, rfl, HN, HB⟩ := hrel
    clear HB0
    by_cases hlt : j < l.length
    · obtain ⟨st, hst⟩ : ∃ st, l[j]? = some st := ⟨l[j], List.getElem?_eq_getElem hlt⟩
      obtain ⟨b, off, rfl, hbl, c0, c1, c2, c3⟩ : ∃ b off : Nat, a = some ⟨b, off, none⟩ ∧ b < wr.heap.size ∧ wr.cell? ⟨b, off + j * 4, none⟩ = some (.int .u64 (padW st 0)) ∧ wr.cell? ⟨b, off + j * 4 + 1, none⟩ = some (.int .u64 (padW st 1)) ∧ wr.cell? ⟨b, off + j * 4 + 2, none⟩ = some (.int .u64 (padW st 2)) ∧ wr.cell? ⟨b, off + j * 4 + 3, none⟩ = some (.int .u64 (padW st 3)) := by
        obtain ⟨a', cap', e, hc⟩ := HS.out wr HB.out
        injection e with e1 _ _
        subst e1
        exact hc j st hst
      have g := GF.out st (List.mem_of_getElem? hst) wr HB.out
      have hh := HHIT.out j st hlt hst
      have HST : Hid (l[j]? = some st) := hst
      clear GF HS HNON HHIT hst
      unfold aggS at g
      cases hp : f st with
      | true =>
        have HE : Hid (idxL f l = j) := hh hp HN.out
        rw [hp] at g
        clear hh hp HST HN
        generalize padW st 0 = l0 at *
        generalize padW st 1 = l1 at *
        generalize padW st 2 = l2 at *
        generalize padW st 3 = l3 at *
        go_wp2_with fail
        refine g.mono ?_
        rintro e w2 ⟨rfl, hs⟩
        have HB2 : Hid (Below w.heap.size w w2) := HB.out.trans (hs.mono HB.out.size)
        clear g hs c0 c1 c2 c3
        go_wp2_with fail
        go_ret
        exact ⟨by rw [HE.out]; rfl, HB2.out⟩
      | false =>
        rw [hp] at g
        have HN2 : Hid (∀ (i : Nat) (y : List Int), i < j + 1 → l[i]? = some y → f y = false) := fun i y hi hy => by
          by_cases h9 : i = j
          · subst h9
            rw [HST.out] at hy
            injection hy with hy
            rw [← hy]
            exact hp
          · exact HN.out i y (by omega) hy
        clear hh hp HST HN
        generalize padW st 0 = l0 at *
        generalize padW st 1 = l1 at *
        generalize padW st 2 = l2 at *
        generalize padW st 3 = l3 at *
        go_wp2_with fail
        refine g.mono ?_
        rintro e w2 ⟨rfl, hs⟩
        have HB2 : Hid (Below w.heap.size w w2) := HB.out.trans (hs.mono HB.out.size)
        clear g hs c0 c1 c2 c3
        go_wp2_with fail
        go_roundw
        case rel => exact ⟨j + 1, by omega, by go_num, HN2, HB2⟩
        case measure => simp [intOf]; omega
    · obtain rfl : j = l.length := by omega
      have HE : Hid (idxL f l = -1) := HNON.out HN.out
      clear GF HS HNON HHIT HN
      go_wp2_with fail
      go_ret
      exact ⟨by rw [HE.out]; rfl, HB.out⟩
end Go.Proofs.YtmhpnkfibecnmaaDoor

namespace Go.Proofs.YtmhpnkfibecnmaaDoor
open Go Go.RowKit
open M
set_option linter.unusedVariables false
set_option linter.unusedSimpArgs false

/-- a row of states, cell by cell, from a block's beginning on -/
def CellsT (w : World) (g : Nat) (r : List (List Int)) : Prop := ∀ (i : Nat) (st : List Int), r[i]? = some st → w.cell? ⟨g, i * 4, none⟩ = some (.int .u64 (padW st 0)) ∧ w.cell? ⟨g, i * 4 + 1, none⟩ = some (.int .u64 (padW st 1)) ∧ w.cell? ⟨g, i * 4 + 2, none⟩ = some (.int .u64 (padW st 2)) ∧ w.cell? ⟨g, i * 4 + 3, none⟩ = some (.int .u64 (padW st 3))
theorem CellsT.below {w w' : World} {g : Nat} {r : List (List Int)} (h : CellsT w g r) (hb : Below w.heap.size w w') (hg : g < w.heap.size) : CellsT w' g r := fun i st hi => by
  obtain ⟨c0, c1, c2, c3⟩ := h i st hi
  exact ⟨by rw [hb.cell (p := ⟨g, _, none⟩) hg]; exact c0, by rw [hb.cell (p := ⟨g, _, none⟩) hg]; exact c1, by rw [hb.cell (p := ⟨g, _, none⟩) hg]; exact c2, by rw [hb.cell (p := ⟨g, _, none⟩) hg]; exact c3⟩
theorem heap_frozen' {w w' : World} {p : Addr} (h : w'.heap[p.block]? = w.heap[p.block]?) : w'.frozen? p = w.frozen? p := by
  simp [World.frozen?, h]
/-- one state laid over another -/
def set4 (w : World) (g o : Nat) (a b c d : Value) : World := (((w.setCell ⟨g, o, none⟩ a).setCell ⟨g, o + 1, none⟩ b).setCell ⟨g, o + 2, none⟩ c).setCell ⟨g, o + 3, none⟩ d
theorem cell_ne (w : World) (g o p : Nat) (v : Value) (h : o ≠ p) : (w.setCell ⟨g, o, none⟩ v).cell? ⟨g, p, none⟩ = w.cell? ⟨g, p, none⟩ :=
  World.cell?_setCell_other _ _ _ _ (by intro h9; injection h9 with _ h8; exact h h8)
theorem CellsT.set {w : World} {g i : Nat} {r : List (List Int)} (h : CellsT w g r) (hi : i < r.length) (st : List Int) :
    CellsT (set4 w g (i * 4) (.int .u64 (padW st 0)) (.int .u64 (padW st 1)) (.int .u64 (padW st 2)) (.int .u64 (padW st 3))) g (r.set i st) := by
  obtain ⟨o0, o1, o2, o3⟩ := h i _ (List.getElem?_eq_getElem hi)
  intro j sj hj
  unfold set4
  by_cases e : j = i
  · subst e
    rw [List.getElem?_set_self hi] at hj
    have hj := Option.some.inj hj
    subst hj
    refine ⟨?_, ?_, ?_, ?_⟩
    · rw [cell_ne _ _ _ _ _ (by omega), cell_ne _ _ _ _ _ (by omega), cell_ne _ _ _ _ _ (by omega)]
      exact World.cell?_setCell_same _ _ _ o0
    · rw [cell_ne _ _ _ _ _ (by omega), cell_ne _ _ _ _ _ (by omega)]
      exact World.cell?_setCell_same _ _ _ ((cell_ne _ _ _ _ _ (by omega)).trans o1)
    · rw [cell_ne _ _ _ _ _ (by omega)]
      exact World.cell?_setCell_same _ _ _ ((cell_ne _ _ _ _ _ (by omega)).trans ((cell_ne _ _ _ _ _ (by omega)).trans o2))
    · exact World.cell?_setCell_same _ _ _ ((cell_ne _ _ _ _ _ (by omega)).trans ((cell_ne _ _ _ _ _ (by omega)).trans ((cell_ne _ _ _ _ _ (by omega)).trans o3)))
  · rw [List.getElem?_set_ne (fun h => e h.symm)] at hj
    obtain ⟨c0, c1, c2, c3⟩ := h j sj hj
    refine ⟨?_, ?_, ?_, ?_⟩ <;> rw [cell_ne _ _ _ _ _ (by omega), cell_ne _ _ _ _ _ (by omega), cell_ne _ _ _ _ _ (by omega), cell_ne _ _ _ _ _ (by omega)] <;> assumption
/-- the builtin clear at a row of states -/
theorem run_clear_T (w : World) (ty : TypeId) (b o n c : Nat) (hn : 0 < n) (hc : ∀ j, j < n * 4 → (w.cell? ⟨b, o + j, none⟩).isSome = true) (hf : ∀ j, j < n * 4 → w.frozen? ⟨b, o + j, none⟩ = false) :
    (Builtin.clear_ #[133] ty #[.slice (some ⟨b, o, none⟩) n c]).run Tryd.prog w = .ok (.tuple #[]) (w.setCells b o (List.replicate (n * 4) (.int .u64 0))) := by
  have hv : ∀ w, (zeroValue 86).run Tryd.prog w = .ok (.agg #[.int .u64 0, .int .u64 0, .int .u64 0, .int .u64 0]) w := by
    obtain ⟨i0, hi, hz0, hz1, hz2⟩ := info_parts infoT
    intro w
    simp [zeroValue, hi, hz0]
    rfl
  have hzc : (Builtin.zeroCells (Value.agg #[.int .u64 0, .int .u64 0, .int .u64 0, .int .u64 0]).cells n).toList = List.replicate (n * 4) (.int .u64 0) := by
    apply List.ext_getElem
    · simp [Builtin.zeroCells, Value.cells]
    · intro i h1 h2
      have h4 : i % 4 = 0 ∨ i % 4 = 1 ∨ i % 4 = 2 ∨ i % 4 = 3 := by omega
      rcases h4 with h | h | h | h <;> simp [Builtin.zeroCells, Value.cells, h]
  have hst := run_storeCells_cells (P := Tryd.prog) b o (List.replicate (n * 4) (.int .u64 0)) 0 w (by simpa using hc) (by simpa using hf) (by intro v hv'; rw [List.eq_of_mem_replicate hv']; rfl)
  simp only [Nat.add_zero] at hst
  obtain ⟨m, rfl⟩ : ∃ m, n = m + 1 := ⟨n - 1, by omega⟩
  simp [Builtin.clear_, run_underlying Tryd.underlying133, hv, hzc, hst]
theorem set4_belowT {w0 w : World} {B g o : Nat} {a b c d : Value} (h : Below B w0 w) (hg : B ≤ g) : Below B w0 (set4 w g o a b c d) := (((h.setCell hg _).setCell hg _).setCell hg _).setCell hg _
theorem set4_frozen (w : World) (g o x : Nat) (a b c d : Value) (h : ∀ x, w.frozen? ⟨g, x, none⟩ = false) : (set4 w g o a b c d).frozen? ⟨g, x, none⟩ = false := by
  unfold set4
  rw [World.frozen?_setCell, World.frozen?_setCell, World.frozen?_setCell, World.frozen?_setCell]
  exact h x
theorem setCells_below {B : Nat} {w0 : World} (b : Nat) (hb : B ≤ b) : ∀ (vs : List Value) (o : Nat) (w : World), Below B w0 w → Below B w0 (w.setCells b o vs)
  | [], o, w, h => h
  | v :: vs, o, w, h => setCells_below b hb vs (o + 1) _ (h.setCell hb v)
theorem CellsT.cleared {w : World} {g a m : Nat} {r : List (List Int)} (h : CellsT w g r) : CellsT (w.setCells g (a * 4) (List.replicate m (.int .u64 0))) g (r.take a) := fun i st hi => by
  have hia : i < a := by
    have := (List.getElem?_eq_some_iff.1 hi).1
    rw [List.length_take] at this
    omega
  rw [List.getElem?_take_of_lt hia] at hi
  obtain ⟨c0, c1, c2, c3⟩ := h i st hi
  refine ⟨?_, ?_, ?_, ?_⟩ <;> rw [World.cell?_setCells_out g _ _ _ _ (fun _ _ => Or.inl (by dsimp only; omega))] <;> assumption
/-- what is kept -/
theorem filter_take_snoc {α : Type} (f : α → Bool) (l : List α) (b : Nat) (x : α) (h : l[b]? = some x) : (l.take (b + 1)).filter f = (l.take b).filter f ++ (if f x = true then [x] else []) := by
  rw [List.take_add_one, h, List.filter_append]
  congr 1
  cases hf : f x <;> simp [hf]
theorem idxN_full {α : Type} (f : α → Bool) : ∀ l : List α, idxN f l = l.length → ∀ x ∈ l, f x = false
  | [], _, x, h => by simp at h
  | y :: r, h, x, hx => by
    unfold idxN at h
    cases hf : f y with
    | true =>
      rw [if_pos hf] at h
      simp at h
    | false =>
      rw [if_neg (by rw [hf]; decide)] at h
      rcases List.mem_cons.1 hx with rfl | h9
      · exact hf
      · exact idxN_full f r (by simpa using h) x h9
theorem idxN_lt {α : Type} (f : α → Bool) : ∀ l : List α, idxN f l < l.length → (∃ x, l[idxN f l]? = some x ∧ f x = true) ∧ ∀ y ∈ l.take (idxN f l), f y = false
  | [], h => by simp [idxN] at h
  | y :: r, h => by
    cases hf : f y with
    | true =>
      have e : idxN f (y :: r) = 0 := by
        unfold idxN
        rw [if_pos hf]
      rw [e]
      exact ⟨⟨y, rfl, hf⟩, fun z hz => by simp at hz⟩
    | false =>
      have e : idxN f (y :: r) = idxN f r + 1 := by
        rw [idxN, if_neg (by rw [hf]; decide)]
      rw [e] at h ⊢
      obtain ⟨⟨x, h1, h2⟩, h3⟩ := idxN_lt f r (by simpa using h)
      refine ⟨⟨x, by simpa using h1, h2⟩, fun z hz => ?_⟩
      rw [List.take_succ_cons] at hz
      rcases List.mem_cons.1 hz with rfl | h9
      · exact hf
      · exact h3 z h9
theorem filter_keep {α : Type} (f : α → Bool) (l : List α) (h : ∀ x ∈ l, f x = false) : l.filter (fun x => !f x) = l := by
  rw [List.filter_eq_self]
  intro x hx
  rw [h x hx]
  rfl
/-- the row while it is gone through -/
def DelAt (f : List Int → Bool) (l : List (List Int)) (w : World) (g a b : Nat) : Prop := ∃ r : List (List Int), r.length = l.length ∧ CellsT w g r ∧ r.take a = (l.take b).filter (fun st => !f st) ∧ ∀ m, b ≤ m → r[m]? = l[m]?
set_option maxRecDepth 100000 in
set_option maxHeartbeats 2000000 in
theorem deleteFunc_any (f : List Int → Bool) (l : List (List Int)) (hl : l.length ≤ 1048576) (cb g cap B : Nat) (w : World) (hB : B ≤ g) (hBw : B ≤ w.heap.size) (hgl : g < w.heap.size) (hcap : l.length ≤ cap) (hcl : CellsT w g l) (hfr : ∀ x, w.frozen? ⟨g, x, none⟩ = false)
    (hf : ∀ st ∈ l, ∀ w1 : World, Below B w w1 → Calls Tryd.prog 119 #[aggS st, .pointer (some ⟨cb, 0, none⟩)] w1 fun e w' => e = .returned (.bool (f st)) ∧ Below w1.heap.size w1 w') :
    Calls Tryd.prog 117 #[.slice (some ⟨g, 0, none⟩) l.length cap, .func (.func 119) #[] #[.pointer (some ⟨cb, 0, none⟩)]] w fun e w' => ∃ v, e = .returned v ∧ StsAt w' v (l.filter (fun st => !f st)) ∧ Below B w w' := by
  have hs : StsAt w (.slice (some ⟨g, 0, none⟩) l.length cap) l := ⟨_, cap, rfl, fun i st hi => ⟨g, 0, rfl, hgl, by rw [Nat.zero_add]; exact hcl i st hi⟩⟩
  have GI := indexFunc_any f l hl cb _ w hs (fun st hst w1 hb => hf st hst w1 (hb.mono hBw))
  have GF : Hid (∀ st ∈ l, ∀ w1 : World, Below B w w1 → Calls Tryd.prog 119 #[aggS st, .pointer (some ⟨cb, 0, none⟩)] w1 fun e w' => e = .returned (.bool (f st)) ∧ Below w1.heap.size w1 w') := hf
  have HZ0 : Hid (CellsT w g l) := hcl
  have HFR : Hid (∀ x, w.frozen? ⟨g, x, none⟩ = false) := hfr
  have HNONE : Hid (idxN f l = l.length → l.filter (fun st => !f st) = l) := fun h => filter_keep f l (idxN_full f l h)
  have HSOME : Hid (idxN f l < l.length → (l.take (idxN f l + 1)).filter (fun st => !f st) = l.take (idxN f l)) := fun h => by
    obtain ⟨⟨x, h1, h2⟩, h3⟩ := idxN_lt f l h
    rw [filter_take_snoc _ _ _ _ h1, filter_keep f _ h3]
    simp [h2]
  have hle := idxN_le f l
  have hIL : idxL f l = if idxN f l = l.length then -1 else (idxN f l : Int) := rfl
  have HSTEP : Hid (∀ (b : Nat) (st : List Int), l[b]? = some st → (l.take (b + 1)).filter (fun st => !f st) = (l.take b).filter (fun st => !f st) ++ (if f st = false then [st] else [])) := fun b st h => by
    show _ = _
    rw [filter_take_snoc _ l b st h]
    cases f st <;> rfl
  have HEND : Hid ((l.take l.length).filter (fun st => !f st) = l.filter (fun st => !f st)) := by
    show _ = _
    rw [List.take_length]
  have HGET : Hid (∀ b : Nat, b < l.length → ∃ st, l[b]? = some st ∧ st ∈ l) := fun b hb => ⟨_, List.getElem?_eq_getElem hb, List.getElem_mem hb⟩
  have HS : Hid (StsAt w (.slice (some ⟨g, 0, none⟩) l.length cap) l) := hs
  generalize hN : idxN f l = k at *
  rw [hIL] at GI
  have h4 : (Tryd.prog.info? 86).map (·.size) = some 4 := by kernel_rfl
  clear hN hIL hcl hfr hf hs
  by_cases hk : k = l.length
  · rw [if_pos hk] at GI
    have HE : Hid (l.filter (fun st => !f st) = l) := HNONE.out hk
    generalize l.filter (fun st => !f st) = FL at *
    generalize hln : l.length = n at *
    clear HNONE HSOME HSTEP HEND HGET GF
    go_enter Tryd.func117, Tryd.ntmps117
    go_wp2_with fail
    refine GI.mono ?_
    rintro e w1 ⟨rfl, hs1⟩
    have HB1 : Hid (Below B w w1) := hs1.mono hBw
    have HR1 : Hid (StsAt w1 (.slice (some ⟨g, 0, none⟩) n cap) FL) := by
      show StsAt _ _ _
      rw [HE.out]
      exact HS.out.below hs1
    clear GI hs1 HS
    go_wp2_with fail
    go_ret
    exact ⟨_, rfl, HR1.out, HB1.out⟩
  · rw [if_neg hk] at GI
    have hk2 : k < l.length := by omega
    have HE0 := HSOME.out hk2
    generalize hln : l.length = n at *
    have HLN : Hid (l.length = n) := hln
    clear HNONE HSOME HS hln
    go_enter Tryd.func117, Tryd.ntmps117
    go_wp2_with fail
    refine GI.mono ?_
    rintro e w1 ⟨rfl, hs1⟩
    have HB1 : Hid (Below B w w1) := hs1.mono hBw
    have HF1 : Hid (∀ x, w1.frozen? ⟨g, x, none⟩ = false) := fun x => (heap_frozen' (hs1.block g hgl)).trans (HFR.out x)
    have HD1 : Hid (DelAt f l w1 g k (k + 1)) := ⟨l, rfl, HZ0.out.below hs1 hgl, HE0.symm, fun m _ => rfl⟩
    clear GI hs1 HE0 HZ0 HFR
    go_wp2_with fail
    go_loopw [5, 6] (fun i j wr => ∃ a b : Nat, a < b ∧ b ≤ n ∧ i = .int .i64 a ∧ j = .int .i64 b ∧ Hid (DelAt f l wr g a b) ∧ Hid (∀ x, wr.frozen? ⟨g, x, none⟩ = false) ∧ Hid (Below B w wr)) (fun _ j _ => n - (intOf j).toNat)
    case atStart => exact ⟨k, k + 1, by omega, by omega, rfl, by simp, HD1, HF1, HB1⟩
    case round =>
      obtain ⟨a, b, hab, hbn, rfl, rfl, HD, HF, HB⟩ := hrel
      clear HB1 HF1 HD1
      by_cases hbn2 : b < n
      · obtain ⟨st, hst, hmem⟩ := HGET.out b hbn2
        have hcs : ∃ r : List (List Int), r.length = n ∧ CellsT wr g r ∧ r.take a = (l.take b).filter (fun st => !f st) ∧ ∀ m, b ≤ m → r[m]? = l[m]? := by
          obtain ⟨r, h1, h2, h3, h4⟩ := HD.out
          exact ⟨r, h1.trans HLN.out, h2, h3, h4⟩
        obtain ⟨r, hrl, hrc, hrt, hrm⟩ := hcs
        have hr0 : r[b]? = some st := (hrm b (by omega)).trans hst
        have HCR : Hid (CellsT wr g r) := hrc
        obtain ⟨c0, c1, c2, c3⟩ := hrc b st hr0
        have hgw : g < wr.heap.size := Nat.lt_of_lt_of_le hgl HB.out.size
        have HRL : Hid (r.length = n) := hrl
        have HRT : Hid (r.take a = (l.take b).filter (fun st => !f st)) := hrt
        have HRM : Hid (∀ m, b ≤ m → r[m]? = l[m]?) := hrm
        have HST : Hid (l[b]? = some st) := hst
        have HR0 : Hid (r[b]? = some st) := hr0
        have hal : Below wr.heap.size wr (wr.alloc (.cells #[.int .u64 (padW st 0), .int .u64 (padW st 1), .int .u64 (padW st 2), .int .u64 (padW st 3)] 86)) := (Below.refl _ _).alloc (Nat.le_refl _) _
        have y0 := box4_alloc wr 86 (.int .u64 (padW st 0)) (.int .u64 (padW st 1)) (.int .u64 (padW st 2)) (.int .u64 (padW st 3))
        have HSTEP2 : Hid _ := HSTEP.out b st hst
        have HBM : Hid (Below B w _) := HB.out.trans (hal.mono (Nat.le_trans hBw HB.out.size))
        have G := GF.out st hmem _ HBM.out
        have HY : Hid (Box4 _ _ _ _ _ _ _) := y0
        have HAL : Hid (Below wr.heap.size wr _) := hal
        have HSET : Hid (∀ u : World, CellsT u g r → CellsT (set4 u g (a * 4) (.int .u64 (padW st 0)) (.int .u64 (padW st 1)) (.int .u64 (padW st 2)) (.int .u64 (padW st 3))) g (r.set a st)) := fun u hu => hu.set (by rw [hrl]; omega) st
        have hra : a < r.length := by rw [hrl]; omega
        have HRA : Hid (r[a]? = some r[a]) := List.getElem?_eq_getElem hra
        have HNEXT : Hid (f st = false → (r.set a st).take (a + 1) = (l.take (b + 1)).filter (fun st => !f st)) := fun h => by
          rw [HSTEP2.out, if_pos h, List.take_add_one, List.take_set_of_le (Nat.le_refl _), hrt, List.getElem?_set_self hra]
          rfl
        have HNEXT0 : Hid (f st = true → r.take a = (l.take (b + 1)).filter (fun st => !f st)) := fun h => by
          rw [HSTEP2.out, h, if_neg (by decide), hrt, List.append_nil]
        have HRM2 : Hid (∀ m, b + 1 ≤ m → (r.set a st)[m]? = l[m]?) := fun m hm => by
          rw [List.getElem?_set_ne (by omega)]
          exact hrm m (by omega)
        have HRL2 : Hid ((r.set a st).length = l.length) := by
          show _ = _
          rw [List.length_set, hrl]
          exact HLN.out.symm
        obtain ⟨q0, q1, q2, q3⟩ := y0.cells
        have qh := y0.heap
        have ql := y0.lt
        unfold aggS at G
        clear hrc hrl hrt hrm hst hr0 hal y0 hmem HR0 HST HRT
        clear HSTEP HGET HEND GF HSTEP2 HD
        cases hfv : f st with
        | true =>
          rw [hfv] at G
          have HN := HNEXT0.out hfv
          have HDA : Hid (r.take a = _) := HN
          clear HN HNEXT HNEXT0 HSET HRM2 HRL2 HRA hra hfv
          generalize padW st 0 = l0 at *
          generalize padW st 1 = l1 at *
          generalize padW st 2 = l2 at *
          generalize padW st 3 = l3 at *
          go_wp2_with fail
          refine G.mono ?_
          rintro e w2 ⟨rfl, hs2⟩
          have HB2 : Hid (Below wr.heap.size wr w2) := HAL.out.trans (hs2.mono HAL.out.size)
          clear G hs2 q0 q1 q2 q3 qh ql c0 c1 c2 c3
          go_wp2_with fail
          refine ⟨?_, ?measure⟩
          (repeat apply Exists.intro)
          refine ⟨?rel, rfl⟩
          case rel =>
            refine ⟨a, b + 1, by omega, by omega, rfl, by go_num, ⟨r, HRL.out.trans HLN.out.symm, HCR.out.below HB2.out hgw, HDA.out, fun m hm => HRM.out m (by omega)⟩, fun x => (heap_frozen' (HB2.out.block g hgw)).trans (HF.out x), ?_⟩
            exact HB.out.trans (HB2.out.mono (Nat.le_trans hBw HB.out.size))
          case measure => simp [intOf]; omega
        | false =>
          rw [hfv] at G
          have HN := HNEXT.out hfv
          have HDA : Hid ((r.set a st).take (a + 1) = _) := HN
          clear HN HNEXT HNEXT0 hfv
          generalize hP0 : padW st 0 = l0 at *
          generalize hP1 : padW st 1 = l1 at *
          generalize hP2 : padW st 2 = l2 at *
          generalize hP3 : padW st 3 = l3 at *
          clear hP0 hP1 hP2 hP3
          go_wp2_with fail
          refine G.mono ?_
          rintro e w2 ⟨rfl, hs2⟩
          have HB2 : Hid (Below wr.heap.size wr w2) := HAL.out.trans (hs2.mono HAL.out.size)
          have HC2 : Hid (CellsT w2 g r) := HCR.out.below HB2.out hgw
          have HF2 : Hid (∀ x, w2.frozen? ⟨g, x, none⟩ = false) := fun x => (heap_frozen' (HB2.out.block g hgw)).trans (HF.out x)
          have y2 := HY.out.below hs2 HY.out.lt
          obtain ⟨p0, p1, p2, p3⟩ := y2.cells
          have ph := y2.heap
          have pl := y2.lt
          obtain ⟨d0, d1, d2, d3⟩ := HC2.out a _ HRA.out
          have e0 := HF2.out (a * 4)
          have e1 := HF2.out (a * 4 + 1)
          have e2 := HF2.out (a * 4 + 2)
          have e3 := HF2.out (a * 4 + 3)
          clear G hs2 q0 q1 q2 q3 qh ql c0 c1 c2 c3 y2 HRA
          generalize padW r[a] 0 = m0 at *
          generalize padW r[a] 1 = m1 at *
          generalize padW r[a] 2 = m2 at *
          generalize padW r[a] 3 = m3 at *
          go_wp2_with fail
          refine ⟨?_, ?measure⟩
          (repeat apply Exists.intro)
          refine ⟨?rel, rfl⟩
          case rel =>
            refine ⟨a + 1, b + 1, by omega, by omega, by go_num, by go_num, ⟨r.set a st, HRL2.out, HSET.out w2 HC2.out, HDA.out, HRM2.out⟩, fun x => set4_frozen _ _ _ _ _ _ _ _ HF2.out, ?_⟩
            exact set4_belowT (HB.out.trans (HB2.out.mono (Nat.le_trans hBw HB.out.size))) hB
          case measure => simp [intOf]; omega
      · obtain rfl : b = n := by omega
        obtain ⟨r, hrl, hrc, hrt, hrm⟩ := HD.out
        have HFE : Hid (l.filter (fun st => !f st) = r.take a) := by
          show _ = _
          rw [hrt, HEND.out]
        have hlen : (r.take a).length = a := by rw [List.length_take, hrl, HLN.out]; omega
        have HCC : Hid (CellsT (wr.setCells g (a * 4) (List.replicate ((b - a) * 4) (.int .u64 0))) g (r.take a)) := hrc.cleared
        have HBB : Hid (Below B w (wr.setCells g (a * 4) (List.replicate ((b - a) * 4) (.int .u64 0)))) := setCells_below g hB _ _ _ HB.out
        have hcr := run_clear_T wr 0 g (a * 4) (b - a) (cap - a) (by omega) (fun j hj => by
          have h9 : a + j / 4 < r.length := by rw [hrl, HLN.out]; omega
          obtain ⟨c0, c1, c2, c3⟩ := hrc (a + j / 4) _ (List.getElem?_eq_getElem h9)
          have hj4 : j % 4 = 0 ∨ j % 4 = 1 ∨ j % 4 = 2 ∨ j % 4 = 3 := by omega
          rcases hj4 with h | h | h | h
          · rw [show a * 4 + j = (a + j / 4) * 4 by omega, c0]; rfl
          · rw [show a * 4 + j = (a + j / 4) * 4 + 1 by omega, c1]; rfl
          · rw [show a * 4 + j = (a + j / 4) * 4 + 2 by omega, c2]; rfl
          · rw [show a * 4 + j = (a + j / 4) * 4 + 3 by omega, c3]; rfl) (fun j _ => HF.out _)
        have hgw : g < (wr.setCells g (a * 4) (List.replicate ((b - a) * 4) (.int .u64 0))).heap.size := Nat.lt_of_lt_of_le hgl HBB.out.size
        have HRES : Hid (StsAt (wr.setCells g (a * 4) (List.replicate ((b - a) * 4) (.int .u64 0))) (.slice (some ⟨g, 0, none⟩) a cap) (l.filter (fun st => !f st))) := by
          show StsAt _ _ _
          rw [HFE.out]
          refine ⟨_, cap, by rw [hlen], fun i st hi => ⟨g, 0, rfl, hgw, ?_⟩⟩
          rw [Nat.zero_add]
          exact HCC.out i st hi
        clear hrl hrc hrt hrm hlen HD HFE HCC HF HSTEP HEND HGET GF hgw HB
        have hab2 : a ≤ b := by omega
        have hac : a ≤ cap := by omega
        have HCR : Hid _ := hcr
        clear hcr
        go_wp2_with fail
        rw [HCR.out]
        go_wp2_with fail
        go_ret
        exact ⟨_, rfl, HRES.out, HBB.out⟩
end Go.Proofs.YtmhpnkfibecnmaaDoor

namespace Go.Proofs.YtmhpnkfibecnmaaDoor
open Go Go.RowKit
open M
set_option linter.unusedVariables false
set_option linter.unusedSimpArgs false

/-- the number of a number's state -/
theorem noL_of (k n : Nat) : ∀ u : Nat, noL k (ofL k u (n : Int)) = ((n % 2 ^ (k * u) : Nat) : Int)
  | 0 => by simp [ofL, noL, Nat.mod_one]
  | u + 1 => by
    rw [ofL_succ, noL_snoc, ofL_len, noL_of k n u, Nat.mul_succ, Nat.pow_add, Nat.mod_mul]
    unfold ofW
    push_cast
    rw [Int.mul_comm (2 ^ (k * u))]
def startsT (p : Pg) (k u : Nat) : List (List Int) := (statesL k u (2 ^ (k * u))).filter (fun st => holdsL p.1 p.2.2.1 st)
theorem nums_starts {k u : Nat} (p : Pg) (e1 : p.1 = k) (e2 : p.2.1 = u) : numsL k (startsT p k u) = thoseP p p.2.2.1 := by
  unfold numsL startsT statesL thoseP thoseJ thoseB
  rw [e1, e2, Int.toNat_natCast, Int.toNat_natCast, show ((k : Int) * (u : Int)).toNat = k * u by rw [← Int.natCast_mul, Int.toNat_natCast]]
  rw [List.filter_map, List.filter_map, List.map_map]
  apply List.map_congr_left
  intro n hn
  have hlt : n < 2 ^ (k * u) := List.mem_range.1 (List.mem_filter.1 hn).1
  show noL k (ofL k u n) = n
  rw [noL_of, Nat.mod_eq_of_lt hlt]
theorem startsP_len (p : Pg) : (startsP p).length ≤ 1048576 := by
  unfold startsP
  split
  · rename_i h
    obtain ⟨k, u, e1, e2, q1, q2, q3, q4, hk5, hm5, hM⟩ := small_nats h
    have h1 := thoseJ_len (thoseB p p.2.2.1) (2 ^ (p.1 * p.2.1).toNat)
    rw [hM, Int.toNat_natCast] at h1
    have h2 : 2 ^ (k * u) ≤ 2 ^ 5 := Nat.pow_le_pow_right (by omega) hm5
    unfold thoseP
    rw [hM, Int.toNat_natCast]
    omega
  · simp
theorem flat_at : ∀ (l : List (List Int)) (i : Nat) (st : List Int), l[i]? = some st → ∀ c, c < 4 → (flatT l)[i * 4 + c]? = some (.int .u64 (padW st c))
  | [], i, st, h, c, hc => by simp at h
  | x :: r, 0, st, h, c, hc => by
    obtain rfl : x = st := by simpa using h
    have e : flatT (x :: r) = cellsT x ++ flatT r := rfl
    rw [e, List.getElem?_append_left (by show 0 * 4 + c < 4; omega)]
    match c, hc with
    | 0, _ => rfl
    | 1, _ => rfl
    | 2, _ => rfl
    | 3, _ => rfl
  | x :: r, i + 1, st, h, c, hc => by
    have e : flatT (x :: r) = cellsT x ++ flatT r := rfl
    have e4 : (cellsT x).length = 4 := rfl
    rw [e, List.getElem?_append_right (by omega), e4, show (i + 1) * 4 + c - 4 = i * 4 + c by omega]
    exact flat_at r i st (by simpa using h) c hc
theorem cells_own {w : World} {B : Nat} {v : Value} {l : List (List Int)} (h : OwnT w B v l) (hne : 0 < l.length) :
    ∃ g cap, v = .slice (some ⟨g, 0, none⟩) l.length cap ∧ B ≤ g ∧ g < w.heap.size ∧ l.length ≤ cap ∧ CellsT w g l ∧ ∀ x, w.frozen? ⟨g, x, none⟩ = false := by
  have h0 := h
  obtain ⟨h1, ⟨_, h2⟩ | ⟨g, cap, cur, hv, hg, hh, hcap, hm, hs, ht⟩⟩ := h
  · omega
  · refine ⟨g, cap, hv, hg, (Array.getElem?_eq_some_iff.1 hh).1, hcap, fun i st hi => ?_, fun x => by simp [World.frozen?, hh]⟩
    have key : ∀ c, c < 4 → w.cell? ⟨g, i * 4 + c, none⟩ = some (.int .u64 (padW st c)) := fun c hc' => by
      have h9 := World.ownsRow.cells h0 (g := g) (by rw [hv]; rfl) _ _ (flat_at l i st hi c hc')
      have e9 : (⟨g, 0, none⟩ : Addr).add (i * 4 + c) = ⟨g, i * 4 + c, none⟩ := by
        unfold Addr.add
        split
        · rename_i h8
          rw [h8]
        · simp
      rw [e9] at h9
      exact h9
    exact ⟨key 0 (by omega), key 1 (by omega), key 2 (by omega), key 3 (by omega)⟩
set_option maxRecDepth 100000 in
set_option maxHeartbeats 2000000 in
theorem starts_any {k u : Nat} (q1 : 1 ≤ k) (q2 : k ≤ 64) (q3 : 1 ≤ u) (q4 : u ≤ 4) (hk5 : k ≤ 5) (hm5 : k * u ≤ 5) (p : Pg) (hp1 : p.1 = k) (hp2 : p.2.1 = u) (hpos : ∀ x ∈ p.2.2.1, 0 ≤ x.2) (P : Nat) (w : World) (hT : Tab w) (hR : Rooted w (Old w) p P) :
    Calls Tryd.prog 90 #[ptr P] w fun e w' => ∃ v, e = .returned v ∧ StsAt w' v (startsT p k u) ∧ Below w.heap.size w w' := by
  have hb0 : Below w.heap.size w (w.alloc (.cells #[ptr P] 84)) := (Below.refl _ _).alloc (Nat.le_refl _) _
  have hz0 : (w.alloc (.cells #[ptr P] 84)).heap.size = w.heap.size + 1 := World.size_alloc _ _
  have HB0 : Hid _ := hb0
  have hbx : ∃ x y, Box4 w P 107 (.int .i64 p.1) (.int .i64 p.2.1) x y := by
    obtain ⟨_, x, y, hbx, _, _⟩ := hR
    exact ⟨x, y, hbx⟩
  obtain ⟨x, y, hbx⟩ := hbx
  rw [hp1, hp2] at hbx
  have GS := states_any q1 hk5 hm5 P x y _ (hT.below hb0 hT.some) (hbx.below hb0 hbx.lt)
  have hcr : CellR (w.alloc (.cells #[ptr P] 84)) w.heap.size P := by
    unfold CellR
    show (w.heap.push _)[w.heap.size]? = _
    simp
  have hln : (statesL k u (2 ^ (k * u))).length ≤ 1048576 := by
    have h2 : 2 ^ (k * u) ≤ 2 ^ 5 := Nat.pow_le_pow_right (by omega) hm5
    rw [statesL_len]
    omega
  have hlp : 0 < (statesL k u (2 ^ (k * u))).length := by
    rw [statesL_len]
    exact Nat.two_pow_pos _
  have HW : ∀ st ∈ statesL k u (2 ^ (k * u)), WordsIn k u st := by
    intro st hst
    obtain ⟨i, _, rfl⟩ := List.mem_map.1 hst
    exact ofL_words q1 q2 q3 q4 _
  have GD : Hid (∀ (w1 : World) (g cap : Nat), Below (w.heap.size + 1) (w.alloc (.cells #[ptr P] 84)) w1 → w.heap.size + 1 ≤ g → g < w1.heap.size → (statesL k u (2 ^ (k * u))).length ≤ cap → CellsT w1 g (statesL k u (2 ^ (k * u))) → (∀ x, w1.frozen? ⟨g, x, none⟩ = false) →
      Calls Tryd.prog 117 #[.slice (some ⟨g, 0, none⟩) (statesL k u (2 ^ (k * u))).length cap, .func (.func 119) #[] #[.pointer (some ⟨w.heap.size, 0, none⟩)]] w1 fun e w' => ∃ v, e = .returned v ∧ StsAt w' v (startsT p k u) ∧ Below (w.heap.size + 1) w1 w') := fun w1 g cap hb hg hgl hcap hcl hfr => by
    have hd := deleteFunc_any (fun st => !holdsL p.1 p.2.2.1 st) _ hln w.heap.size g cap (w.heap.size + 1) w1 hg (by omega) hgl hcap hcl hfr (fun st hst w2 hb2 => by
      have hb9 := hb.trans hb2
      rw [← hz0] at hb9
      exact notStart_any (HW st hst) p hp1 hp2 hpos P w.heap.size w2 (hT.below (hb0.trans (hb9.mono (by omega))) hT.some) (Rooted.below hR (hb0.trans (hb9.mono (by omega)))) (hcr.below hb9))
    refine hd.mono ?_
    rintro e w' ⟨v, rfl, h1, h2⟩
    refine ⟨v, rfl, ?_, h2⟩
    simp only [Bool.not_not] at h1
    exact h1
  have ch : _ = _ := hcr
  have c0 := hcr.cell
  have cl := hcr.lt
  unfold CellR at ch
  clear hT hR hbx hcr hb0 HW q1 q2 q3 q4 hk5 hm5 hp1 hp2 hpos
  generalize startsT p k u = TT at *
  generalize statesL k u (2 ^ (k * u)) = SS at *
  go_enter Tryd.func90, Tryd.ntmps90
  go_wp2_with fail
  refine GS.mono ?_
  rintro e w1 ⟨v, rfl, ho, hb1⟩
  obtain ⟨g, cap, rfl, hg, hgl, hcap, hcl, hfr⟩ := cells_own ho hlp
  rw [hz0] at hg hb1
  have g2 := GD.out w1 g cap hb1 hg hgl hcap hcl hfr
  have HB1 : Hid _ := hb1
  clear GS GD ho hcl hfr hb1 hcap hgl hg ch c0 cl
  go_wp2_with fail
  refine g2.mono ?_
  rintro e w2 ⟨v, rfl, hs, hb2⟩
  have HS2 : Hid _ := hs
  have HB2 : Hid (Below w.heap.size w w2) := HB0.out.trans ((HB1.out.trans hb2).mono (by omega))
  clear g2 hs hb2
  go_wp2_with fail
  go_ret
  exact ⟨_, rfl, HS2.out, HB2.out⟩
set_option maxRecDepth 100000 in
set_option maxHeartbeats 2000000 in
theorem iStarts_any (v : Value) (p : Pg) (ok : PgOk p) (w : World) (hT : Tab w) (h : AtProg w v p) :
    Calls Tryd.prog 42 #[v] w fun e w' => ∃ r0, e = .returned (.tuple #[r0, .bool (smallP p)]) ∧ OwnIS w' w.heap.size w'.heap.size r0 (startsP p) ∧ Below w.heap.size w w' := by
  obtain ⟨sa, sn, sc, ca, cn, cc, rfl⟩ := h.shape
  have HB0 : Hid (Below w.heap.size w (w.alloc (.cells #[.int .i64 p.1, .int .i64 p.2.1, .slice sa sn sc, .slice ca cn cc] 27))) := (Below.refl _ _).alloc (Nat.le_refl _) _
  have g := smallRootsOf_any _ p ok _ (hT.below HB0.out hT.some) (h.below HB0.out)
  have x0 := box4_alloc w 27 (.int .i64 p.1) (.int .i64 p.2.1) (.slice sa sn sc) (.slice ca cn cc)
  obtain ⟨a0, a1, a2, a3⟩ := x0.cells
  have ah := x0.heap
  have al := x0.lt
  have HT : Hid (Tab w) := hT
  have HPOS : Hid (∀ x ∈ p.2.2.1, 0 ≤ x.2) := ns_pos ok.2.2.1
  have HS0 : Hid (startsP p = if smallP p = true then thoseP p p.2.2.1 else []) := rfl
  clear h hT ok x0
  go_enter Tryd.func42, Tryd.ntmps42
  go_wp2_with fail
  refine g.mono ?_
  generalize w.alloc (.cells #[.int .i64 p.1, .int .i64 p.2.1, .slice sa sn sc, .slice ca cn cc] 27) = w0 at *
  rintro e w1 ⟨ho, hb1⟩
  have HB1 : Hid (Below w.heap.size w w1) := Below.step HB0.out HB0.out.size hb1
  clear g a0 a1 a2 a3 ah al
  rcases ho with ⟨hg, P, rfl, hroot⟩ | ⟨hg, rfl⟩
  · obtain ⟨k, u, e1, e2, q1, q2, q3, q4, hk5, hm5, hM⟩ := small_nats hg
    have hr1 : Rooted w1 (Old w1) p P := Rooted.old hroot (Below.refl _ _)
    have hbx : ∃ x y, Box4 w1 P 107 (.int .i64 p.1) (.int .i64 p.2.1) x y := by
      obtain ⟨_, x, y, hbx, _, _⟩ := hr1
      exact ⟨x, y, hbx⟩
    obtain ⟨x, y, hbx⟩ := hbx
    rw [e1, e2] at hbx
    have GS := starts_any q1 q2 q3 q4 hk5 hm5 p e1 e2 HPOS.out P w1 (HT.out.below HB1.out HT.out.some) hr1
    have hll : (startsT p k u).length ≤ 1048576 := by
      have h1 := List.length_filter_le (fun st => holdsL p.1 p.2.2.1 st) (statesL k u (2 ^ (k * u)))
      have h2 : 2 ^ (k * u) ≤ 2 ^ 5 := Nat.pow_le_pow_right (by omega) hm5
      rw [statesL_len] at h1
      unfold startsT
      omega
    have hww : ∀ st ∈ startsT p k u, WordsIn k u st := by
      intro st hst
      obtain ⟨i, _, rfl⟩ := List.mem_map.1 (List.mem_filter.1 hst).1
      exact ofL_words q1 q2 q3 q4 _
    have GN : Hid (∀ (w2 : World) (r : Value), Below w1.heap.size w1 w2 → StsAt w2 r (startsT p k u) → Calls Tryd.prog 89 #[ptr P, r] w2 fun e w' => ∃ r, e = .returned r ∧ OwnInts w' w2.heap.size r (startsP p) ∧ Below w2.heap.size w2 w') := fun w2 r hb hs => by
      have hn := numbersOf_any hk5 (startsT p k u) hll hww P x y r w2 (hbx.below hb hbx.lt) hs
      rw [nums_starts p e1 e2] at hn
      rw [HS0.out, if_pos hg]
      exact hn
    have HG : Hid (smallP p = true) := hg
    clear hroot hr1 hbx hll hww HS0 HPOS HT hM e1 e2 hg hb1 q1 q2 q3 q4 hk5 hm5
    generalize startsT p k u = TT at *
    go_wp2_with fail
    refine GS.mono ?_
    rintro e w2 ⟨r, rfl, hs2, hb2⟩
    have HB2 : Hid (Below w.heap.size w w2) := Below.step HB1.out HB1.out.size hb2
    have g2 := GN.out w2 r hb2 hs2
    clear GS GN hs2 hb2
    go_wp2_with fail
    refine g2.mono ?_
    rintro e w3 ⟨r3, rfl, ho3, hb3⟩
    have HB3 : Hid (Below w.heap.size w w3) := Below.step HB2.out HB2.out.size hb3
    have HO3 : Hid (OwnIS w3 w.heap.size w3.heap.size r3 (startsP p)) := rowIn_of (own_weaken ho3 HB2.out.size)
    clear g2 ho3 hb3
    go_wp2_with fail
    go_ret2
    exact ⟨_, by rw [HG.out]; rfl, HO3.out, HB3.out⟩
  · have HG : Hid (smallP p = false) := hg
    have HE : Hid (startsP p = []) := by
      show startsP p = []
      rw [HS0.out, hg, if_neg (by decide)]
    clear HS0 HPOS HT hb1 hg
    go_wp2_with fail
    go_ret2
    exact ⟨_, by rw [HG.out]; rfl, by rw [HE.out]; exact ownIS_nil _ _ HB1.out.size, HB1.out⟩
end Go.Proofs.YtmhpnkfibecnmaaDoor
