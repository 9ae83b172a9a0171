/-
  The program's StateOf.
  The model's l7Many, l7Of.
  The model's StateOf.
-/
import Derived.Test.YtjbolpfilgkbfaaDoorKP83
import Derived.Test.YtjbolpfilgkbfaaDoorOwn5
import Derived.Test.YtjbolpfilgkbfaaDoorKP81
import Derived.Test.YtjbolpfilgkbfaaDoorKP82
namespace Go.Proofs.YtjbolpfilgkbfaaDoor
open Go Go.RowKit
open M
set_option linter.unusedVariables false

def ofB (p : Pg) (no : Int) : Bool := smallP p && decide (0 ≤ no ∧ no < 2 ^ (p.1 * p.2.1).toNat)
def ofP (p : Pg) (no : Int) : List Int := if ofB p no = true then ofL p.1.toNat p.2.1.toNat no else []
theorem good_of (k : Nat) (hk1 : 1 ≤ k) (hk : k ≤ 64) (a : Int) (h : a < 2 ^ k) : goodB k a = true := by
  unfold goodB
  refine decide_eq_true ⟨by omega, by omega, ?_⟩
  rw [Int.toNat_natCast, ← pw_int]
  exact h
theorem ofL_words {k u : Nat} (h1 : 1 ≤ k) (h2 : k ≤ 64) (h3 : 1 ≤ u) (h4 : u ≤ 4) (no : Int) : WordsIn k u (ofL k u no) :=
  ⟨h1, h2, h3, h4, ofL_len k u no, fun s hs => (ofL_mem s hs).1, fun s hs => good_of k h1 h2 s (ofL_mem s hs).2⟩
theorem ownUS_nil (w : World) (lo : Nat) (h : lo ≤ w.heap.size) : OwnUS w lo w.heap.size (.slice none 0 0) [] := rowIn_of (World.ownsRow_nil _ _ _ _)
theorem OwnUS.lower {w : World} {lo lo' hi : Nat} {v : Value} {t : List Int} (h : OwnUS w lo hi v t) (hl : lo' ≤ lo) : OwnUS w lo' hi v t := RowIn.weak h hl (Nat.le_refl _) h.2.2
theorem small_nats {p : Pg} (h : smallP p = true) : ∃ k u : Nat, p.1 = k ∧ p.2.1 = u ∧ 1 ≤ k ∧ k ≤ 64 ∧ 1 ≤ u ∧ u ≤ 4 ∧ k ≤ 5 ∧ k * u ≤ 5 ∧ p.1 * p.2.1 = ((k * u : Nat) : Int) := by
  obtain ⟨hg, hm⟩ := smallP_open h
  obtain ⟨k, u, e1, e2, q1, q2, q3, q4⟩ := goodP_nats hg
  have e3 : p.1 * p.2.1 = ((k * u : Nat) : Int) := by rw [e1, e2, Int.natCast_mul]
  have h5 : k * u ≤ 5 := by rw [e3] at hm; omega
  exact ⟨k, u, e1, e2, q1, q2, q3, q4, Nat.le_trans (Nat.le_mul_of_pos_right k q3) h5, h5, e3⟩
set_option maxRecDepth 100000 in
set_option maxHeartbeats 4000000 in
theorem iStateOf_any (v : Value) (p : Pg) (ok : PgOk p) (no : Int) (w : World) (hT : Tab w) (h : AtProg w v p) :
    Calls Tryd.prog 42 #[v, .int .i64 no] w fun e w' => ∃ r0, e = .returned (.tuple #[r0, .bool (ofB p no)]) ∧ OwnUS w' w.heap.size w'.heap.size r0 (ofP p no) ∧ Below w.heap.size w w' := by
  obtain ⟨sa, sn, sc, ca, cn, cc, rfl⟩ := h.shape
  have HB0 : Hid (Below w.heap.size w (w.alloc (.cells #[.int .i64 p.1, .int .i64 p.2.1, .slice sa sn sc, .slice ca cn cc] 27))) := (Below.refl _ _).alloc (Nat.le_refl _) _
  have g := smallRootsOf_any _ p ok _ (hT.below HB0.out hT.some) (h.below HB0.out)
  have HT : Hid (Tab w) := hT
  clear h hT ok
  go_enter Tryd.func42, Tryd.ntmps42
  go_wp2_with fail
  refine g.mono ?_
  generalize w.alloc (.cells #[.int .i64 p.1, .int .i64 p.2.1, .slice sa sn sc, .slice ca cn cc] 27) = w0 at *
  rintro e w1 ⟨ho, hb1⟩
  have HB1 : Hid (Below w.heap.size w w1) := Below.step HB0.out HB0.out.size hb1
  clear g
  rcases ho with ⟨hs, P, rfl, hroot⟩ | ⟨hs, rfl⟩
  · obtain ⟨k, u, e1, e2, q1, q2, q3, q4, hk5, hm5, hM⟩ := small_nats hs
    have hr1 : Rooted w1 (Old w1) p P := Rooted.old hroot (Below.refl _ _)
    obtain ⟨_, x, y, hx, _, _⟩ := id hr1
    have g1 := hasState_any P (k * u) p.1 p.2.1 x y no w1 hx hM hm5
    have hofb : ofB p no = decide (0 ≤ no ∧ no < 2 ^ (k * u)) := by
      unfold ofB
      rw [hs, Bool.true_and, hM, Int.toNat_natCast]
    have hofp : ofP p no = if ofB p no = true then ofL k u no else [] := by
      unfold ofP
      rw [e1, e2, Int.toNat_natCast, Int.toNat_natCast]
    have HFB : Hid _ := hofb
    have HFP : Hid (ofP p no = if ofB p no = true then ofL k u no else []) := hofp
    have HX : Hid (Box4 w1 P 111 (.int .i64 k) (.int .i64 u) x y) := by
      rw [e1, e2] at hx
      exact hx
    have HW : Hid (WordsIn k u (ofL k u no)) := ofL_words q1 q2 q3 q4 no
    clear hx hr1 hroot hs hM hofb hofp hb1
    go_wp2_with fail
    refine g1.mono ?_
    rintro e w2 ⟨rfl, hs2⟩
    have HB2 : Hid (Below w.heap.size w w2) := HB1.out.trans (hs2.mono HB1.out.size)
    have HX2 : Hid _ := HX.out.below hs2 HX.out.lt
    clear g1 hs2
    by_cases hin : 0 ≤ no ∧ no < 2 ^ (k * u)
    · rw [decide_eq_true hin] at HFB
      have HE : Hid (ofP p no = ofL k u no) := by
        show ofP p no = ofL k u no
        rw [HFP.out, HFB.out, if_pos rfl]
      have g2 := numbered_any q1 hk5 hm5 P x y no hin.1 hin.2 w2 (HT.out.below HB2.out HT.out.some) HX2.out
      unfold aggS at g2
      rw [decide_eq_true hin]
      have GL : Hid (∀ w3, Box4 w3 P 111 (.int .i64 k) (.int .i64 u) x y → Calls Tryd.prog 63 #[ptr P, aggS (ofL k u no)] w3 fun e w' => ∃ r, e = .returned r ∧ OwnUS w' w3.heap.size w'.heap.size r (ofL k u no) ∧ Below w3.heap.size w3 w') := fun w3 h3 => list_any HW.out P x y w3 h3
      unfold aggS at GL
      clear HFP HT hin HW
      generalize ofL k u no = L at *
      generalize padW L 0 = l0 at *
      generalize padW L 1 = l1 at *
      generalize padW L 2 = l2 at *
      generalize padW L 3 = l3 at *
      go_wp2_with fail
      refine g2.mono ?_
      rintro e w3 ⟨rfl, hs3⟩
      have HB3 : Hid (Below w.heap.size w w3) := HB2.out.trans (hs3.mono HB2.out.size)
      have g3 := GL.out w3 (HX2.out.below hs3 HX2.out.lt)
      clear g2 hs3 GL
      go_wp2_with fail
      refine g3.mono ?_
      rintro e w4 ⟨r, rfl, ho4, hs4⟩
      have HB4 : Hid (Below w.heap.size w w4) := HB3.out.trans (hs4.mono HB3.out.size)
      have HO4 : Hid (OwnUS w4 w.heap.size w4.heap.size r L) := OwnUS.lower ho4 HB3.out.size
      clear g3 hs4 ho4
      go_wp2_with fail
      go_ret2
      exact ⟨_, by rw [HFB.out]; rfl, by rw [HE.out]; exact HO4.out, HB4.out⟩
    · rw [decide_eq_false hin] at HFB
      have HE : Hid (ofP p no = []) := by
        show ofP p no = []
        rw [HFP.out, HFB.out, if_neg (by decide)]
      rw [decide_eq_false hin]
      clear HFP HT hin HW
      go_wp2_with fail
      go_ret2
      exact ⟨_, by rw [HFB.out]; rfl, by rw [HE.out]; exact ownUS_nil _ _ HB2.out.size, HB2.out⟩
  · have HFB : Hid (ofB p no = false) := by
      show ofB p no = false
      unfold ofB
      rw [hs, Bool.false_and]
    have HE : Hid (ofP p no = []) := by
      show ofP p no = []
      unfold ofP
      rw [HFB.out, if_neg (by decide)]
    clear hs hb1 HT
    go_wp2_with fail
    go_ret2
    exact ⟨_, by rw [HFB.out]; rfl, by rw [HE.out]; exact ownUS_nil _ _ HB1.out.size, HB1.out⟩
end Go.Proofs.YtjbolpfilgkbfaaDoor

namespace Go.Proofs.YtjbolpfilgkbfaaDoor
open Go Go.RowKit
open M
set_option linter.unusedVariables false

theorem i64_and_nat (a b : Nat) (ha : a < 4611686018427387904) (hb : b < 4611686018427387904) : bits .and .i64 (a : Int) (b : Int) = ((a &&& b : Nat) : Int) := by
  have hx : a &&& b < 2 ^ 62 := Nat.and_lt_two_pow a (by omega)
  show IntKind.i64.wrap ((BitVec.ofInt 64 (a : Int) &&& BitVec.ofInt 64 (b : Int)).toNat : Int) = _
  rw [BitVec.toNat_and, ofInt_u64 a (by omega), ofInt_u64 b (by omega)]
  exact IntWalk.i64_in _ ⟨by omega, by omega⟩
theorem and_two (k : Nat) (hk : k ≤ 5) (a : Int) (h0 : 0 ≤ a) (h1 : a ≤ 31) : bits .and .i64 a (2 ^ k - 1) = a % 2 ^ k := by
  obtain ⟨n, rfl⟩ := Int.eq_ofNat_of_zero_le h0
  have e0 : ((2 : Int) ^ k) = ((2 ^ k : Nat) : Int) := by simp
  have hp := Nat.two_pow_pos k
  have hk2 : (2 : Nat) ^ k ≤ 2 ^ 5 := Nat.pow_le_pow_right (by omega) hk
  have e1 : ((2 : Int) ^ k) - 1 = ((2 ^ k - 1 : Nat) : Int) := by rw [e0]; omega
  rw [e1, i64_and_nat n (2 ^ k - 1) (by omega) (by omega), Nat.and_two_pow_sub_one_eq_mod, e0]
  exact Int.natCast_emod n (2 ^ k)
set_option maxRecDepth 100000 in
set_option maxHeartbeats 2000000 in
theorem sMany_any (v : Value) (p : Pg) (m : Nat) (hM : p.1 * p.2.1 = (m : Int)) (hm : m ≤ 5) (w : World) (h : AtProg w v p) :
    Calls Tryd.prog 90 #[v] w fun e w' => e = .returned (.int .i64 (2 ^ m)) ∧ Below w.heap.size w w' := by
  obtain ⟨sa, sn, sc, ca, cn, cc, rfl⟩ := h.shape
  have HB0 : Hid (Below w.heap.size w (w.alloc (.cells #[.int .i64 p.1, .int .i64 p.2.1, .slice sa sn sc, .slice ca cn cc] 27))) := (Below.refl _ _).alloc (Nat.le_refl _) _
  obtain ⟨t1, t2⟩ := two_small hm
  have ew : wrap64 ((2 : Int) ^ m) = 2 ^ m := wrap64_in _ (by omega) (by omega)
  have e1 : IntKind.i64.wrap (p.1 * p.2.1) = (m : Int) := by rw [hM]; exact IntWalk.i64_in _ ⟨by omega, by omega⟩
  clear h hM
  go_enter Tryd.func90, Tryd.ntmps90
  go_wp2_with fail
  go_ret
  exact ⟨rfl, HB0.out⟩
set_option maxRecDepth 100000 in
set_option maxHeartbeats 2000000 in
theorem sOf_any (v : Value) (p : Pg) (k u : Nat) (hp1 : p.1 = k) (hp2 : p.2.1 = u) (hk1 : 1 ≤ k) (hk5 : k ≤ 5) (hu4 : u ≤ 4) (no : Int) (h0 : 0 ≤ no) (h1 : no ≤ 31) (w : World) (h : AtProg w v p) :
    Calls Tryd.prog 91 #[v, .int .i64 no] w fun e w' => ∃ r, e = .returned r ∧ OwnUS w' w.heap.size w'.heap.size r (ofL k u no) ∧ Below w.heap.size w w' := by
  obtain ⟨sa, sn, sc, ca, cn, cc, rfl⟩ := h.shape
  rw [hp1, hp2]
  have HB0 : Hid (Below w.heap.size w (w.alloc (.cells #[.int .i64 k, .int .i64 u, .slice sa sn sc, .slice ca cn cc] 27))) := (Below.refl _ _).alloc (Nat.le_refl _) _
  have x0 := box4_alloc w 27 (.int .i64 k) (.int .i64 u) (.slice sa sn sc) (.slice ca cn cc)
  have HXP : Hid (∀ w3, Below (w.heap.size + 1) (w.alloc (.cells #[.int .i64 k, .int .i64 u, .slice sa sn sc, .slice ca cn cc] 27)) w3 → Box4 w3 w.heap.size 27 (.int .i64 k) (.int .i64 u) (.slice sa sn sc) (.slice ca cn cc)) := fun w3 hb3 => x0.below hb3 (by omega)
  have HBX0 : Hid (Below (w.heap.size + 1) (w.alloc (.cells #[.int .i64 k, .int .i64 u, .slice sa sn sc, .slice ca cn cc] 27)) (w.alloc (.cells #[.int .i64 k, .int .i64 u, .slice sa sn sc, .slice ca cn cc] 27))) := Below.refl _ _
  have hw0z : (w.alloc (.cells #[.int .i64 k, .int .i64 u, .slice sa sn sc, .slice ca cn cc] 27)).heap.size = w.heap.size + 1 := World.size_alloc _ _
  have HSH : Hid (∀ j : Nat, 0 ≤ no / 2 ^ (j * k) ∧ no / 2 ^ (j * k) ≤ 31) := fun j => by
    have hp := two_pos (j * k)
    have h2 := Int.ediv_le_self (2 ^ (j * k)) h0
    exact ⟨Int.ediv_nonneg h0 (by omega), by omega⟩
  have HM : Hid (∀ j : Nat, j < 4 → IntKind.i64.wrap ((j : Int) * (k : Int)) = ((j * k : Nat) : Int)) := fun j hj => by
    have : j * k ≤ 15 := Nat.le_trans (Nat.mul_le_mul (by omega : j ≤ 3) hk5) (by omega)
    rw [← Int.natCast_mul]
    exact IntWalk.i64_in _ ⟨by omega, by omega⟩
  obtain ⟨t1, t2⟩ := two_small hk5
  have ew : wrap64 ((2 : Int) ^ k) = 2 ^ k := wrap64_in _ (by omega) (by omega)
  obtain ⟨i0, hi, hz0, hz1, hz2⟩ := info_parts infoU64
  obtain ⟨a0, a1, a2, a3⟩ := x0.cells
  have ah := x0.heap
  have al := x0.lt
  clear h x0 hp1 hp2
  go_enter Tryd.func91, Tryd.ntmps91
  go_wp2_with fail
  generalize w.alloc (.cells #[.int .i64 k, .int .i64 u, .slice sa sn sc, .slice ca cn cc] 27) = w0 at *
  go_loopw [5, 6] (fun r i wr => ∃ j : Nat, j ≤ u ∧ i = .int .i64 j ∧ Hid (OwnUS wr (w.heap.size + 1) wr.heap.size r (ofL k j no)) ∧ Hid (Below w.heap.size w wr) ∧ Hid (Below (w.heap.size + 1) w0 wr)) (fun _ i _ => u - (intOf i).toNat)
  case atStart => exact ⟨0, by omega, rfl, ownUS_nil _ _ (by omega), HB0, HBX0⟩
  case round =>
    obtain ⟨j, hj, rfl, HO, HB, HBX⟩ := hrel
    clear HB0 HBX0 a0 a1 a2 a3 ah al
    obtain ⟨a0, a1, a2, a3⟩ := (HXP.out _ HBX.out).cells
    have ah := (HXP.out _ HBX.out).heap
    have al := (HXP.out _ HBX.out).lt
    by_cases hlt : j < u
    · have hm := HM.out j (by omega)
      obtain ⟨s1, s2⟩ := HSH.out j
      have ea := and_two k hk5 (no / 2 ^ (j * k)) s1 s2
      have hw1 := ofW_in k no j
      have eo : no / 2 ^ (j * k) % 2 ^ k = ofW k no j := by rw [Nat.mul_comm j k]; rfl
      rw [eo] at ea
      obtain ⟨w1a, w1b⟩ := hw1
      have hkj : j * k ≤ 15 := Nat.le_trans (Nat.mul_le_mul (by omega : j ≤ 3) hk5) (by omega)
      have hq : (j : Int) * (k : Int) = ((j * k : Nat) : Int) := (Int.natCast_mul j k).symm
      clear hm
      generalize j * k = Q at *
      have HE : Hid (ofL k (j + 1) no = ofL k j no ++ [ofW k no j]) := ofL_succ k j no
      have own1 : (wr.alloc (.cells #[.int .u64 (ofW k no j)] 46)).ownsRow (w.heap.size + 1) 46 1 u5 (ofL k j no).length ((ofL k j no).map (Value.int .u64)) := World.ownsRow.alloc HO.out.1 _
      have hle : (ofL k j no).length ≤ 4 := by rw [ofL_len]; omega
      have hszx := HBX.out.size
      have hszw := HB.out.size
      have HOx : Hid (wr.ownsRow (w.heap.size + 1) 46 1 u5 (ofL k j no).length (cellsU (ofL k j no))) := HO.out.1
      have cellsN : ∀ (q : Nat) (z : Value), ([.int .u64 (ofW k no j)] : List Value)[q]? = some z → (wr.alloc (.cells #[.int .u64 (ofW k no j)] 46)).cell? ((⟨wr.heap.size, 0, none⟩ : Addr).add q) = some z := by
        intro q z hz
        match q, hz with
        | 0, hz => simp at hz; subst hz; simp [Addr.add]
      clear eo HXP HSH HM HO
      generalize ofL k j no = R at *
      go_wp2_with (at_builtin; refine wpList_append_own _ rfl _ _ 28 rfl (w.heap.size + 1) 46 i0 (.int .u64 0) 1 8 Tryd.underlying28 hi hz0 hz1 hz2 rfl (by decide) _ _ _ rfl own1 ⟨wr.heap.size, 0, none⟩ 1 1 [.int .u64 (ofW k no j)] rfl rfl cellsN (words_one [ofW k no j]) (by unfold maxLen; omega) (by omega) (by simp; omega) ?_)
      intro v7 w7 own7 grow7 _
      have HB7 : Hid (Below w.heap.size w w7) := (HB.out.alloc HB.out.size _).grown grow7 (by simp; omega) (fun k hk => by have := (HOx.out.lt k hk).1; omega)
      have HBX7 : Hid (Below (w.heap.size + 1) w0 w7) := (HBX.out.alloc (by omega) _).grown grow7 (by simp; omega) (fun k hk => (HOx.out.lt k hk).1)
      have HO7 : Hid (OwnUS w7 (w.heap.size + 1) w7.heap.size v7 (ofL k (j + 1) no)) := by
        show RowIn _ _ _ _ _ _ _ _
        rw [HE.out]
        unfold cellsU
        rw [List.map_append, List.length_append]
        exact rowIn_of own7
      clear own1 own7 grow7 cellsN
      go_wp2_with fail
      go_roundw
      case rel => exact ⟨j + 1, by omega, by go_num, HO7, HB7, HBX7⟩
      case measure => simp [intOf]; omega
    · obtain rfl : j = u := by omega
      clear HXP HSH HM
      go_wp2_with fail
      go_ret
      exact ⟨_, rfl, OwnUS.lower HO.out (Nat.le_succ _), HB.out⟩
end Go.Proofs.YtjbolpfilgkbfaaDoor

namespace Go.Proofs.YtjbolpfilgkbfaaDoor
open Go Go.RowKit
open M
set_option linter.unusedVariables false

set_option maxRecDepth 100000 in
set_option maxHeartbeats 2000000 in
theorem sStateOf_any (v : Value) (p : Pg) (no : Int) (hno : Fit no) (w : World) (h : AtProg w v p) :
    Calls Tryd.prog 44 #[v, .int .i64 no] w fun e w' => ∃ r0, e = .returned (.tuple #[r0, .bool (ofB p no)]) ∧ OwnUS w' w.heap.size w'.heap.size r0 (ofP p no) ∧ Below w.heap.size w w' := by
  have HS : Hid (∀ w1 : World, Below w.heap.size w w1 → Calls Tryd.prog 85 #[v] w1 fun e w' => e = .returned (.bool (smallP p)) ∧ Below w1.heap.size w1 w') := fun w1 hb => sSmall_any v p w1 (h.below hb)
  obtain ⟨hno0, hno1⟩ := hno
  have HAT : Hid (∀ w1 : World, Below w.heap.size w w1 → AtProg w1 v p) := fun w1 hb => h.below hb
  obtain ⟨sa, sn, sc, ca, cn, cc, rfl⟩ := h.shape
  have HB0 : Hid (Below w.heap.size w (w.alloc (.cells #[.int .i64 p.1, .int .i64 p.2.1, .slice sa sn sc, .slice ca cn cc] 27))) := (Below.refl _ _).alloc (Nat.le_refl _) _
  have x0 := box4_alloc w 27 (.int .i64 p.1) (.int .i64 p.2.1) (.slice sa sn sc) (.slice ca cn cc)
  have HX0 : Hid _ := x0
  have hofp0 : ofP p no = if ofB p no = true then ofL p.1.toNat p.2.1.toNat no else [] := rfl
  have hofb0 : ofB p no = (smallP p && decide (0 ≤ no ∧ no < 2 ^ (p.1 * p.2.1).toNat)) := rfl
  clear h x0
  cases hsm : smallP p with
  | false =>
    have HFB : Hid (ofB p no = false) := by
      show ofB p no = false
      rw [hofb0, hsm, Bool.false_and]
    have HE : Hid (ofP p no = []) := by
      show ofP p no = []
      rw [hofp0, HFB.out, if_neg (by decide)]
    rw [hsm] at HS
    clear HAT HX0 hofp0 hofb0 hsm
    generalize p.1 = pw at *
    generalize p.2.1 = pv at *
    go_enter Tryd.func44, Tryd.ntmps44
    go_wp2_with fail
    refine (HS.out _ HB0.out).mono ?_
    rintro e w1 ⟨rfl, hs⟩
    have HB1 : Hid (Below w.heap.size w w1) := Below.step HB0.out HB0.out.size hs
    clear hs
    go_wp2_with fail
    go_ret2
    exact ⟨_, by rw [HFB.out]; rfl, by rw [HE.out]; exact ownUS_nil _ _ HB1.out.size, HB1.out⟩
  | true =>
    obtain ⟨k, u, e1, e2, q1, q2, q3, q4, hk5, hm5, hM⟩ := small_nats hsm
    obtain ⟨t1, t2⟩ := two_small hm5
    have hofb : ofB p no = decide (0 ≤ no ∧ no ≤ 2 ^ (k * u) - 1) := by
      rw [hofb0, hsm, Bool.true_and, hM, Int.toNat_natCast]
      by_cases hh : 0 ≤ no ∧ no < 2 ^ (k * u)
      · rw [decide_eq_true hh, decide_eq_true ⟨hh.1, by omega⟩]
      · rw [decide_eq_false hh, decide_eq_false (by omega)]
    have hofp : ofP p no = if ofB p no = true then ofL k u no else [] := by
      rw [hofp0, e1, e2, Int.toNat_natCast, Int.toNat_natCast]
    have HMY : Hid (∀ w1 : World, Below w.heap.size w w1 → Calls Tryd.prog 90 #[.agg #[.int .i64 p.1, .int .i64 p.2.1, .slice sa sn sc, .slice ca cn cc]] w1 fun e w' => e = .returned (.int .i64 (2 ^ (k * u))) ∧ Below w1.heap.size w1 w') := fun w1 hb => sMany_any _ p (k * u) hM hm5 w1 (HAT.out w1 hb)
    have HOF : Hid (0 ≤ no → no ≤ 31 → ∀ w1 : World, Below w.heap.size w w1 → Calls Tryd.prog 91 #[.agg #[.int .i64 p.1, .int .i64 p.2.1, .slice sa sn sc, .slice ca cn cc], .int .i64 no] w1 fun e w' => ∃ r, e = .returned r ∧ OwnUS w' w1.heap.size w'.heap.size r (ofL k u no) ∧ Below w1.heap.size w1 w') := fun h0 h1 w1 hb => sOf_any _ p k u e1 e2 q1 hk5 q4 no h0 h1 w1 (HAT.out w1 hb)
    rw [hsm] at HS
    have HFB : Hid _ := hofb
    have HFP : Hid (ofP p no = if ofB p no = true then ofL k u no else []) := hofp
    clear hofb hofp hofb0 hofp0 HAT hsm hM e1 e2
    generalize ofL k u no = L at *
    generalize (2 : Int) ^ (k * u) = MM at *
    generalize p.1 = pw at *
    generalize p.2.1 = pv at *
    go_enter Tryd.func44, Tryd.ntmps44
    go_wp2_with fail
    refine (HS.out _ HB0.out).mono ?_
    generalize w.alloc (.cells #[.int .i64 pw, .int .i64 pv, .slice sa sn sc, .slice ca cn cc] 27) = w0 at *
    rintro e w1 ⟨rfl, hs⟩
    have HB1 : Hid (Below w.heap.size w w1) := Below.step HB0.out HB0.out.size hs
    have x1 := HX0.out.below hs HX0.out.lt
    have HX1 : Hid _ := x1
    obtain ⟨a0, a1, a2, a3⟩ := x1.cells
    have ah := x1.heap
    have al := x1.lt
    clear hs x1 HX0
    go_wp2_with fail
    refine (HMY.out _ HB1.out).mono ?_
    rintro e w2 ⟨rfl, hs⟩
    have HB2 : Hid (Below w.heap.size w w2) := HB1.out.trans (hs.mono HB1.out.size)
    have x2 := HX1.out.below hs HX1.out.lt
    clear a0 a1 a2 a3 ah al
    obtain ⟨a0, a1, a2, a3⟩ := x2.cells
    have ah := x2.heap
    have al := x2.lt
    clear hs x2 HX1
    have g := l1In_any no 0 (MM - 1) w2
    by_cases hin : 0 ≤ no ∧ no ≤ MM - 1
    · rw [decide_eq_true hin] at g HFB
      have HE : Hid (ofP p no = L) := by
        show ofP p no = L
        rw [HFP.out, HFB.out, if_pos rfl]
      go_wp2_with fail
      refine g.mono ?_
      rintro e w3 ⟨rfl, rfl⟩
      clear g
      go_wp2_with fail
      refine (HOF.out hin.1 (by omega) _ HB2.out).mono ?_
      rintro e w4 ⟨r, rfl, ho, hs⟩
      have HB4 : Hid (Below w.heap.size w w4) := HB2.out.trans (hs.mono HB2.out.size)
      have HO4 : Hid (OwnUS w4 w.heap.size w4.heap.size r L) := OwnUS.lower ho HB2.out.size
      clear ho hs a0 a1 a2 a3 ah al
      go_wp2_with fail
      go_ret2
      exact ⟨_, by rw [HFB.out]; rfl, by rw [HE.out]; exact HO4.out, HB4.out⟩
    · rw [decide_eq_false hin] at g HFB
      have HE : Hid (ofP p no = []) := by
        show ofP p no = []
        rw [HFP.out, HFB.out, if_neg (by decide)]
      go_wp2_with fail
      refine g.mono ?_
      rintro e w3 ⟨rfl, rfl⟩
      clear g
      go_wp2_with fail
      go_ret2
      exact ⟨_, by rw [HFB.out]; rfl, by rw [HE.out]; exact ownUS_nil _ _ HB2.out.size, HB2.out⟩
theorem ofP_ok (p : Pg) (no : Int) : WsOk (ofP p no) := by
  unfold ofP
  split
  · rename_i h
    unfold ofB at h
    rw [Bool.and_eq_true] at h
    obtain ⟨k, u, e1, e2, q1, q2, q3, q4, _⟩ := small_nats h.1
    rw [e1, e2, Int.toNat_natCast, Int.toNat_natCast]
    refine ⟨fun s hs => ?_, by rw [ofL_len]; omega⟩
    obtain ⟨a, b⟩ := ofL_mem s hs
    have := pw_le k q2
    rw [pw_int] at b
    omega
  · exact ⟨fun s hs => by simp at hs, by simp⟩
end Go.Proofs.YtjbolpfilgkbfaaDoor
