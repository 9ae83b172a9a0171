/-
  The program's Enabled.
  The state of a number: plain mathematics.
  The program's count, hasState, hasCommand, smallRootsOf.
  The program's numbered.
  The program's list: a state as a list of its own.
  The program's StateOf.
  The model's l7Many, l7Of.
  The model's StateOf.
-/
import Derived.Test.YtjbolpfilgkbfaaDoorKP83
import Derived.Test.YtjbolpfilgkbfaaDoorOwn5
import Derived.Test.YtjbolpfilgkbfaaDoorKP81
import Derived.Test.YtjbolpfilgkbfaaDoorKP82
namespace Go.Proofs.YtjbolpfilgkbfaaDoor
open Go Go.RowKit
open M
set_option linter.unusedVariables false

set_option maxRecDepth 100000 in
set_option maxHeartbeats 2000000 in
theorem iEnabled_any (v sv : Value) (p : Pg) (ok : PgOk p) (st : List Int) (hst : WsOk st) (w : World) (hT : Tab w) (h : AtProg w v p) (hs : StAt w sv st) :
    Calls Tryd.prog 21 #[v, sv] w fun e w' => ∃ r0, e = .returned (.tuple #[r0, .bool (goodS p st)]) ∧ OwnIS w' w.heap.size w'.heap.size r0 (enP p st) ∧ Below w.heap.size w w' := by
  obtain ⟨sa, sn, sc, ca, cn, cc, rfl⟩ := h.shape
  have HB0 : Hid (Below w.heap.size w (w.alloc (.cells #[.int .i64 p.1, .int .i64 p.2.1, .slice sa sn sc, .slice ca cn cc] 27))) := (Below.refl _ _).alloc (Nat.le_refl _) _
  have g := rootsWith_any _ sv p ok st hst.1 hst.2 _ (hT.below HB0.out hT.some) (h.below HB0.out) (hs.below HB0.out)
  obtain ⟨ua, uc, rfl⟩ := hs.shape
  have h4 : (Tryd.prog.info? 90).map (·.size) = some 4 := by kernel_rfl
  have HT : Hid (Tab w) := hT
  have HOK : Hid (PgOk p) := ok
  have HST : Hid (WsOk st) := hst
  clear h hs hT ok hst
  go_enter Tryd.func21, Tryd.ntmps21
  go_wp2_with fail
  refine g.mono ?_
  generalize w.alloc (.cells #[.int .i64 p.1, .int .i64 p.2.1, .slice sa sn sc, .slice ca cn cc] 27) = w0 at *
  rintro e w1 ⟨ho, hb1⟩
  have HB1 : Hid (Below w.heap.size w w1) := Below.step HB0.out HB0.out.size hb1
  clear g
  rcases ho with ⟨hg, P, rfl, hroot⟩ | ⟨hg, rfl⟩
  · obtain ⟨hgp, k, vars, hp1, hp2, hw⟩ := goodS_open (fun s hs => (HST.out.1 s hs).1) hg
    have hb2 : Below w1.heap.size w1 (w1.alloc (.cells #[.int .u64 (padW st 0), .int .u64 (padW st 1), .int .u64 (padW st 2), .int .u64 (padW st 3)] 90)) := (Below.refl _ _).alloc (Nat.le_refl _) _
    have HB2 : Hid _ := HB1.out.trans (hb2.mono HB1.out.size)
    have hr2 := Rooted.old hroot hb2
    have y2 := box4_alloc w1 90 (.int .u64 (padW st 0)) (.int .u64 (padW st 1)) (.int .u64 (padW st 2)) (.int .u64 (padW st 3))
    have ht2 := HT.out.below HB2.out HT.out.some
    have HG : Hid (goodS p st = true) := hg
    obtain ⟨_, _, _, _, _, hc1, hc6, _⟩ := goodP_parts hgp
    have gs := enabledIn_any hw p hp1 hp2 (fun c hc => ns_pos (HOK.out.2.2.2.2 c hc).1) hc1 hc6 P _ ht2 hr2
    unfold aggS at *
    obtain ⟨q0, q1, q2, q3⟩ := y2.cells
    have qh := y2.heap
    have ql := y2.lt
    clear hroot hb1 hb2 hr2 y2 ht2 hg hgp hw hp1 hp2 HT HOK HST hc1 hc6
    have HE : Hid (enP p st = enF p.1 st p.2.2.2 0) := by
      show enP p st = _
      unfold enP
      rw [if_pos HG.out]
    generalize enF p.1 st p.2.2.2 0 = V at *
    generalize padW st 0 = x0 at *
    generalize padW st 1 = x1 at *
    generalize padW st 2 = x2 at *
    generalize padW st 3 = x3 at *
    go_wp2_with fail
    refine gs.mono ?_
    rintro e w3 ⟨u, rfl, ho, hs3⟩
    have HB3 : Hid (Below w.heap.size w w3) := HB2.out.trans (hs3.mono HB2.out.size)
    have HO : Hid (OwnIS w3 w.heap.size w3.heap.size u V) := rowIn_of (own_weaken ho HB2.out.size)
    clear gs hs3 ho
    go_wp2_with fail
    go_ret2
    exact ⟨_, by rw [HG.out]; rfl, by rw [HE.out]; exact HO.out, HB3.out⟩
  · have HE : Hid (enP p st = []) := by
      show enP p st = _
      unfold enP
      rw [if_neg (by rw [hg]; decide)]
    have HG : Hid (goodS p st = false) := hg
    clear hg hb1 HT HOK HST
    go_wp2_with fail
    go_ret2
    exact ⟨_, by rw [HG.out]; rfl, by rw [HE.out]; exact ownIS_nil _ _ (HB1.out.alloc HB1.out.size _).size, HB1.out.alloc HB1.out.size _⟩
end Go.Proofs.YtjbolpfilgkbfaaDoor

namespace Go.Proofs.YtjbolpfilgkbfaaDoor
open Go Go.RowKit
open M
set_option linter.unusedVariables false

/-- word v of the state of a number -/
def ofW (k : Nat) (no : Int) (v : Nat) : Int := no / 2 ^ (k * v) % 2 ^ k
/-- the state of a number -/
def ofL (k vars : Nat) (no : Int) : List Int := (List.range vars).map (ofW k no)
theorem ofL_len (k vars : Nat) (no : Int) : (ofL k vars no).length = vars := by simp [ofL]
theorem ofL_succ (k j : Nat) (no : Int) : ofL k (j + 1) no = ofL k j no ++ [ofW k no j] := by simp [ofL, List.range_succ]
theorem ofW_in (k : Nat) (no : Int) (v : Nat) : 0 ≤ ofW k no v ∧ ofW k no v < 2 ^ k := ⟨Int.emod_nonneg _ (by have := two_pos k; omega), Int.emod_lt_of_pos _ (two_pos k)⟩
theorem ofL_mem {k vars : Nat} {no : Int} : ∀ s ∈ ofL k vars no, 0 ≤ s ∧ s < 2 ^ k := by
  intro s hs
  obtain ⟨v, _, rfl⟩ := List.mem_map.1 hs
  exact ofW_in k no v
theorem two_mono {a b : Nat} (h : a ≤ b) : (2 : Int) ^ a ≤ 2 ^ b := by
  rw [pw_int, pw_int]
  exact pw_mono _ _ h
/-- behind its last word a number is nothing -/
theorem ofW_high {k vars v : Nat} {no : Int} (h0 : 0 ≤ no) (h1 : no < 2 ^ (k * vars)) (hv : vars ≤ v) : ofW k no v = 0 := by
  have hm : (2 : Int) ^ (k * vars) ≤ 2 ^ (k * v) := two_mono (Nat.mul_le_mul_left k hv)
  unfold ofW
  rw [Int.ediv_eq_zero_of_lt h0 (by omega)]
  simp
theorem padW_ofL {k vars : Nat} {no : Int} (h0 : 0 ≤ no) (h1 : no < 2 ^ (k * vars)) (v : Nat) : padW (ofL k vars no) v = ofW k no v := by
  unfold padW
  rw [List.getD_eq_getElem?_getD]
  by_cases hv : v < vars
  · simp [ofL, hv]
  · rw [ofW_high h0 h1 (by omega), List.getElem?_eq_none (by rw [ofL_len]; omega)]
    rfl
theorem shr_two (a : Int) (n : Nat) : a >>> n = a / 2 ^ n := by
  rw [Int.shiftRight_eq_div_pow]
  simp
end Go.Proofs.YtjbolpfilgkbfaaDoor

namespace Go.Proofs.YtjbolpfilgkbfaaDoor
open Go Go.RowKit
open M
set_option linter.unusedVariables false

theorem two_small {m : Nat} (h : m ≤ 5) : 1 ≤ (2 : Int) ^ m ∧ (2 : Int) ^ m ≤ 32 := by
  have h1 := two_pos m
  have h2 := two_mono h
  have h3 : (2 : Int) ^ 5 = 32 := by decide
  omega
set_option maxRecDepth 100000 in
theorem count_any (P m : Nat) (pw pv : Int) (x y : Value) (w : World) (h : Box4 w P 111 (.int .i64 pw) (.int .i64 pv) x y) (hM : pw * pv = (m : Int)) (hm : m ≤ 5) :
    Calls Tryd.prog 117 #[ptr P] w fun e w' => e = .returned (.int .i64 (2 ^ m)) ∧ Below w.heap.size w w' := by
  have g := bits_any P pw pv m x y w h hM (by omega) (by omega)
  obtain ⟨t1, t2⟩ := two_small hm
  have ew : wrap64 ((2 : Int) ^ m) = 2 ^ m := wrap64_in _ (by omega) (by omega)
  clear h hM
  go_enter Tryd.func117, Tryd.ntmps117
  go_wp2_with fail
  refine g.mono ?_
  rintro e w1 ⟨rfl, n, hn⟩
  have HB : Hid (Below w.heap.size w w1) := by rw [hn]; exact below_drew7 _ _ _
  clear hn g
  go_wp2_with fail
  go_ret
  exact ⟨rfl, HB.out⟩
set_option maxRecDepth 100000 in
theorem hasState_any (P m : Nat) (pw pv : Int) (x y : Value) (no : Int) (w : World) (h : Box4 w P 111 (.int .i64 pw) (.int .i64 pv) x y) (hM : pw * pv = (m : Int)) (hm : m ≤ 5) :
    Calls Tryd.prog 88 #[ptr P, .int .i64 no] w fun e w' => e = .returned (.bool (decide (0 ≤ no ∧ no < 2 ^ m))) ∧ Below w.heap.size w w' := by
  have g := count_any P m pw pv x y w h hM hm
  obtain ⟨t1, t2⟩ := two_small hm
  clear h hM
  by_cases h0 : 0 ≤ no
  · have he : decide (0 ≤ no ∧ no < 2 ^ m) = decide (no < 2 ^ m) := by simp [h0]
    rw [he]
    clear he
    generalize (2 : Int) ^ m = M at *
    go_enter Tryd.func88, Tryd.ntmps88
    go_wp2_with fail
    refine g.mono ?_
    rintro e w1 ⟨rfl, hs⟩
    have HB : Hid _ := hs
    clear hs g
    go_wp2_with fail
    go_ret
    exact ⟨rfl, HB.out⟩
  · have he : decide (0 ≤ no ∧ no < 2 ^ m) = false := decide_eq_false (by omega)
    rw [he]
    clear he g
    go_enter Tryd.func88, Tryd.ntmps88
    go_wp2_with fail
    go_ret
    exact ⟨rfl, Below.refl _ _⟩
set_option maxRecDepth 100000 in
theorem hasCommand_any (P : Nat) (x y z : Value) (a : Option Addr) (n c : Nat) (k : Int) (w : World) (h : Box4 w P 111 x y z (.slice a n c)) :
    Calls Tryd.prog 70 #[ptr P, .int .i64 k] w fun e w' => e = .returned (.bool (decide (0 ≤ k ∧ k < n))) ∧ Below w.heap.size w w' := by
  obtain ⟨p0, p1, p2, p3⟩ := h.cells
  have ph := h.heap
  have pl := h.lt
  clear h
  by_cases h0 : 0 ≤ k
  · have he : decide (0 ≤ k ∧ k < (n : Int)) = decide (k < (n : Int)) := by simp [h0]
    rw [he]
    clear he
    go_enter Tryd.func70, Tryd.ntmps70
    go_wp2_with fail
    go_ret
    exact ⟨rfl, Below.refl _ _⟩
  · have he : decide (0 ≤ k ∧ k < (n : Int)) = false := decide_eq_false (by omega)
    rw [he]
    clear he
    go_enter Tryd.func70, Tryd.ntmps70
    go_wp2_with fail
    go_ret
    exact ⟨rfl, Below.refl _ _⟩
/-- what smallRootsOf answers -/
def SROut (w : World) (p : Pg) (e : Ending) (w' : World) : Prop :=
  ((smallP p = true ∧ ∃ P : Nat, e = .returned (ptr P) ∧ Rooted w' (fun k => w.heap.size ≤ k ∧ k < w'.heap.size) p P) ∨ (smallP p = false ∧ e = .returned (.pointer none))) ∧ Below w.heap.size w w'
set_option maxRecDepth 100000 in
set_option maxHeartbeats 2000000 in
theorem smallRootsOf_any (v : Value) (p : Pg) (ok : PgOk p) (w : World) (hT : Tab w) (h : AtProg w v p) :
    Calls Tryd.prog 87 #[v] w (SROut w p) := by
  obtain ⟨sa, sn, sc, ca, cn, cc, rfl⟩ := h.shape
  have HB0 : Hid (Below w.heap.size w (w.alloc (.cells #[.int .i64 p.1, .int .i64 p.2.1, .slice sa sn sc, .slice ca cn cc] 27))) := (Below.refl _ _).alloc (Nat.le_refl _) _
  have hz0 : (w.alloc (.cells #[.int .i64 p.1, .int .i64 p.2.1, .slice sa sn sc, .slice ca cn cc] 27)).heap.size = w.heap.size + 1 := World.size_alloc _ _
  have g := rootsOf_full _ p ok _ (hT.below HB0.out hT.some) (h.below HB0.out)
  clear h hT ok
  go_enter Tryd.func87, Tryd.ntmps87
  go_wp2_with fail
  refine g.mono ?_
  generalize w.alloc (.cells #[.int .i64 p.1, .int .i64 p.2.1, .slice sa sn sc, .slice ca cn cc] 27) = w0 at *
  rintro e w1 ⟨ho, hb1⟩
  have HB1 : Hid (Below w.heap.size w w1) := Below.step HB0.out HB0.out.size hb1
  clear g
  rcases ho with ⟨hg, P, rfl, hroot⟩ | ⟨hg, rfl⟩
  · obtain ⟨k, u, e1, e2, q1, q2, q3, q4⟩ := goodP_nats hg
    have hsm : smallP p = decide (p.1 * p.2.1 ≤ 5) := by
      unfold smallP
      rw [hg, Bool.true_and]
    have HR : Hid (Rooted w1 (fun i => w0.heap.size ≤ i ∧ i < w1.heap.size) p P) := hroot
    obtain ⟨_, x, y, hx, _, _⟩ := hroot
    have hm0 : 0 ≤ p.1 * p.2.1 := Int.mul_nonneg (by omega) (by omega)
    have hm1 : p.1 * p.2.1 ≤ 64 * 4 := Int.mul_le_mul (by omega) (by omega) (by omega) (by omega)
    have gs := small_any P p.1 p.2.1 _ x y w1 hx rfl hm0 (by omega)
    have HSM : Hid (smallP p = decide (p.1 * p.2.1 ≤ 5)) := hsm
    have hz1 := hb1.size
    clear hx hg hsm hb1
    generalize hM : p.1 * p.2.1 = M at *
    go_wp2_with fail
    refine gs.mono ?_
    rintro e w2 ⟨rfl, hs2⟩
    have HB2 : Hid (Below w.heap.size w w2) := HB1.out.trans (hs2.mono HB1.out.size)
    have hz2 := hs2.size
    have HR2 : Hid (Rooted w2 (fun i => w.heap.size ≤ i ∧ i < w2.heap.size) p P) := Rooted.frame HR.out hs2.size (fun i hi => ⟨by omega, by omega⟩) (fun i hi => hs2.block i hi.2)
    clear gs hs2 HR
    by_cases h5 : M ≤ 5
    · rw [decide_eq_true h5] at HSM ⊢
      go_wp2_with fail
      go_ret
      exact ⟨Or.inl ⟨HSM.out, P, rfl, HR2.out⟩, HB2.out⟩
    · rw [decide_eq_false h5] at HSM ⊢
      go_wp2_with fail
      go_ret
      exact ⟨Or.inr ⟨HSM.out, rfl⟩, HB2.out⟩
  · have HSM : Hid (smallP p = false) := by
      show smallP p = false
      unfold smallP
      rw [hg, Bool.false_and]
    clear hg hb1
    go_wp2_with fail
    go_ret
    exact ⟨Or.inr ⟨HSM.out, rfl⟩, HB1.out⟩
end Go.Proofs.YtjbolpfilgkbfaaDoor

namespace Go.Proofs.YtjbolpfilgkbfaaDoor
open Go Go.RowKit
open M
set_option linter.unusedVariables false

/-- a word, laid once its place has been met -/
def shJ (k : Nat) (no : Int) (i j : Nat) : Value := if i < j then .int .u64 (no / 2 ^ (k * i)) else .int .u64 0
theorem results_c4 {fn : Func} {p : Tmp} (h : fn.results = #[.cell p 90]) (tmps : Array Value) (w : World) (g : Nat) (t : TypeId) (cs : Array Value) (fr : Nat × Nat)
    (hp : tmps.getD p undef = .pointer (some ⟨g, 0, none⟩)) (hg : w.heap[g]? = some (.cells cs t fr)) (hi : cs.size = 4 := by rfl) :
    (results fn tmps).run Tryd.prog w = .ok (.agg cs) w := by
  have hp' : tmps[p]?.getD undef = .pointer (some ⟨g, 0, none⟩) := by simpa using hp
  have h4 : (Tryd.prog.info? 90).map (·.size) = some 4 := by kernel_rfl
  simp [results, h, hp', asAddr, run_loadVar_row w g t 90 cs fr _ hg Tryd.underlying90 rfl (by rw [hi]; exact h4)]
set_option maxRecDepth 100000 in
set_option maxHeartbeats 4000000 in
theorem numbered_any {k vars : Nat} (hk1 : 1 ≤ k) (hk5 : k ≤ 5) (hm5 : k * vars ≤ 5) (P : Nat) (u y : Value) (no : Int) (h0 : 0 ≤ no) (h1 : no < 2 ^ (k * vars)) (w : World) (hT : Tab w) (hPx : Box4 w P 111 (.int .i64 k) (.int .i64 vars) u y) :
    Calls Tryd.prog 89 #[ptr P, .int .i64 no] w fun e w' => e = .returned (aggS (ofL k vars no)) ∧ Below w.heap.size w w' := by
  have hno : no < 32 := Int.lt_of_lt_of_le h1 (by have := two_mono hm5; omega)
  have hb2 : Below w.heap.size w ((w.alloc (.cells #[.int .u64 0, .int .u64 0, .int .u64 0, .int .u64 0] 90)).alloc (.cells #[.int .u64 0, .int .u64 0, .int .u64 0, .int .u64 0] 90)) := ((Below.refl _ _).alloc (Nat.le_refl _) _).alloc (by rw [World.size_alloc]; omega) _
  have z0 := (box4_alloc w 90 (.int .u64 0) (.int .u64 0) (.int .u64 0) (.int .u64 0)).alloc (.cells #[.int .u64 0, .int .u64 0, .int .u64 0, .int .u64 0] 90)
  have x0 := box4_alloc (w.alloc (.cells #[.int .u64 0, .int .u64 0, .int .u64 0, .int .u64 0] 90)) 90 (.int .u64 0) (.int .u64 0) (.int .u64 0) (.int .u64 0)
  simp only [World.size_alloc] at x0
  have HX0 : Hid (Box4 ((w.alloc (.cells #[.int .u64 0, .int .u64 0, .int .u64 0, .int .u64 0] 90)).alloc (.cells #[.int .u64 0, .int .u64 0, .int .u64 0, .int .u64 0] 90)) (w.heap.size + 1) 90 (shJ k no 0 0) (shJ k no 1 0) (shJ k no 2 0) (shJ k no 3 0)) := x0
  have HZ0 : Hid (Box4 ((w.alloc (.cells #[.int .u64 0, .int .u64 0, .int .u64 0, .int .u64 0] 90)).alloc (.cells #[.int .u64 0, .int .u64 0, .int .u64 0, .int .u64 0] 90)) w.heap.size 90 (.int .u64 0) (.int .u64 0) (.int .u64 0) (.int .u64 0)) := z0
  have HB0 : Hid _ := hb2
  have HP : Hid (∀ w1 : World, Below w.heap.size w w1 → Box4 w1 P 111 (.int .i64 k) (.int .i64 vars) u y) := fun w1 hb => hPx.below hb hPx.lt
  have HSH : Hid (∀ j : Nat, 0 ≤ no / 2 ^ (k * j) ∧ no / 2 ^ (k * j) ≤ 31) := fun j => by
    have hp := two_pos (k * j)
    have h2 := Int.ediv_le_self (2 ^ (k * j)) h0
    exact ⟨Int.ediv_nonneg h0 (by omega), by omega⟩
  have HM : Hid (∀ j : Nat, j < 4 → IntKind.i64.wrap ((k : Int) * (j : Int)) = ((k * j : Nat) : Int)) := fun j hj => by
    have : k * j ≤ 15 := Nat.le_trans (Nat.mul_le_mul hk5 (by omega : j ≤ 3)) (by omega)
    rw [← Int.natCast_mul]
    exact IntWalk.i64_in _ ⟨by omega, by omega⟩
  have hns : no / 2 ^ (k * 0) = no := by simp
  clear z0 x0 hb2 hPx
  go_enter Tryd.func89, Tryd.ntmps89
  go_wp2_with fail
  go_loopw [7] (fun i wr => ∃ j : Nat, j ≤ 4 ∧ i = .int .i64 j ∧ Hid (Box4 wr (w.heap.size + 1) 90 (shJ k no 0 j) (shJ k no 1 j) (shJ k no 2 j) (shJ k no 3 j)) ∧ Hid (Box4 wr w.heap.size 90 (.int .u64 0) (.int .u64 0) (.int .u64 0) (.int .u64 0)) ∧ Hid (Below w.heap.size w wr)) (fun i _ => 4 - (intOf i).toNat)
  case atStart => exact ⟨0, by omega, rfl, HX0, HZ0, HB0⟩
  case round =>
    obtain ⟨j, hj, rfl, HX, HZ, HB⟩ := hrel
    clear HX0 HZ0 HB0
    by_cases hlt : j < 4
    · rcases (show j = 0 ∨ j = 1 ∨ j = 2 ∨ j = 3 by omega) with rfl | rfl | rfl | rfl
      · have e1 : 0 ≤ no ∧ no ≤ 31 := ⟨h0, by omega⟩
        have HX2 : Hid (Box4 (wr.setCell ⟨w.heap.size + 1, 0, none⟩ (.int .u64 no)) (w.heap.size + 1) 90 (shJ k no 0 1) (shJ k no 1 1) (shJ k no 2 1) (shJ k no 3 1)) := by
          have h := HX.out.set0 (.int .u64 no)
          simp [shJ] at h ⊢
          exact h
        have HZ2 : Hid _ := HZ.out.other (o := 0) (b' := w.heap.size + 1) (by omega) (.int .u64 no)
        have HB2 : Hid (Below w.heap.size w (wr.setCell ⟨w.heap.size + 1, 0, none⟩ (.int .u64 no))) := HB.out.setCell (Nat.le_succ _) _
        have hf := HX.out.frozen 0
        obtain ⟨c0, c1, c2, c3⟩ := HX.out.cells
        have ch := HX.out.heap
        have cl := HX.out.lt
        obtain ⟨p0, p1, p2, p3⟩ := (HP.out wr HB.out).cells
        have ph := (HP.out wr HB.out).heap
        have pl := (HP.out wr HB.out).lt
        have hm := HM.out 0 (by omega)
        clear HX HZ HB hT
        go_wp2_with fail
        go_roundw
        case rel => exact ⟨1, by omega, by go_num, HX2, HZ2, HB2⟩
        case measure => simp [intOf]
      · have e1 : 0 ≤ no / 2 ^ k ∧ no / 2 ^ k ≤ 31 := by
          have := HSH.out 1
          rwa [Nat.mul_one] at this
        have HX2 : Hid (Box4 (wr.setCell ⟨w.heap.size + 1, 1, none⟩ (.int .u64 (no / 2 ^ k))) (w.heap.size + 1) 90 (shJ k no 0 2) (shJ k no 1 2) (shJ k no 2 2) (shJ k no 3 2)) := by
          have h := HX.out.set1 (.int .u64 (no / 2 ^ k))
          simp [shJ] at h ⊢
          exact h
        have HZ2 : Hid _ := HZ.out.other (o := 1) (b' := w.heap.size + 1) (by omega) (.int .u64 (no / 2 ^ k))
        have HB2 : Hid (Below w.heap.size w (wr.setCell ⟨w.heap.size + 1, 1, none⟩ (.int .u64 (no / 2 ^ k)))) := HB.out.setCell (Nat.le_succ _) _
        have hf := HX.out.frozen 1
        obtain ⟨c0, c1, c2, c3⟩ := HX.out.cells
        have ch := HX.out.heap
        have cl := HX.out.lt
        obtain ⟨p0, p1, p2, p3⟩ := (HP.out wr HB.out).cells
        have ph := (HP.out wr HB.out).heap
        have pl := (HP.out wr HB.out).lt
        have hm := HM.out 1 (by omega)
        clear HX HZ HB hT
        go_wp2_with fail
        go_roundw
        case rel => exact ⟨2, by omega, by go_num, HX2, HZ2, HB2⟩
        case measure => simp [intOf]
      · have e1 := HSH.out 2
        have HX2 : Hid (Box4 (wr.setCell ⟨w.heap.size + 1, 2, none⟩ (.int .u64 (no / 2 ^ (k * 2)))) (w.heap.size + 1) 90 (shJ k no 0 3) (shJ k no 1 3) (shJ k no 2 3) (shJ k no 3 3)) := by
          have h := HX.out.set2 (.int .u64 (no / 2 ^ (k * 2)))
          simp only [shJ] at h ⊢
          exact h
        have HZ2 : Hid _ := HZ.out.other (o := 2) (b' := w.heap.size + 1) (by omega) (.int .u64 (no / 2 ^ (k * 2)))
        have HB2 : Hid (Below w.heap.size w (wr.setCell ⟨w.heap.size + 1, 2, none⟩ (.int .u64 (no / 2 ^ (k * 2))))) := HB.out.setCell (Nat.le_succ _) _
        have hf := HX.out.frozen 2
        obtain ⟨c0, c1, c2, c3⟩ := HX.out.cells
        have ch := HX.out.heap
        have cl := HX.out.lt
        obtain ⟨p0, p1, p2, p3⟩ := (HP.out wr HB.out).cells
        have ph := (HP.out wr HB.out).heap
        have pl := (HP.out wr HB.out).lt
        have hm := HM.out 2 (by omega)
        clear HX HZ HB hT
        go_wp2_with fail
        go_roundw
        case rel => exact ⟨3, by omega, by go_num, HX2, HZ2, HB2⟩
        case measure => simp [intOf]
      · have e1 := HSH.out 3
        have HX2 : Hid (Box4 (wr.setCell ⟨w.heap.size + 1, 3, none⟩ (.int .u64 (no / 2 ^ (k * 3)))) (w.heap.size + 1) 90 (shJ k no 0 4) (shJ k no 1 4) (shJ k no 2 4) (shJ k no 3 4)) := by
          have h := HX.out.set3 (.int .u64 (no / 2 ^ (k * 3)))
          simp only [shJ] at h ⊢
          exact h
        have HZ2 : Hid _ := HZ.out.other (o := 3) (b' := w.heap.size + 1) (by omega) (.int .u64 (no / 2 ^ (k * 3)))
        have HB2 : Hid (Below w.heap.size w (wr.setCell ⟨w.heap.size + 1, 3, none⟩ (.int .u64 (no / 2 ^ (k * 3))))) := HB.out.setCell (Nat.le_succ _) _
        have hf := HX.out.frozen 3
        obtain ⟨c0, c1, c2, c3⟩ := HX.out.cells
        have ch := HX.out.heap
        have cl := HX.out.lt
        obtain ⟨p0, p1, p2, p3⟩ := (HP.out wr HB.out).cells
        have ph := (HP.out wr HB.out).heap
        have pl := (HP.out wr HB.out).lt
        have hm := HM.out 3 (by omega)
        clear HX HZ HB hT
        go_wp2_with fail
        go_roundw
        case rel => exact ⟨4, by omega, by go_num, HX2, HZ2, HB2⟩
        case measure => simp [intOf]
    · obtain rfl : j = 4 := by omega
      have hx : Box4 wr (w.heap.size + 1) 90 (.int .u64 (no / 2 ^ (k * 0))) (.int .u64 (no / 2 ^ (k * 1))) (.int .u64 (no / 2 ^ (k * 2))) (.int .u64 (no / 2 ^ (k * 3))) := HX.out
      obtain ⟨c0, c1, c2, c3⟩ := hx.cells
      have ch := hx.heap
      have cl := hx.lt
      obtain ⟨p0, p1, p2, p3⟩ := (HP.out wr HB.out).cells
      have ph := (HP.out wr HB.out).heap
      have pl := (HP.out wr HB.out).lt
      obtain ⟨z0, z1, z2, z3⟩ := HZ.out.cells
      have zh := HZ.out.heap
      have zl := HZ.out.lt
      have HBD : Hid (Below w.heap.size w wr.drew) := HB.out.drew
      have HZD : Hid (Box4 wr.drew w.heap.size 90 (.int .u64 0) (.int .u64 0) (.int .u64 0) (.int .u64 0)) := ⟨HZ.out.heap⟩
      have HSZ : Hid (w.heap.size + 2 ≤ wr.heap.size) := by
        have : w.heap.size + 1 < wr.heap.size := cl
        show w.heap.size + 2 ≤ wr.heap.size
        omega
      have u3 : ∀ j : Nat, 0 ≤ no / 2 ^ (k * j) ∧ no / 2 ^ (k * j) ≤ 18446744073709551615 := fun j => ⟨(HSH.out j).1, by have := (HSH.out j).2; omega⟩
      have GC : Hid (Calls Tryd.prog 118 #[.agg #[.int .u64 (no / 2 ^ (k * 0)), .int .u64 (no / 2 ^ (k * 1)), .int .u64 (no / 2 ^ (k * 2)), .int .u64 (no / 2 ^ (k * 3))], .int .i64 k] wr.drew _) := cutS_any k hk1 (by omega) _ _ _ _ (u3 0) (u3 1) (u3 2) (u3 3) wr.drew (hT.below HBD.out hT.some)
      have he : ∀ j : Nat, cut k (no / 2 ^ (k * j)) = padW (ofL k vars no) j := fun j => by
        rw [padW_ofL h0 h1 j]
        unfold cut ofW
        rw [pw_int k]
      have HE : Hid (Value.agg #[.int .u64 (cut k (no / 2 ^ (k * 0))), .int .u64 (cut k (no / 2 ^ (k * 1))), .int .u64 (cut k (no / 2 ^ (k * 2))), .int .u64 (cut k (no / 2 ^ (k * 3)))] = aggS (ofL k vars no)) := by
        show Value.agg #[.int .u64 (cut k (no / 2 ^ (k * 0))), .int .u64 (cut k (no / 2 ^ (k * 1))), .int .u64 (cut k (no / 2 ^ (k * 2))), .int .u64 (cut k (no / 2 ^ (k * 3)))] = aggS (ofL k vars no)
        rw [he, he, he, he]
      have h4 : (Tryd.prog.info? 90).map (·.size) = some 4 := by kernel_rfl
      clear he hx HX HZ HB HP HSH HM hT u3 hns
      generalize no / 2 ^ (k * 0) = n0 at *
      generalize no / 2 ^ (k * 1) = n1 at *
      generalize no / 2 ^ (k * 2) = n2 at *
      generalize no / 2 ^ (k * 3) = n3 at *
      go_wp2_with fail
      go_region_with (go_at_call 118; refine Calls.mono GC.out ?_; rintro e w2 ⟨rfl, hb2⟩; have HB2 : Hid (Below w.heap.size w w2) := HBD.out.trans (hb2.mono HBD.out.size); have HZ2 : Hid _ := HZD.out.below hb2 HZD.out.lt; obtain ⟨z0', z1', z2', z3'⟩ := HZ2.out.cells; have zh' := HZ2.out.heap; have zl' := HZ2.out.lt; have f0' := HZ2.out.frozen 0; have f1' := HZ2.out.frozen 1; have f2' := HZ2.out.frozen 2; have f3' := HZ2.out.frozen 3; clear hb2)
      all_goals
        go_wp2_with fail
        refine bodyPost_ret (results_c4 rfl _ _ _ _ _ _ rfl ((((HZ2.out.set0 (.int .u64 (cut k n0))).set1 (.int .u64 (cut k n1))).set2 (.int .u64 (cut k n2))).set3 (.int .u64 (cut k n3))).heap) rfl ?_
        exact ⟨by rw [← HE.out], set4_below HB2.out (Nat.le_refl _) _ _ _ _⟩
end Go.Proofs.YtjbolpfilgkbfaaDoor

namespace Go.Proofs.YtjbolpfilgkbfaaDoor
open Go Go.RowKit
open M
set_option linter.unusedVariables false

theorem padL_take {st : List Int} (h : st.length ≤ 4) (j : Nat) (u : Value) (hu : (st.map (Value.int .u64))[j]? = some u) : j < 4 ∧ u = .int .u64 (padW st j) := by
  rw [List.getElem?_map] at hu
  cases e : st[j]? with
  | none => rw [e] at hu; simp at hu
  | some x =>
    rw [e] at hu
    obtain rfl := Option.some.inj hu
    have hl := (List.getElem?_eq_some_iff.1 e).1
    refine ⟨by omega, ?_⟩
    unfold padW
    rw [List.getD_eq_getElem?_getD, e]
    rfl
theorem words_one (t : List Int) : ∀ u ∈ t.map (Value.int .u64), u.oneCell' = true := by
  intro u hu
  obtain ⟨x, _, rfl⟩ := List.mem_map.1 hu
  rfl
theorem sliceW (b vars : Nat) (h1 : 1 ≤ vars) (h4 : vars ≤ 4) (w : World) : Sem.run Tryd.prog (Instr.sliceAt 90 (.pointer (some ⟨b, 0, none⟩)) none (some (.int .i64 (vars : Int))) none) w = .ok (.slice (some ⟨b, 0, none⟩) vars 4) w := by
  rcases (show vars = 1 ∨ vars = 2 ∨ vars = 3 ∨ vars = 4 by omega) with rfl | rfl | rfl | rfl <;> kernel_rfl
set_option maxRecDepth 100000 in
set_option maxHeartbeats 2000000 in
theorem list_any {k vars : Nat} {st : List Int} (hw : WordsIn k vars st) (P : Nat) (u y : Value) (w : World) (hP : Box4 w P 111 (.int .i64 k) (.int .i64 vars) u y) :
    Calls Tryd.prog 63 #[ptr P, aggS st] w fun e w' => ∃ r, e = .returned r ∧ OwnUS w' w.heap.size w'.heap.size r st ∧ Below w.heap.size w w' := by
  unfold aggS
  obtain ⟨_, _, hv1, hv4, hlen, _⟩ := hw
  have hb0 : Below w.heap.size w (w.alloc (.cells #[.int .u64 (padW st 0), .int .u64 (padW st 1), .int .u64 (padW st 2), .int .u64 (padW st 3)] 90)) := (Below.refl _ _).alloc (Nat.le_refl _) _
  have y0 := box4_alloc w 90 (.int .u64 (padW st 0)) (.int .u64 (padW st 1)) (.int .u64 (padW st 2)) (.int .u64 (padW st 3))
  have HB0 : Hid _ := hb0
  have hP2 := hP.below hb0 hP.lt
  obtain ⟨p0, p1, p2, p3⟩ := hP2.cells
  have ph := hP2.heap
  have pl := hP2.lt
  obtain ⟨q0, q1, q2, q3⟩ := y0.cells
  have qh := y0.heap
  have ql := y0.lt
  have h4 : (Tryd.prog.info? 90).map (·.size) = some 4 := by kernel_rfl
  obtain ⟨i0, hi, hz0, hz1, hz2⟩ := info_parts infoU64
  have hnews : ∀ (j : Nat) (u : Value), (st.map (Value.int .u64))[j]? = some u → (w.alloc (.cells #[.int .u64 (padW st 0), .int .u64 (padW st 1), .int .u64 (padW st 2), .int .u64 (padW st 3)] 90)).cell? ((⟨w.heap.size, 0, none⟩ : Addr).add j) = some u := by
    intro j u hu
    obtain ⟨hj, rfl⟩ := padL_take (by omega) j u hu
    rcases (show j = 0 ∨ j = 1 ∨ j = 2 ∨ j = 3 by omega) with rfl | rfl | rfl | rfl
    · exact q0
    · exact q1
    · exact q2
    · exact q3
  have hnl : (st.map (Value.int .u64)).length = vars * 1 := by rw [List.length_map]; omega
  have own0 : (w.alloc (.cells #[.int .u64 (padW st 0), .int .u64 (padW st 1), .int .u64 (padW st 2), .int .u64 (padW st 3)] 90)).ownsRow (w.heap.size + 1) 46 1 (.slice none 0 0) 0 [] := World.ownsRow_nil _ _ _ _
  have hz : (w.alloc (.cells #[.int .u64 (padW st 0), .int .u64 (padW st 1), .int .u64 (padW st 2), .int .u64 (padW st 3)] 90)).heap.size = w.heap.size + 1 := World.size_alloc _ _
  have HN : Hid _ := hnews
  have sl := sliceW w.heap.size vars hv1 hv4
  clear hP hP2 y0 hb0 hnews
  go_enter Tryd.func63, Tryd.ntmps63
  go_wp2_with (at_builtin; refine wpList_append_own _ rfl _ _ 28 rfl (w.heap.size + 1) 46 i0 (.int .u64 0) 1 8 Tryd.underlying28 hi hz0 hz1 hz2 rfl (by decide) (.slice none 0 0) 0 [] rfl own0 ⟨w.heap.size, 0, none⟩ vars 4 (st.map (Value.int .u64)) rfl hnl HN.out (words_one st) (by unfold maxLen; omega) (by omega) (by omega) ?_)
  intro v7 w7 own7 grow7 _
  have HB7 : Hid (Below w.heap.size w w7) := HB0.out.grown grow7 (by omega) (fun k hk => by simp [Value.ownBlock] at hk)
  have HO7 : Hid (OwnUS w7 w.heap.size w7.heap.size v7 st) := by
    show RowIn w7 w.heap.size w7.heap.size _ 1 v7 st.length (st.map (Value.int .u64))
    rw [← hlen] at own7
    exact RowIn.weak (rowIn_of own7) (Nat.le_succ _) (Nat.le_refl _) (Nat.le_refl _)
  clear own7 grow7 own0
  go_wp2_with fail
  go_ret
  exact ⟨_, rfl, HO7.out, HB7.out⟩
end Go.Proofs.YtjbolpfilgkbfaaDoor

namespace Go.Proofs.YtjbolpfilgkbfaaDoor
open Go Go.RowKit
open M
set_option linter.unusedVariables false

def ofB (p : Pg) (no : Int) : Bool := smallP p && decide (0 ≤ no ∧ no < 2 ^ (p.1 * p.2.1).toNat)
def ofP (p : Pg) (no : Int) : List Int := if ofB p no = true then ofL p.1.toNat p.2.1.toNat no else []
theorem good_of (k : Nat) (hk1 : 1 ≤ k) (hk : k ≤ 64) (a : Int) (h : a < 2 ^ k) : goodB k a = true := by
  unfold goodB
  refine decide_eq_true ⟨by omega, by omega, ?_⟩
  rw [Int.toNat_natCast, ← pw_int]
  exact h
theorem ofL_words {k u : Nat} (h1 : 1 ≤ k) (h2 : k ≤ 64) (h3 : 1 ≤ u) (h4 : u ≤ 4) (no : Int) : WordsIn k u (ofL k u no) :=
  ⟨h1, h2, h3, h4, ofL_len k u no, fun s hs => (ofL_mem s hs).1, fun s hs => good_of k h1 h2 s (ofL_mem s hs).2⟩
theorem ownUS_nil (w : World) (lo : Nat) (h : lo ≤ w.heap.size) : OwnUS w lo w.heap.size (.slice none 0 0) [] := rowIn_of (World.ownsRow_nil _ _ _ _)
theorem OwnUS.lower {w : World} {lo lo' hi : Nat} {v : Value} {t : List Int} (h : OwnUS w lo hi v t) (hl : lo' ≤ lo) : OwnUS w lo' hi v t := RowIn.weak h hl (Nat.le_refl _) h.2.2
theorem small_nats {p : Pg} (h : smallP p = true) : ∃ k u : Nat, p.1 = k ∧ p.2.1 = u ∧ 1 ≤ k ∧ k ≤ 64 ∧ 1 ≤ u ∧ u ≤ 4 ∧ k ≤ 5 ∧ k * u ≤ 5 ∧ p.1 * p.2.1 = ((k * u : Nat) : Int) := by
  obtain ⟨hg, hm⟩ := smallP_open h
  obtain ⟨k, u, e1, e2, q1, q2, q3, q4⟩ := goodP_nats hg
  have e3 : p.1 * p.2.1 = ((k * u : Nat) : Int) := by rw [e1, e2, Int.natCast_mul]
  have h5 : k * u ≤ 5 := by rw [e3] at hm; omega
  exact ⟨k, u, e1, e2, q1, q2, q3, q4, Nat.le_trans (Nat.le_mul_of_pos_right k q3) h5, h5, e3⟩
set_option maxRecDepth 100000 in
set_option maxHeartbeats 4000000 in
theorem iStateOf_any (v : Value) (p : Pg) (ok : PgOk p) (no : Int) (w : World) (hT : Tab w) (h : AtProg w v p) :
    Calls Tryd.prog 42 #[v, .int .i64 no] w fun e w' => ∃ r0, e = .returned (.tuple #[r0, .bool (ofB p no)]) ∧ OwnUS w' w.heap.size w'.heap.size r0 (ofP p no) ∧ Below w.heap.size w w' := by
  obtain ⟨sa, sn, sc, ca, cn, cc, rfl⟩ := h.shape
  have HB0 : Hid (Below w.heap.size w (w.alloc (.cells #[.int .i64 p.1, .int .i64 p.2.1, .slice sa sn sc, .slice ca cn cc] 27))) := (Below.refl _ _).alloc (Nat.le_refl _) _
  have g := smallRootsOf_any _ p ok _ (hT.below HB0.out hT.some) (h.below HB0.out)
  have HT : Hid (Tab w) := hT
  clear h hT ok
  go_enter Tryd.func42, Tryd.ntmps42
  go_wp2_with fail
  refine g.mono ?_
  generalize w.alloc (.cells #[.int .i64 p.1, .int .i64 p.2.1, .slice sa sn sc, .slice ca cn cc] 27) = w0 at *
  rintro e w1 ⟨ho, hb1⟩
  have HB1 : Hid (Below w.heap.size w w1) := Below.step HB0.out HB0.out.size hb1
  clear g
  rcases ho with ⟨hs, P, rfl, hroot⟩ | ⟨hs, rfl⟩
  · obtain ⟨k, u, e1, e2, q1, q2, q3, q4, hk5, hm5, hM⟩ := small_nats hs
    have hr1 : Rooted w1 (Old w1) p P := Rooted.old hroot (Below.refl _ _)
    obtain ⟨_, x, y, hx, _, _⟩ := id hr1
    have g1 := hasState_any P (k * u) p.1 p.2.1 x y no w1 hx hM hm5
    have hofb : ofB p no = decide (0 ≤ no ∧ no < 2 ^ (k * u)) := by
      unfold ofB
      rw [hs, Bool.true_and, hM, Int.toNat_natCast]
    have hofp : ofP p no = if ofB p no = true then ofL k u no else [] := by
      unfold ofP
      rw [e1, e2, Int.toNat_natCast, Int.toNat_natCast]
    have HFB : Hid _ := hofb
    have HFP : Hid (ofP p no = if ofB p no = true then ofL k u no else []) := hofp
    have HX : Hid (Box4 w1 P 111 (.int .i64 k) (.int .i64 u) x y) := by
      rw [e1, e2] at hx
      exact hx
    have HW : Hid (WordsIn k u (ofL k u no)) := ofL_words q1 q2 q3 q4 no
    clear hx hr1 hroot hs hM hofb hofp hb1
    go_wp2_with fail
    refine g1.mono ?_
    rintro e w2 ⟨rfl, hs2⟩
    have HB2 : Hid (Below w.heap.size w w2) := HB1.out.trans (hs2.mono HB1.out.size)
    have HX2 : Hid _ := HX.out.below hs2 HX.out.lt
    clear g1 hs2
    by_cases hin : 0 ≤ no ∧ no < 2 ^ (k * u)
    · rw [decide_eq_true hin] at HFB
      have HE : Hid (ofP p no = ofL k u no) := by
        show ofP p no = ofL k u no
        rw [HFP.out, HFB.out, if_pos rfl]
      have g2 := numbered_any q1 hk5 hm5 P x y no hin.1 hin.2 w2 (HT.out.below HB2.out HT.out.some) HX2.out
      unfold aggS at g2
      rw [decide_eq_true hin]
      have GL : Hid (∀ w3, Box4 w3 P 111 (.int .i64 k) (.int .i64 u) x y → Calls Tryd.prog 63 #[ptr P, aggS (ofL k u no)] w3 fun e w' => ∃ r, e = .returned r ∧ OwnUS w' w3.heap.size w'.heap.size r (ofL k u no) ∧ Below w3.heap.size w3 w') := fun w3 h3 => list_any HW.out P x y w3 h3
      unfold aggS at GL
      clear HFP HT hin HW
      generalize ofL k u no = L at *
      generalize padW L 0 = l0 at *
      generalize padW L 1 = l1 at *
      generalize padW L 2 = l2 at *
      generalize padW L 3 = l3 at *
      go_wp2_with fail
      refine g2.mono ?_
      rintro e w3 ⟨rfl, hs3⟩
      have HB3 : Hid (Below w.heap.size w w3) := HB2.out.trans (hs3.mono HB2.out.size)
      have g3 := GL.out w3 (HX2.out.below hs3 HX2.out.lt)
      clear g2 hs3 GL
      go_wp2_with fail
      refine g3.mono ?_
      rintro e w4 ⟨r, rfl, ho4, hs4⟩
      have HB4 : Hid (Below w.heap.size w w4) := HB3.out.trans (hs4.mono HB3.out.size)
      have HO4 : Hid (OwnUS w4 w.heap.size w4.heap.size r L) := OwnUS.lower ho4 HB3.out.size
      clear g3 hs4 ho4
      go_wp2_with fail
      go_ret2
      exact ⟨_, by rw [HFB.out]; rfl, by rw [HE.out]; exact HO4.out, HB4.out⟩
    · rw [decide_eq_false hin] at HFB
      have HE : Hid (ofP p no = []) := by
        show ofP p no = []
        rw [HFP.out, HFB.out, if_neg (by decide)]
      rw [decide_eq_false hin]
      clear HFP HT hin HW
      go_wp2_with fail
      go_ret2
      exact ⟨_, by rw [HFB.out]; rfl, by rw [HE.out]; exact ownUS_nil _ _ HB2.out.size, HB2.out⟩
  · have HFB : Hid (ofB p no = false) := by
      show ofB p no = false
      unfold ofB
      rw [hs, Bool.false_and]
    have HE : Hid (ofP p no = []) := by
      show ofP p no = []
      unfold ofP
      rw [HFB.out, if_neg (by decide)]
    clear hs hb1 HT
    go_wp2_with fail
    go_ret2
    exact ⟨_, by rw [HFB.out]; rfl, by rw [HE.out]; exact ownUS_nil _ _ HB1.out.size, HB1.out⟩
end Go.Proofs.YtjbolpfilgkbfaaDoor

namespace Go.Proofs.YtjbolpfilgkbfaaDoor
open Go Go.RowKit
open M
set_option linter.unusedVariables false

theorem i64_and_nat (a b : Nat) (ha : a < 4611686018427387904) (hb : b < 4611686018427387904) : bits .and .i64 (a : Int) (b : Int) = ((a &&& b : Nat) : Int) := by
  have hx : a &&& b < 2 ^ 62 := Nat.and_lt_two_pow a (by omega)
  show IntKind.i64.wrap ((BitVec.ofInt 64 (a : Int) &&& BitVec.ofInt 64 (b : Int)).toNat : Int) = _
  rw [BitVec.toNat_and, ofInt_u64 a (by omega), ofInt_u64 b (by omega)]
  exact IntWalk.i64_in _ ⟨by omega, by omega⟩
theorem and_two (k : Nat) (hk : k ≤ 5) (a : Int) (h0 : 0 ≤ a) (h1 : a ≤ 31) : bits .and .i64 a (2 ^ k - 1) = a % 2 ^ k := by
  obtain ⟨n, rfl⟩ := Int.eq_ofNat_of_zero_le h0
  have e0 : ((2 : Int) ^ k) = ((2 ^ k : Nat) : Int) := by simp
  have hp := Nat.two_pow_pos k
  have hk2 : (2 : Nat) ^ k ≤ 2 ^ 5 := Nat.pow_le_pow_right (by omega) hk
  have e1 : ((2 : Int) ^ k) - 1 = ((2 ^ k - 1 : Nat) : Int) := by rw [e0]; omega
  rw [e1, i64_and_nat n (2 ^ k - 1) (by omega) (by omega), Nat.and_two_pow_sub_one_eq_mod, e0]
  exact Int.natCast_emod n (2 ^ k)
set_option maxRecDepth 100000 in
set_option maxHeartbeats 2000000 in
theorem sMany_any (v : Value) (p : Pg) (m : Nat) (hM : p.1 * p.2.1 = (m : Int)) (hm : m ≤ 5) (w : World) (h : AtProg w v p) :
    Calls Tryd.prog 90 #[v] w fun e w' => e = .returned (.int .i64 (2 ^ m)) ∧ Below w.heap.size w w' := by
  obtain ⟨sa, sn, sc, ca, cn, cc, rfl⟩ := h.shape
  have HB0 : Hid (Below w.heap.size w (w.alloc (.cells #[.int .i64 p.1, .int .i64 p.2.1, .slice sa sn sc, .slice ca cn cc] 27))) := (Below.refl _ _).alloc (Nat.le_refl _) _
  obtain ⟨t1, t2⟩ := two_small hm
  have ew : wrap64 ((2 : Int) ^ m) = 2 ^ m := wrap64_in _ (by omega) (by omega)
  have e1 : IntKind.i64.wrap (p.1 * p.2.1) = (m : Int) := by rw [hM]; exact IntWalk.i64_in _ ⟨by omega, by omega⟩
  clear h hM
  go_enter Tryd.func90, Tryd.ntmps90
  go_wp2_with fail
  go_ret
  exact ⟨rfl, HB0.out⟩
set_option maxRecDepth 100000 in
set_option maxHeartbeats 2000000 in
theorem sOf_any (v : Value) (p : Pg) (k u : Nat) (hp1 : p.1 = k) (hp2 : p.2.1 = u) (hk1 : 1 ≤ k) (hk5 : k ≤ 5) (hu4 : u ≤ 4) (no : Int) (h0 : 0 ≤ no) (h1 : no ≤ 31) (w : World) (h : AtProg w v p) :
    Calls Tryd.prog 91 #[v, .int .i64 no] w fun e w' => ∃ r, e = .returned r ∧ OwnUS w' w.heap.size w'.heap.size r (ofL k u no) ∧ Below w.heap.size w w' := by
  obtain ⟨sa, sn, sc, ca, cn, cc, rfl⟩ := h.shape
  rw [hp1, hp2]
  have HB0 : Hid (Below w.heap.size w (w.alloc (.cells #[.int .i64 k, .int .i64 u, .slice sa sn sc, .slice ca cn cc] 27))) := (Below.refl _ _).alloc (Nat.le_refl _) _
  have x0 := box4_alloc w 27 (.int .i64 k) (.int .i64 u) (.slice sa sn sc) (.slice ca cn cc)
  have HXP : Hid (∀ w3, Below (w.heap.size + 1) (w.alloc (.cells #[.int .i64 k, .int .i64 u, .slice sa sn sc, .slice ca cn cc] 27)) w3 → Box4 w3 w.heap.size 27 (.int .i64 k) (.int .i64 u) (.slice sa sn sc) (.slice ca cn cc)) := fun w3 hb3 => x0.below hb3 (by omega)
  have HBX0 : Hid (Below (w.heap.size + 1) (w.alloc (.cells #[.int .i64 k, .int .i64 u, .slice sa sn sc, .slice ca cn cc] 27)) (w.alloc (.cells #[.int .i64 k, .int .i64 u, .slice sa sn sc, .slice ca cn cc] 27))) := Below.refl _ _
  have hw0z : (w.alloc (.cells #[.int .i64 k, .int .i64 u, .slice sa sn sc, .slice ca cn cc] 27)).heap.size = w.heap.size + 1 := World.size_alloc _ _
  have HSH : Hid (∀ j : Nat, 0 ≤ no / 2 ^ (j * k) ∧ no / 2 ^ (j * k) ≤ 31) := fun j => by
    have hp := two_pos (j * k)
    have h2 := Int.ediv_le_self (2 ^ (j * k)) h0
    exact ⟨Int.ediv_nonneg h0 (by omega), by omega⟩
  have HM : Hid (∀ j : Nat, j < 4 → IntKind.i64.wrap ((j : Int) * (k : Int)) = ((j * k : Nat) : Int)) := fun j hj => by
    have : j * k ≤ 15 := Nat.le_trans (Nat.mul_le_mul (by omega : j ≤ 3) hk5) (by omega)
    rw [← Int.natCast_mul]
    exact IntWalk.i64_in _ ⟨by omega, by omega⟩
  obtain ⟨t1, t2⟩ := two_small hk5
  have ew : wrap64 ((2 : Int) ^ k) = 2 ^ k := wrap64_in _ (by omega) (by omega)
  obtain ⟨i0, hi, hz0, hz1, hz2⟩ := info_parts infoU64
  obtain ⟨a0, a1, a2, a3⟩ := x0.cells
  have ah := x0.heap
  have al := x0.lt
  clear h x0 hp1 hp2
  go_enter Tryd.func91, Tryd.ntmps91
  go_wp2_with fail
  generalize w.alloc (.cells #[.int .i64 k, .int .i64 u, .slice sa sn sc, .slice ca cn cc] 27) = w0 at *
  go_loopw [5, 6] (fun r i wr => ∃ j : Nat, j ≤ u ∧ i = .int .i64 j ∧ Hid (OwnUS wr (w.heap.size + 1) wr.heap.size r (ofL k j no)) ∧ Hid (Below w.heap.size w wr) ∧ Hid (Below (w.heap.size + 1) w0 wr)) (fun _ i _ => u - (intOf i).toNat)
  case atStart => exact ⟨0, by omega, rfl, ownUS_nil _ _ (by omega), HB0, HBX0⟩
  case round =>
    obtain ⟨j, hj, rfl, HO, HB, HBX⟩ := hrel
    clear HB0 HBX0 a0 a1 a2 a3 ah al
    obtain ⟨a0, a1, a2, a3⟩ := (HXP.out _ HBX.out).cells
    have ah := (HXP.out _ HBX.out).heap
    have al := (HXP.out _ HBX.out).lt
    by_cases hlt : j < u
    · have hm := HM.out j (by omega)
      obtain ⟨s1, s2⟩ := HSH.out j
      have ea := and_two k hk5 (no / 2 ^ (j * k)) s1 s2
      have hw1 := ofW_in k no j
      have eo : no / 2 ^ (j * k) % 2 ^ k = ofW k no j := by rw [Nat.mul_comm j k]; rfl
      rw [eo] at ea
      obtain ⟨w1a, w1b⟩ := hw1
      have hkj : j * k ≤ 15 := Nat.le_trans (Nat.mul_le_mul (by omega : j ≤ 3) hk5) (by omega)
      have hq : (j : Int) * (k : Int) = ((j * k : Nat) : Int) := (Int.natCast_mul j k).symm
      clear hm
      generalize j * k = Q at *
      have HE : Hid (ofL k (j + 1) no = ofL k j no ++ [ofW k no j]) := ofL_succ k j no
      have own1 : (wr.alloc (.cells #[.int .u64 (ofW k no j)] 46)).ownsRow (w.heap.size + 1) 46 1 u5 (ofL k j no).length ((ofL k j no).map (Value.int .u64)) := World.ownsRow.alloc HO.out.1 _
      have hle : (ofL k j no).length ≤ 4 := by rw [ofL_len]; omega
      have hszx := HBX.out.size
      have hszw := HB.out.size
      have HOx : Hid (wr.ownsRow (w.heap.size + 1) 46 1 u5 (ofL k j no).length (cellsU (ofL k j no))) := HO.out.1
      have cellsN : ∀ (q : Nat) (z : Value), ([.int .u64 (ofW k no j)] : List Value)[q]? = some z → (wr.alloc (.cells #[.int .u64 (ofW k no j)] 46)).cell? ((⟨wr.heap.size, 0, none⟩ : Addr).add q) = some z := by
        intro q z hz
        match q, hz with
        | 0, hz => simp at hz; subst hz; simp [Addr.add]
      clear eo HXP HSH HM HO
      generalize ofL k j no = R at *
      go_wp2_with (at_builtin; refine wpList_append_own _ rfl _ _ 28 rfl (w.heap.size + 1) 46 i0 (.int .u64 0) 1 8 Tryd.underlying28 hi hz0 hz1 hz2 rfl (by decide) _ _ _ rfl own1 ⟨wr.heap.size, 0, none⟩ 1 1 [.int .u64 (ofW k no j)] rfl rfl cellsN (words_one [ofW k no j]) (by unfold maxLen; omega) (by omega) (by simp; omega) ?_)
      intro v7 w7 own7 grow7 _
      have HB7 : Hid (Below w.heap.size w w7) := (HB.out.alloc HB.out.size _).grown grow7 (by simp; omega) (fun k hk => by have := (HOx.out.lt k hk).1; omega)
      have HBX7 : Hid (Below (w.heap.size + 1) w0 w7) := (HBX.out.alloc (by omega) _).grown grow7 (by simp; omega) (fun k hk => (HOx.out.lt k hk).1)
      have HO7 : Hid (OwnUS w7 (w.heap.size + 1) w7.heap.size v7 (ofL k (j + 1) no)) := by
        show RowIn _ _ _ _ _ _ _ _
        rw [HE.out]
        unfold cellsU
        rw [List.map_append, List.length_append]
        exact rowIn_of own7
      clear own1 own7 grow7 cellsN
      go_wp2_with fail
      go_roundw
      case rel => exact ⟨j + 1, by omega, by go_num, HO7, HB7, HBX7⟩
      case measure => simp [intOf]; omega
    · obtain rfl : j = u := by omega
      clear HXP HSH HM
      go_wp2_with fail
      go_ret
      exact ⟨_, rfl, OwnUS.lower HO.out (Nat.le_succ _), HB.out⟩
end Go.Proofs.YtjbolpfilgkbfaaDoor

namespace Go.Proofs.YtjbolpfilgkbfaaDoor
open Go Go.RowKit
open M
set_option linter.unusedVariables false

set_option maxRecDepth 100000 in
set_option maxHeartbeats 2000000 in
theorem sStateOf_any (v : Value) (p : Pg) (no : Int) (hno : Fit no) (w : World) (h : AtProg w v p) :
    Calls Tryd.prog 44 #[v, .int .i64 no] w fun e w' => ∃ r0, e = .returned (.tuple #[r0, .bool (ofB p no)]) ∧ OwnUS w' w.heap.size w'.heap.size r0 (ofP p no) ∧ Below w.heap.size w w' := by
  have HS : Hid (∀ w1 : World, Below w.heap.size w w1 → Calls Tryd.prog 85 #[v] w1 fun e w' => e = .returned (.bool (smallP p)) ∧ Below w1.heap.size w1 w') := fun w1 hb => sSmall_any v p w1 (h.below hb)
  obtain ⟨hno0, hno1⟩ := hno
  have HAT : Hid (∀ w1 : World, Below w.heap.size w w1 → AtProg w1 v p) := fun w1 hb => h.below hb
  obtain ⟨sa, sn, sc, ca, cn, cc, rfl⟩ := h.shape
  have HB0 : Hid (Below w.heap.size w (w.alloc (.cells #[.int .i64 p.1, .int .i64 p.2.1, .slice sa sn sc, .slice ca cn cc] 27))) := (Below.refl _ _).alloc (Nat.le_refl _) _
  have x0 := box4_alloc w 27 (.int .i64 p.1) (.int .i64 p.2.1) (.slice sa sn sc) (.slice ca cn cc)
  have HX0 : Hid _ := x0
  have hofp0 : ofP p no = if ofB p no = true then ofL p.1.toNat p.2.1.toNat no else [] := rfl
  have hofb0 : ofB p no = (smallP p && decide (0 ≤ no ∧ no < 2 ^ (p.1 * p.2.1).toNat)) := rfl
  clear h x0
  cases hsm : smallP p with
  | false =>
    have HFB : Hid (ofB p no = false) := by
      show ofB p no = false
      rw [hofb0, hsm, Bool.false_and]
    have HE : Hid (ofP p no = []) := by
      show ofP p no = []
      rw [hofp0, HFB.out, if_neg (by decide)]
    rw [hsm] at HS
    clear HAT HX0 hofp0 hofb0 hsm
    generalize p.1 = pw at *
    generalize p.2.1 = pv at *
    go_enter Tryd.func44, Tryd.ntmps44
    go_wp2_with fail
    refine (HS.out _ HB0.out).mono ?_
    rintro e w1 ⟨rfl, hs⟩
    have HB1 : Hid (Below w.heap.size w w1) := Below.step HB0.out HB0.out.size hs
    clear hs
    go_wp2_with fail
    go_ret2
    exact ⟨_, by rw [HFB.out]; rfl, by rw [HE.out]; exact ownUS_nil _ _ HB1.out.size, HB1.out⟩
  | true =>
    obtain ⟨k, u, e1, e2, q1, q2, q3, q4, hk5, hm5, hM⟩ := small_nats hsm
    obtain ⟨t1, t2⟩ := two_small hm5
    have hofb : ofB p no = decide (0 ≤ no ∧ no ≤ 2 ^ (k * u) - 1) := by
      rw [hofb0, hsm, Bool.true_and, hM, Int.toNat_natCast]
      by_cases hh : 0 ≤ no ∧ no < 2 ^ (k * u)
      · rw [decide_eq_true hh, decide_eq_true ⟨hh.1, by omega⟩]
      · rw [decide_eq_false hh, decide_eq_false (by omega)]
    have hofp : ofP p no = if ofB p no = true then ofL k u no else [] := by
      rw [hofp0, e1, e2, Int.toNat_natCast, Int.toNat_natCast]
    have HMY : Hid (∀ w1 : World, Below w.heap.size w w1 → Calls Tryd.prog 90 #[.agg #[.int .i64 p.1, .int .i64 p.2.1, .slice sa sn sc, .slice ca cn cc]] w1 fun e w' => e = .returned (.int .i64 (2 ^ (k * u))) ∧ Below w1.heap.size w1 w') := fun w1 hb => sMany_any _ p (k * u) hM hm5 w1 (HAT.out w1 hb)
    have HOF : Hid (0 ≤ no → no ≤ 31 → ∀ w1 : World, Below w.heap.size w w1 → Calls Tryd.prog 91 #[.agg #[.int .i64 p.1, .int .i64 p.2.1, .slice sa sn sc, .slice ca cn cc], .int .i64 no] w1 fun e w' => ∃ r, e = .returned r ∧ OwnUS w' w1.heap.size w'.heap.size r (ofL k u no) ∧ Below w1.heap.size w1 w') := fun h0 h1 w1 hb => sOf_any _ p k u e1 e2 q1 hk5 q4 no h0 h1 w1 (HAT.out w1 hb)
    rw [hsm] at HS
    have HFB : Hid _ := hofb
    have HFP : Hid (ofP p no = if ofB p no = true then ofL k u no else []) := hofp
    clear hofb hofp hofb0 hofp0 HAT hsm hM e1 e2
    generalize ofL k u no = L at *
    generalize (2 : Int) ^ (k * u) = MM at *
    generalize p.1 = pw at *
    generalize p.2.1 = pv at *
    go_enter Tryd.func44, Tryd.ntmps44
    go_wp2_with fail
    refine (HS.out _ HB0.out).mono ?_
    generalize w.alloc (.cells #[.int .i64 pw, .int .i64 pv, .slice sa sn sc, .slice ca cn cc] 27) = w0 at *
    rintro e w1 ⟨rfl, hs⟩
    have HB1 : Hid (Below w.heap.size w w1) := Below.step HB0.out HB0.out.size hs
    have x1 := HX0.out.below hs HX0.out.lt
    have HX1 : Hid _ := x1
    obtain ⟨a0, a1, a2, a3⟩ := x1.cells
    have ah := x1.heap
    have al := x1.lt
    clear hs x1 HX0
    go_wp2_with fail
    refine (HMY.out _ HB1.out).mono ?_
    rintro e w2 ⟨rfl, hs⟩
    have HB2 : Hid (Below w.heap.size w w2) := HB1.out.trans (hs.mono HB1.out.size)
    have x2 := HX1.out.below hs HX1.out.lt
    clear a0 a1 a2 a3 ah al
    obtain ⟨a0, a1, a2, a3⟩ := x2.cells
    have ah := x2.heap
    have al := x2.lt
    clear hs x2 HX1
    have g := l1In_any no 0 (MM - 1) w2
    by_cases hin : 0 ≤ no ∧ no ≤ MM - 1
    · rw [decide_eq_true hin] at g HFB
      have HE : Hid (ofP p no = L) := by
        show ofP p no = L
        rw [HFP.out, HFB.out, if_pos rfl]
      go_wp2_with fail
      refine g.mono ?_
      rintro e w3 ⟨rfl, rfl⟩
      clear g
      go_wp2_with fail
      refine (HOF.out hin.1 (by omega) _ HB2.out).mono ?_
      rintro e w4 ⟨r, rfl, ho, hs⟩
      have HB4 : Hid (Below w.heap.size w w4) := HB2.out.trans (hs.mono HB2.out.size)
      have HO4 : Hid (OwnUS w4 w.heap.size w4.heap.size r L) := OwnUS.lower ho HB2.out.size
      clear ho hs a0 a1 a2 a3 ah al
      go_wp2_with fail
      go_ret2
      exact ⟨_, by rw [HFB.out]; rfl, by rw [HE.out]; exact HO4.out, HB4.out⟩
    · rw [decide_eq_false hin] at g HFB
      have HE : Hid (ofP p no = []) := by
        show ofP p no = []
        rw [HFP.out, HFB.out, if_neg (by decide)]
      go_wp2_with fail
      refine g.mono ?_
      rintro e w3 ⟨rfl, rfl⟩
      clear g
      go_wp2_with fail
      go_ret2
      exact ⟨_, by rw [HFB.out]; rfl, by rw [HE.out]; exact ownUS_nil _ _ HB2.out.size, HB2.out⟩
theorem ofP_ok (p : Pg) (no : Int) : WsOk (ofP p no) := by
  unfold ofP
  split
  · rename_i h
    unfold ofB at h
    rw [Bool.and_eq_true] at h
    obtain ⟨k, u, e1, e2, q1, q2, q3, q4, _⟩ := small_nats h.1
    rw [e1, e2, Int.toNat_natCast, Int.toNat_natCast]
    refine ⟨fun s hs => ?_, by rw [ofL_len]; omega⟩
    obtain ⟨a, b⟩ := ofL_mem s hs
    have := pw_le k q2
    rw [pw_int] at b
    omega
  · exact ⟨fun s hs => by simp at hs, by simp⟩
end Go.Proofs.YtjbolpfilgkbfaaDoor
