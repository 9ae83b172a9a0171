/-
  The drawing of a term with its width and its variables, and of a state (the model's term and state).
-/
import Derived.Test.YtjbfembblgkakaaDoorDrawA
import Derived.Test.YtjbfembblgkakaaDoorU64
namespace Go.Proofs.YtjbfembblgkakaaDoor
open Go Go.RowKit
open M
set_option linter.unusedVariables false

/-- a term that is drawn, with its width and the number of its variables -/
def TermD (B b m : Nat) (sv : Value) (w w' : World) (k : Nat) (vars : Int) (v : Value) (t : List Nd) : Prop :=
  1 ≤ k ∧ k ≤ 64 ∧ 0 ≤ vars ∧ vars ≤ 5 ∧ OwnNodes w' w.heap.size v t ∧ (∀ x ∈ t, NdOk x) ∧ t.length ≤ 31 ∧ Only b w w' ∧ Cur B b m sv w'
theorem Drawn.term {B b m L : Nat} {sv v : Value} {w w' : World} {t : List Nd} (hd : Drawn B b m sv L w w' v t) (hL : L ≤ 31) {k : Nat} (h1 : 1 ≤ k) (h2 : k ≤ 64) {vars : Int} (h3 : 0 ≤ vars) (h4 : vars ≤ 5) {m' : Nat} (hm : m ≤ m') : TermD B b m' sv w w' k vars v t :=
  ⟨h1, h2, h3, h4, hd.1, hd.2.1, Nat.le_trans hd.2.2.2.1 hL, hd.2.2.2.2.1, hd.cur.more hm⟩
theorem own_some {w : World} {B : Nat} {v : Value} {t : List Nd} (h : OwnNodes w B v t) (h1 : 1 ≤ t.length) : ∃ g cap : Nat, v = .slice (some ⟨g, 0, none⟩) t.length cap ∧ B ≤ g ∧ t.length ≤ cap ∧ cap ≤ 9223372036854775807 := by
  rcases h.2 with ⟨_, h0⟩ | ⟨g, cap, cur, hv, hg, _, hc, hm, _⟩
  · omega
  · exact ⟨g, cap, hv, hg, hc, hm⟩
theorem own_cutN {w : World} {B g n cap r : Nat} {t : List Nd} (h : OwnNodes w B (.slice (some ⟨g, 0, none⟩) n cap) t) (hr : r ≤ t.length) : OwnNodes w B (.slice (some ⟨g, 0, none⟩) r cap) (t.take r) := by
  have hl : (flat (t.take r)).length = r * 2 := by rw [flat_len]; simp; omega
  refine ⟨by rw [hl]; simp; omega, ?_⟩
  rcases h.2 with ⟨h1, _⟩ | ⟨g', cap', cur, h1, hg, hh, h2, h3, h4, h5⟩
  · cases h1
  · simp at h1
    obtain ⟨rfl, hn, rfl⟩ := h1
    refine Or.inr ⟨g, cap, cur, by simp; omega, hg, hh, by simp; omega, h3, h4, ?_⟩
    have h6 := congrArg (List.take (r * 2)) h5
    rw [List.take_take, Nat.min_eq_left (by omega)] at h6
    rw [show (t.take r).length * 2 = r * 2 from by simp; omega, h6]
    have e : flat t = flat (t.take r) ++ flat (t.drop r) := by rw [← flat_append, List.take_append_drop]
    rw [e, ← hl, List.take_left]
theorem drawn_store {B b m L g n cap j : Nat} {sv u : Value} {w w1 : World} {t t' : List Nd} (hd : Drawn B b m sv L w w1 (.slice (some ⟨g, 0, none⟩) n cap) t) (hn : n = t.length) (hb : b < w.heap.size) (hs : (flat t).set j u = flat t') (hl : t'.length = t.length) (hok : ∀ x ∈ t', NdOk x) : Drawn B b m sv L w (w1.setCell ⟨g, j, none⟩ u) (.slice (some ⟨g, 0, none⟩) n cap) t' := by
  subst hn
  obtain ⟨h1, h2, h3, h4, h5, h6⟩ := hd
  have hst := World.ownsRow.stored h1 j u
  have hgB : w.heap.size ≤ g := (World.ownsRow.lt h1 g rfl).1
  refine ⟨?_, hok, by omega, by omega, ?_, ?_⟩
  · have h7 := hst.1
    rw [hs] at h7
    unfold OwnNodes
    rw [hl]
    exact h7
  · have hg := hst.2
    have hsz := h5.size
    exact ⟨hg.os.trans h5.os, hg.tape.trans h5.tape, hg.output.trans h5.output, Nat.le_trans h5.size hg.size, fun k hk hks => by
      rw [hg.block k (by omega) (fun e => by have := Option.some.inj e; omega)]
      exact h5.block k hk hks⟩
  · have hg := hst.2
    refine h6.below ⟨hg.os, hg.tape, hg.output, hg.size, fun k hk => hg.block k ?_ (fun e => ?_)⟩
    · have := h6.lies
      omega
    · have := Option.some.inj e
      omega
theorem Drawn.drew {B b m L : Nat} {sv v : Value} {w w1 : World} {t : List Nd} (hd : Drawn B b m sv L w w1 v t) : Drawn B b m sv L w w1.drew v t := by
  obtain ⟨h1, h2, h3, h4, h5, h6⟩ := hd
  exact ⟨h1, h2, h3, h4, h5.drew, h6.drew⟩
theorem flat_cell (t : List Nd) (i : Nat) (h : i < t.length) : (flat t)[i * 2]? = some (.int .i64 (t[i]).1) ∧ (flat t)[i * 2 + 1]? = some (.int .u64 (t[i]).2) := by
  induction t generalizing i with
  | nil => simp at h
  | cons x t ih =>
    match i with
    | 0 => simp [flat]
    | i + 1 =>
      have := ih i (by simpa using h)
      rw [show (i + 1) * 2 = i * 2 + 2 from by omega]
      simpa [flat] using this
theorem flat_last (r : List Nd) (x : Nd) (op : Int) : (flat (r ++ [x])).set (r.length * 2) (.int .i64 op) = flat (r ++ [(op, x.2)]) := by
  rw [flat_append, flat_append, ← flat_len r, List.set_append_right _ _ (Nat.le_refl _), Nat.sub_self]
  rfl
set_option maxRecDepth 100000 in
set_option maxHeartbeats 8000000 in
theorem term_any (B b m : Nat) (sv : Value) (w : World) (hc : Cur B b m sv w) (hm : m ≤ 1000000) :
    Calls Tryd.prog 77 #[ptr b] w fun e w' => ∃ (k : Nat) (vars : Int) (v : Value) (t : List Nd), e = .returned (.tuple #[.int .i64 (k : Int), .int .i64 vars, v]) ∧ TermD B b (m + 1000) sv w w' k vars v t := by
  have GP : Hid (∀ (n : Int) (m' : Nat) (w1 : World), 1 ≤ n → n ≤ 50 → Cur B b m' sv w1 → m' ≤ 9000000 → Calls Tryd.prog 94 #[ptr b, .int .i64 n] w1 fun e w' => ∃ x : Int, (0 ≤ x ∧ x < n) ∧ e = .returned (.int .i64 x) ∧ Only b w1 w' ∧ Cur B b (m' + 2) sv w') := fun n m' w1 h1 h2 hc' hm' => pick_any B b m' sv n h1 (by omega) w1 hc' (by omega)
  have GO : Hid (∀ (n : Int) (m' : Nat) (w1 : World), 1 ≤ n → n ≤ 50 → Cur B b m' sv w1 → m' ≤ 9000000 → Calls Tryd.prog 95 #[ptr b, .int .i64 n] w1 fun e w' => ∃ x : Bool, e = .returned (.bool x) ∧ Only b w1 w' ∧ Cur B b (m' + 2) sv w') := fun n m' w1 h1 h2 hc' hm' => one_any B b m' sv n h1 (by omega) w1 hc' (by omega)
  have GA : Hid (∀ (l : List Int) (lo hi : Int) (m' : Nat) (w1 : World), 1 ≤ l.length → l.length ≤ 20 → (∀ x ∈ l, lo ≤ x ∧ x ≤ hi) → Cur B b m' sv w1 → m' ≤ 9000000 → Calls Tryd.prog 132 #[ptr b, .slice (some ⟨w1.heap.size, 0, none⟩) l.length l.length] (w1.alloc (.cells (nums l) 3)) fun e w' => ∃ x : Int, (lo ≤ x ∧ x ≤ hi) ∧ e = .returned (.int .i64 x) ∧ Only b w1 w' ∧ Cur B b (m' + 2) sv w') := by
    intro l lo hi m' w1 h1 h2 h3 hc' hm'
    have hlies := hc'.lies
    refine (among_any B b m' sv w1.heap.size l.length l.length lo hi h1 (by omega) _ (hc'.alloc _) (by omega) (by omega) (by simp) (nums_at h3 w1)).mono ?_
    rintro e w' ⟨x, hx, he, ho, hc2⟩
    exact ⟨x, hx, he, ((Only.refl b w1).alloc _).trans ho, hc2⟩
  have HBW : Hid (b < w.heap.size) := hc.lies
  have g1 := GA.out [1, 2, 3, 4, 8, 64] 1 64 m w (by simp) (by simp) (by decide) hc (by omega)
  clear hc
  go_enter Tryd.func77, Tryd.ntmps77
  go_wp2_with fail
  refine g1.mono ?_
  rintro e w1 ⟨x1, ⟨hx1, hx64⟩, rfl, ho1, hc1⟩
  obtain ⟨k, rfl⟩ := Int.eq_ofNat_of_zero_le (show 0 ≤ x1 by omega)
  have hk1 : 1 ≤ k := by omega
  have hk : k ≤ 64 := by omega
  have g2 := GP.out 3 _ w1 (by omega) (by omega) hc1 (by omega)
  have HO1 : Hid (Only b w w1) := ho1
  clear g1 ho1 hc1
  go_wp2_with fail
  refine g2.mono ?_
  rintro e w2 ⟨y, ⟨hy0, hy1⟩, rfl, ho2, hc2⟩
  have g3 := ask2 B b _ sv k (1 + y) w2 hk1 hk (by omega) (by omega) hc2 (by omega)
  have HO2 : Hid (Only b w w2) := HO1.out.trans ho2
  clear g2 ho2 hc2 HO1
  go_wp2_with fail
  refine g3.mono ?_
  rintro e w3 ⟨v3, t3, rfl, hd3⟩
  have HD3 : Hid (Drawn B b _ sv 31 w w3 v3 t3) := hd3.since HO2.out
  have g4 := GO.out 3 _ w3 (by omega) (by omega) hd3.cur (by omega)
  clear g3 hd3
  go_wp2_with fail
  refine g4.mono ?_
  rintro e w4 ⟨x4, rfl, ho4, hc4⟩
  have HD4a : Hid (Drawn B b _ sv 31 w w4 v3 t3) := HD3.out.only HBW.out ho4 hc4
  have HC4 : Hid _ := hc4
  clear g4 ho4 hc4 HD3
  cases x4 with
  | true =>
    have g5 := num3 B b _ sv k (1 + y) w4 hk1 hk (by omega) (by omega) HC4.out (by omega)
    go_wp2_with fail
    refine g5.mono ?_
    rintro e w4b ⟨v4, t4, rfl, hd4⟩
    have HD4 : Hid (Drawn B b _ sv 31 w w4b v4 t4) := (hd4.since HD4a.out.2.2.2.2.1).more (Nat.le_refl _) (by omega)
    have HCT : Hid _ := hd4.cur
    clear g5 hd4 HD4a HC4
    have g6 := GP.out 40 _ w4b (by omega) (by omega) HCT.out (by omega)
    go_wp2_with fail
    refine g6.mono ?_
    rintro e w5 ⟨z, ⟨hzz0, hzz1⟩, rfl, ho5, hc5⟩
    have HD5 : Hid (Drawn B b _ sv 31 w w5 v4 t4) := HD4.out.only HBW.out ho5 hc5
    have HC5 : Hid _ := hc5
    clear g6 ho5 hc5 HD4 HCT
    obtain ⟨g, cap, hv4, hg4, hcap, hcapm⟩ := own_some HD5.out.1 HD5.out.2.2.1
    have hl1 : 1 ≤ t4.length := HD5.out.2.2.1
    have hl31 : t4.length ≤ 31 := HD5.out.2.2.2.1
    subst hv4
    by_cases z0 : z = 0
    · subst z0
      obtain ⟨x, r, hxr⟩ : ∃ x r, t4 = x :: r := by
        cases t4 with
        | nil => simp at hl1
        | cons x r => exact ⟨x, r, rfl⟩
      have d0 : w5.cell? ⟨g, 1, none⟩ = some (.int .u64 x.2) := by
        rw [World.ownsRow.cellAt HD5.out.1 1 (by omega), hxr]
        rfl
      have f0 := World.ownsRow.frozenAt HD5.out.1 1
      have HDZ : Hid (Drawn B b _ sv 31 w (w5.setCell ⟨g, 1, none⟩ (.int .u64 9223372036854775808)) (.slice (some ⟨g, 0, none⟩) t4.length cap) ((x.1, 9223372036854775808) :: r)) := drawn_store HD5.out rfl HBW.out (by rw [hxr]; rfl) (by rw [hxr]; rfl) (by
        intro y hy
        have hok := HD5.out.2.1
        rw [hxr] at hok
        rcases List.mem_cons.1 hy with rfl | hy
        · have := hok x (by simp)
          exact ⟨this.1, this.2.1, by simp, by simp⟩
        · exact hok y (by simp [hy]))
      clear hxr HD5
      go_wp2_with fail
      first
        | (go_ret3; exact ⟨k, _, _, _, rfl, Drawn.term HDZ.out (by omega) hk1 hk (by omega) (by omega) (by omega)⟩)
        | (go_region
           all_goals
             go_wp2_with fail
             go_ret3
             exact ⟨k, _, _, _, rfl, Drawn.term HDZ.out.drew (by omega) hk1 hk (by omega) (by omega) (by omega)⟩)
    by_cases z1 : z = 1
    · subst z1
      have HO6 : Hid (OwnNodes w5 w.heap.size (.slice (some ⟨g, 0, none⟩) (t4.length - 1) cap) (t4.take (t4.length - 1))) := own_cutN HD5.out.1 (by omega)
      have HT6 : Hid (TermD B b (m + 1000) sv w w5 k (1 + y) (.slice (some ⟨g, 0, none⟩) (t4.length - 1) cap) (t4.take (t4.length - 1))) := ⟨hk1, hk, by omega, by omega, HO6.out, fun x hx => HD5.out.2.1 x (List.mem_of_mem_take hx), by simp; omega, HD5.out.2.2.2.2.1, HC5.out.more (by omega)⟩
      obtain ⟨len1, hlen1⟩ : ∃ len1 : Nat, t4.length = len1 + 1 := ⟨t4.length - 1, by omega⟩
      rw [show t4.length - 1 = len1 from by omega] at HT6
      have hsub : (((len1 + 1 : Nat) : Int)) - 1 = (len1 : Int) := by omega
      rw [hlen1] at hcap hl31 ⊢
      clear HO6 HD5 hl1
      go_wp2_with fail
      go_ret3
      exact ⟨k, _, _, _, rfl, HT6.out⟩
    by_cases z2 : z = 2
    · subst z2
      have g7 := GA.out [0, 4, 5] 0 5 _ w5 (by simp) (by simp) (by decide) HC5.out (by omega)
      go_wp2_with fail
      refine g7.mono ?_
      rintro e w6 ⟨nv, ⟨hnv0, hnv1⟩, rfl, ho6, hc6⟩
      have HD6 : Hid (Drawn B b _ sv 31 w w6 (.slice (some ⟨g, 0, none⟩) t4.length cap) t4) := HD5.out.only HBW.out ho6 hc6
      clear g7 ho6 hc6 HD5
      go_wp2_with fail
      go_ret3
      exact ⟨k, _, _, _, rfl, Drawn.term HD6.out (by omega) hk1 hk (by omega) (by omega) (by omega)⟩
    by_cases z3 : z = 3
    · subst z3
      have g7 := GP.out 23 _ w5 (by omega) (by omega) HC5.out (by omega)
      go_wp2_with fail
      refine g7.mono ?_
      rintro e w6 ⟨nv, ⟨hnv0, hnv1⟩, rfl, ho6, hc6⟩
      have HD6 : Hid (Drawn B b _ sv 31 w w6 (.slice (some ⟨g, 0, none⟩) t4.length cap) t4) := HD5.out.only HBW.out ho6 hc6
      clear g7 ho6 hc6 HD5
      obtain ⟨r, x, hxr⟩ : ∃ r x, t4 = r ++ [x] := by
        have hne : t4 ≠ [] := by intro e; rw [e] at hl1; simp at hl1
        exact ⟨t4.dropLast, t4.getLast hne, (List.dropLast_concat_getLast hne).symm⟩
      have hrl : t4.length = r.length + 1 := by rw [hxr]; simp
      have d0 : w6.cell? ⟨g, r.length * 2, none⟩ = some (.int .i64 x.1) := by
        rw [World.ownsRow.cellAt HD6.out.1 (r.length * 2) (by omega), (flat_cell t4 r.length (by omega)).1]
        simp [hxr]
      have f0 := World.ownsRow.frozenAt HD6.out.1 (r.length * 2)
      have HDZ : Hid (Drawn B b _ sv 31 w (w6.setCell ⟨g, r.length * 2, none⟩ (.int .i64 nv)) (.slice (some ⟨g, 0, none⟩) t4.length cap) (r ++ [(nv, x.2)])) := drawn_store HD6.out rfl HBW.out (by rw [hxr]; exact flat_last r x nv) (by rw [hxr]; simp) (by
        intro y hy
        have hok := HD6.out.2.1
        rw [hxr] at hok
        rcases List.mem_append.1 hy with hy | hy
        · exact hok y (by simp [hy])
        · simp at hy
          subst hy
          have := hok x (by simp)
          exact ⟨by simp only; omega, by simp only; omega, this.2.2.1, this.2.2.2⟩)
      have hsub : ((t4.length : Nat) : Int) - 1 = (r.length : Int) := by omega
      have hrlt : r.length < t4.length := by omega
      clear hxr HD6 hrl
      generalize r.length = len1 at *
      go_wp2_with fail
      first
        | (go_ret3; exact ⟨k, _, _, _, rfl, Drawn.term HDZ.out (by omega) hk1 hk (by omega) (by omega) (by omega)⟩)
        | (go_region
           all_goals
             go_wp2_with fail
             go_ret3
             exact ⟨k, _, _, _, rfl, Drawn.term HDZ.out.drew (by omega) hk1 hk (by omega) (by omega) (by omega)⟩)
    have ez0 : (z == 0) = false := beq_eq_false_iff_ne.2 z0
    have ez1 : (z == 1) = false := beq_eq_false_iff_ne.2 z1
    have ez2 : (z == 2) = false := beq_eq_false_iff_ne.2 z2
    have ez3 : (z == 3) = false := beq_eq_false_iff_ne.2 z3
    clear z0 z1 z2 z3
    go_wp2_with fail
    go_ret3
    exact ⟨k, _, _, _, rfl, Drawn.term HD5.out (by omega) hk1 hk (by omega) (by omega) (by omega)⟩
  | false =>
    have HD4 : Hid (Drawn B b _ sv 31 w w4 v3 t3) := HD4a.out
    have HCT : Hid _ := HC4.out
    clear HD4a HC4
    generalize v3 = v4 at *
    generalize t3 = t4 at *
    have g6 := GP.out 40 _ w4 (by omega) (by omega) HCT.out (by omega)
    go_wp2_with fail
    refine g6.mono ?_
    rintro e w5 ⟨z, ⟨hzz0, hzz1⟩, rfl, ho5, hc5⟩
    have HD5 : Hid (Drawn B b _ sv 31 w w5 v4 t4) := HD4.out.only HBW.out ho5 hc5
    have HC5 : Hid _ := hc5
    clear g6 ho5 hc5 HD4 HCT
    obtain ⟨g, cap, hv4, hg4, hcap, hcapm⟩ := own_some HD5.out.1 HD5.out.2.2.1
    have hl1 : 1 ≤ t4.length := HD5.out.2.2.1
    have hl31 : t4.length ≤ 31 := HD5.out.2.2.2.1
    subst hv4
    by_cases z0 : z = 0
    · subst z0
      obtain ⟨x, r, hxr⟩ : ∃ x r, t4 = x :: r := by
        cases t4 with
        | nil => simp at hl1
        | cons x r => exact ⟨x, r, rfl⟩
      have d0 : w5.cell? ⟨g, 1, none⟩ = some (.int .u64 x.2) := by
        rw [World.ownsRow.cellAt HD5.out.1 1 (by omega), hxr]
        rfl
      have f0 := World.ownsRow.frozenAt HD5.out.1 1
      have HDZ : Hid (Drawn B b _ sv 31 w (w5.setCell ⟨g, 1, none⟩ (.int .u64 9223372036854775808)) (.slice (some ⟨g, 0, none⟩) t4.length cap) ((x.1, 9223372036854775808) :: r)) := drawn_store HD5.out rfl HBW.out (by rw [hxr]; rfl) (by rw [hxr]; rfl) (by
        intro y hy
        have hok := HD5.out.2.1
        rw [hxr] at hok
        rcases List.mem_cons.1 hy with rfl | hy
        · have := hok x (by simp)
          exact ⟨this.1, this.2.1, by simp, by simp⟩
        · exact hok y (by simp [hy]))
      clear hxr HD5
      go_wp2_with fail
      first
        | (go_ret3; exact ⟨k, _, _, _, rfl, Drawn.term HDZ.out (by omega) hk1 hk (by omega) (by omega) (by omega)⟩)
        | (go_region
           all_goals
             go_wp2_with fail
             go_ret3
             exact ⟨k, _, _, _, rfl, Drawn.term HDZ.out.drew (by omega) hk1 hk (by omega) (by omega) (by omega)⟩)
    by_cases z1 : z = 1
    · subst z1
      have HO6 : Hid (OwnNodes w5 w.heap.size (.slice (some ⟨g, 0, none⟩) (t4.length - 1) cap) (t4.take (t4.length - 1))) := own_cutN HD5.out.1 (by omega)
      have HT6 : Hid (TermD B b (m + 1000) sv w w5 k (1 + y) (.slice (some ⟨g, 0, none⟩) (t4.length - 1) cap) (t4.take (t4.length - 1))) := ⟨hk1, hk, by omega, by omega, HO6.out, fun x hx => HD5.out.2.1 x (List.mem_of_mem_take hx), by simp; omega, HD5.out.2.2.2.2.1, HC5.out.more (by omega)⟩
      obtain ⟨len1, hlen1⟩ : ∃ len1 : Nat, t4.length = len1 + 1 := ⟨t4.length - 1, by omega⟩
      rw [show t4.length - 1 = len1 from by omega] at HT6
      have hsub : (((len1 + 1 : Nat) : Int)) - 1 = (len1 : Int) := by omega
      rw [hlen1] at hcap hl31 ⊢
      clear HO6 HD5 hl1
      go_wp2_with fail
      go_ret3
      exact ⟨k, _, _, _, rfl, HT6.out⟩
    by_cases z2 : z = 2
    · subst z2
      have g7 := GA.out [0, 4, 5] 0 5 _ w5 (by simp) (by simp) (by decide) HC5.out (by omega)
      go_wp2_with fail
      refine g7.mono ?_
      rintro e w6 ⟨nv, ⟨hnv0, hnv1⟩, rfl, ho6, hc6⟩
      have HD6 : Hid (Drawn B b _ sv 31 w w6 (.slice (some ⟨g, 0, none⟩) t4.length cap) t4) := HD5.out.only HBW.out ho6 hc6
      clear g7 ho6 hc6 HD5
      go_wp2_with fail
      go_ret3
      exact ⟨k, _, _, _, rfl, Drawn.term HD6.out (by omega) hk1 hk (by omega) (by omega) (by omega)⟩
    by_cases z3 : z = 3
    · subst z3
      have g7 := GP.out 23 _ w5 (by omega) (by omega) HC5.out (by omega)
      go_wp2_with fail
      refine g7.mono ?_
      rintro e w6 ⟨nv, ⟨hnv0, hnv1⟩, rfl, ho6, hc6⟩
      have HD6 : Hid (Drawn B b _ sv 31 w w6 (.slice (some ⟨g, 0, none⟩) t4.length cap) t4) := HD5.out.only HBW.out ho6 hc6
      clear g7 ho6 hc6 HD5
      obtain ⟨r, x, hxr⟩ : ∃ r x, t4 = r ++ [x] := by
        have hne : t4 ≠ [] := by intro e; rw [e] at hl1; simp at hl1
        exact ⟨t4.dropLast, t4.getLast hne, (List.dropLast_concat_getLast hne).symm⟩
      have hrl : t4.length = r.length + 1 := by rw [hxr]; simp
      have d0 : w6.cell? ⟨g, r.length * 2, none⟩ = some (.int .i64 x.1) := by
        rw [World.ownsRow.cellAt HD6.out.1 (r.length * 2) (by omega), (flat_cell t4 r.length (by omega)).1]
        simp [hxr]
      have f0 := World.ownsRow.frozenAt HD6.out.1 (r.length * 2)
      have HDZ : Hid (Drawn B b _ sv 31 w (w6.setCell ⟨g, r.length * 2, none⟩ (.int .i64 nv)) (.slice (some ⟨g, 0, none⟩) t4.length cap) (r ++ [(nv, x.2)])) := drawn_store HD6.out rfl HBW.out (by rw [hxr]; exact flat_last r x nv) (by rw [hxr]; simp) (by
        intro y hy
        have hok := HD6.out.2.1
        rw [hxr] at hok
        rcases List.mem_append.1 hy with hy | hy
        · exact hok y (by simp [hy])
        · simp at hy
          subst hy
          have := hok x (by simp)
          exact ⟨by simp only; omega, by simp only; omega, this.2.2.1, this.2.2.2⟩)
      have hsub : ((t4.length : Nat) : Int) - 1 = (r.length : Int) := by omega
      have hrlt : r.length < t4.length := by omega
      clear hxr HD6 hrl
      generalize r.length = len1 at *
      go_wp2_with fail
      first
        | (go_ret3; exact ⟨k, _, _, _, rfl, Drawn.term HDZ.out (by omega) hk1 hk (by omega) (by omega) (by omega)⟩)
        | (go_region
           all_goals
             go_wp2_with fail
             go_ret3
             exact ⟨k, _, _, _, rfl, Drawn.term HDZ.out.drew (by omega) hk1 hk (by omega) (by omega) (by omega)⟩)
    have ez0 : (z == 0) = false := beq_eq_false_iff_ne.2 z0
    have ez1 : (z == 1) = false := beq_eq_false_iff_ne.2 z1
    have ez2 : (z == 2) = false := beq_eq_false_iff_ne.2 z2
    have ez3 : (z == 3) = false := beq_eq_false_iff_ne.2 z3
    clear z0 z1 z2 z3
    go_wp2_with fail
    go_ret3
    exact ⟨k, _, _, _, rfl, Drawn.term HD5.out (by omega) hk1 hk (by omega) (by omega) (by omega)⟩
end Go.Proofs.YtjbfembblgkakaaDoor
