/-
  The model's reader of terms: kinds and leaves.
-/
import Derived.Test.YtkfplichekebdaaDoorRd
import Derived.Test.YtkfplichekebdaaDoorSign
namespace Go.Proofs.YtkfplichekebdaaDoor
open Go Go.RowKit
open M
set_option linter.unusedVariables false

theorem RdTo.trans {u v w : World} {b Bo : Nat} {wide vars : Int} {long : Nat} {l : List M.Tok} {o : List Nd} {code at_ : Int} {x y : Value} (k : RdTo v w b Bo y wide vars long l o code at_) (h : Keep b u v x y) : RdTo u w b Bo x wide vars long l o code at_ := by
  obtain ⟨vt, vo, h1, h2⟩ := k
  exact ⟨vt, vo, h1, h.trans h2⟩
theorem keep_drew {b : Nat} {u w : World} {x y : Value} (h : Keep b u w x y) : Keep b u w.drew x y := ⟨h.os, h.tape, h.output, h.size, h.block, h.row⟩
theorem cut_run {w : World} {b g off cap : Nat} {l : List M.Tok} (htl : ∀ cap', l.length ≤ cap' → ToksIn w b (.slice (some ⟨g, off + 2, none⟩) l.length cap') l) (hcap : l.length + 1 ≤ cap) :
    ∃ (a : Option Addr) (c : Nat), (∀ W : World, (Instr.slice 28 (.slice (some ⟨g, off, none⟩) (l.length + 1) cap) (some (.int .i64 1)) none none).run Tryd.prog W = .ok (.slice a l.length c) W) ∧ ToksIn w b (.slice a l.length c) l := by
  obtain ⟨h1, h2⟩ := ToksIn.cut htl hcap
  have hu := Tryd.underlying28
  have hz := Tryd.sizeOf55
  by_cases ht : cap = 1
  · have hl : l.length = 0 := by omega
    rw [hl]
    subst ht
    refine ⟨some ⟨g, off, none⟩, 0, fun W => ?_, h1 rfl _ _⟩
    go_simp
  · refine ⟨some ⟨g, off + 2, none⟩, cap - 1, fun W => ?_, h2 ht⟩
    go_simp
    intro h
    omega
/-- a token is taken off -/
theorem RdAt.pop {w : World} {b Bo : Nat} {wide vars : Int} {long : Nat} {vt vo : Value} {p : Nat} {s : Tx} {l : List M.Tok} {o : List Nd} {code at_ : Int} (h : RdAt w b Bo wide vars long vt vo ((p, s) :: l) o code at_) :
    ∃ (g off cap : Nat) (a : Option Addr) (c : Nat), vt = .slice (Option.some ⟨g, off, none⟩) (l.length + 1) cap ∧ g < b ∧ w.cell? ⟨g, off, none⟩ = Option.some (.int .i64 (p : Int)) ∧ w.cell? ⟨g, off + 1, none⟩ = Option.some (tx s) ∧
      (∀ W : World, (Instr.slice 28 (.slice (Option.some ⟨g, off, none⟩) (l.length + 1) cap) (Option.some (.int .i64 1)) none none).run Tryd.prog W = .ok (.slice a l.length c) W) ∧
      RdAt (w.setCell ⟨b, 2, none⟩ (.slice a l.length c)) b Bo wide vars long (.slice a l.length c) vo l o code at_ ∧ l.length + 1 ≤ 1000 := by
  obtain ⟨ta, tc, hsh⟩ := h.toks.shape
  subst hsh
  obtain ⟨g, off, rfl, hg, t0, t1, htl, hcap⟩ := h.toks.first
  obtain ⟨a, c, hr, ht⟩ := cut_run htl hcap
  have hm := h.many
  simp only [List.length_cons] at hm
  exact ⟨g, off, tc, a, c, rfl, hg, t0, t1, hr, h.moved ht (by omega), hm⟩
set_option maxRecDepth 100000 in
set_option maxHeartbeats 1000000 in
theorem kinds_yes {w : World} {b Bo : Nat} {wide vars : Int} {long : Nat} {vt vo : Value} {l : List M.Tok} {o : List Nd} {code at_ : Int} (h : RdAt w b Bo wide vars long vt vo l o code at_) (op p a c : Int) (hol : o.length < 1000)
    (hm : (manyOf op = 1 ∧ a = partOf op) ∨ (manyOf op = 2 ∧ a = partOf op ∧ c = partOf op)) :
    Calls Tryd.prog 73 #[ptr b, .int .i64 op, .int .i64 p, .int .i64 a, .int .i64 c] w fun e w' => e = .returned (.int .i64 (ownOf op)) ∧ RdTo w w' b Bo vo wide vars long l (o ++ [(op, 0)]) code at_ := by
  have g := l2Need_any op w
  have gp := put_any h op 0 hol
  have GP : Hid (Calls Tryd.prog 94 #[ptr b, .int .i64 op, .int .u64 0] w fun e w' => e = .returned (.int .i64 (ownOf op)) ∧ RdTo w w' b Bo vo wide vars long l (o ++ [(op, 0)]) code at_) := gp
  clear h gp
  generalize ownOf op = ow at *
  rcases hm with ⟨h1, rfl⟩ | ⟨h1, rfl, rfl⟩
  · rw [h1] at g
    clear h1
    generalize partOf op = q at *
    go_enter Tryd.func73, Tryd.ntmps73
    go_wp2_with fail
    refine g.mono ?_
    rintro e w1 ⟨rfl, rfl⟩
    clear g
    go_wp2_with fail
    refine (Hid.out GP).mono ?_
    rintro e w2 ⟨rfl, hr⟩
    have HR : Hid (RdTo w1 w2 b Bo vo wide vars long l (o ++ [(op, 0)]) code at_) := hr
    clear GP hr
    go_wp2_with fail
    go_ret
    exact ⟨rfl, HR.out⟩
  · rw [h1] at g
    clear h1
    generalize partOf op = q at *
    go_enter Tryd.func73, Tryd.ntmps73
    go_wp2_with fail
    refine g.mono ?_
    rintro e w1 ⟨rfl, rfl⟩
    clear g
    go_wp2_with fail
    refine (Hid.out GP).mono ?_
    rintro e w2 ⟨rfl, hr⟩
    have HR : Hid (RdTo w1 w2 b Bo vo wide vars long l (o ++ [(op, 0)]) code at_) := hr
    clear GP hr
    go_wp2_with fail
    go_ret
    exact ⟨rfl, HR.out⟩
set_option maxRecDepth 100000 in
set_option maxHeartbeats 1000000 in
theorem kinds_no {w : World} {b Bo : Nat} {wide vars : Int} {long : Nat} {vt vo : Value} {l : List M.Tok} {o : List Nd} {code at_ : Int} (h : RdAt w b Bo wide vars long vt vo l o code at_) (op p a c : Int)
    (hm : (manyOf op = 1 ∧ a ≠ partOf op) ∨ (manyOf op = 2 ∧ (a ≠ partOf op ∨ c ≠ partOf op))) :
    Calls Tryd.prog 73 #[ptr b, .int .i64 op, .int .i64 p, .int .i64 a, .int .i64 c] w fun e w' => e = .returned (.int .i64 0) ∧ RdTo w w' b Bo vo wide vars long l o 6 p := by
  have g := l2Need_any op w
  obtain ⟨c0, c1, c2, c3, c4, c5, c6⟩ := h.cell
  have f5 := frozen_heap (o := 5) h.heap
  have f6 := frozen_heap (o := 6) h.heap
  have HF : Hid (RdTo w ((w.setCell ⟨b, 5, none⟩ (.int .i64 6)).setCell ⟨b, 6, none⟩ (.int .i64 p)) b Bo vo wide vars long l o 6 p) := ⟨_, _, h.faulted 6 p, ((Keep.refl b w vo).set 5 _).set 6 _⟩
  clear h
  generalize ownOf op = ow at *
  have hm2 : a ≠ partOf op ∨ (a = partOf op ∧ manyOf op = 2 ∧ c ≠ partOf op) := by
    by_cases ha : a = partOf op
    · rcases hm with ⟨_, h⟩ | ⟨h2, h | h⟩
      · exact absurd ha h
      · exact absurd ha h
      · exact Or.inr ⟨ha, h2, h⟩
    · exact Or.inl ha
  rcases hm2 with ha | ⟨rfl, h1, hc⟩
  · have e1 : (a != partOf op) = true := bne_iff_ne.2 ha
    clear hm ha
    generalize partOf op = q at *
    generalize manyOf op = m at *
    go_enter Tryd.func73, Tryd.ntmps73
    go_wp2_with fail
    refine g.mono ?_
    rintro e w1 ⟨rfl, rfl⟩
    clear g
    go_wp2_with fail
    go_ret
    exact ⟨rfl, HF.out⟩
  · rw [h1] at g
    have e1 : (c != partOf op) = true := bne_iff_ne.2 hc
    clear hm hc h1
    generalize partOf op = q at *
    go_enter Tryd.func73, Tryd.ntmps73
    go_wp2_with fail
    refine g.mono ?_
    rintro e w1 ⟨rfl, rfl⟩
    clear g
    go_wp2_with fail
    go_ret
    exact ⟨rfl, HF.out⟩
set_option maxRecDepth 100000 in
set_option maxHeartbeats 2000000 in
theorem leaf_digit {w : World} {b Bo : Nat} {wide vars : Int} {long : Nat} {vt vo : Value} {p : Nat} {ch : UInt8} {r : Tx} {l : List M.Tok} {o : List Nd} (h : RdAt w b Bo wide vars long vt vo ((p, ch :: r) :: l) o 0 0) (hol : o.length < 1000) (hs : (ch :: r).length ≤ 800) (hd : isDig ch = true) (Y : Bool) (hY : (isNum (ch :: r) && goodB wide (readN (ch :: r))) = Y) :
    Calls Tryd.prog 72 #[ptr b, tx (ch :: r)] w fun e w' => (Y = true ∧ e = .returned (.int .i64 1) ∧ RdTo w w' b Bo vo wide vars long l (o ++ [(1, (readN (ch :: r) : Int))]) 0 0) ∨ (Y = false ∧ e = .returned (.int .i64 0) ∧ RdTo w w' b Bo vo wide vars long ((p, ch :: r) :: l) o 4 (p : Int)) := by
  have hlet : isLet ch = false := by
    have := isDig_nat hd
    cases e : isLet ch with
    | false => rfl
    | true => have := isLet_nat e; omega
  have gn := sReadNum_any (ch :: r) (by omega) w
  have GL : Hid (∀ w1 : World, Calls Tryd.prog 57 #[.int .u8 (ch.toNat : Int)] w1 fun e w' => e = .returned (.bool false) ∧ w' = w1) := fun w1 => by
    have g := l3Letter_any ch w1
    rw [hlet] at g
    exact g
  have GD : Hid (∀ w1 : World, Calls Tryd.prog 56 #[.int .u8 (ch.toNat : Int)] w1 fun e w' => e = .returned (.bool true) ∧ w' = w1) := fun w1 => by
    have g := l3Digit_any ch w1
    rw [hd] at g
    exact g
  have he := tx_at (l := ch :: r) (j := 0) (c := ch) rfl (by rw [tx_size]; simp)
  have hsz : (0 : Int) < ((ch :: r).length : Int) := by simp
  have HR : Hid (∀ w1 : World, Below w.heap.size w w1 → RdAt w1 b Bo wide vars long vt vo ((p, ch :: r) :: l) o 0 0) := fun w1 hb => h.later hb
  have GG : Hid (∀ w1 : World, Calls Tryd.prog 93 #[.int .i64 wide, .int .u64 (readN (ch :: r) : Int)] w1 fun e w' => e = .returned (.bool (goodB wide (readN (ch :: r)))) ∧ w' = w1) := fun w1 => sGoodWord_any wide (readN (ch :: r)) (by omega) (by have := readN_lt (ch :: r); omega) w1
  have HK : Hid (∀ w1 : World, Below w.heap.size w w1 → Keep b w w1 vo vo) := fun w1 hb => Keep.below vo hb
  have HY : Hid ((isNum (ch :: r) && goodB wide (readN (ch :: r))) = Y) := hY
  clear h hY hd hlet
  generalize readN (ch :: r) = N at *
  generalize isNum (ch :: r) = I at *
  generalize goodB wide (N : Int) = G at *
  go_enter Tryd.func72, Tryd.ntmps72
  go_wp2_with fail
  refine gn.mono ?_
  rintro e w1 ⟨rfl, hb1⟩
  have hr1 := HR.out w1 hb1
  have HK1 : Hid (Keep b w w1 vo vo) := HK.out w1 hb1
  have gf := fault_any hr1 4
  have HF1 : Hid (Calls Tryd.prog 46 #[ptr b, .int .i64 4] w1 fun e w' => e = .returned (.int .i64 0) ∧ RdTo w1 w' b Bo vo wide vars long ((p, ch :: r) :: l) o 4 (p : Int)) := gf
  obtain ⟨c0, c1, c2, c3, c4, c5, c6⟩ := hr1.cell
  have f2 := frozen_heap (o := 2) hr1.heap
  obtain ⟨g, off, cap, a, c, rfl, hg, t0, t1, hcut, hr2, hl1⟩ := hr1.pop
  have HP : Hid (Calls Tryd.prog 94 #[ptr b, .int .i64 1, .int .u64 (N : Int)] (w1.setCell ⟨b, 2, none⟩ (.slice a l.length c)) fun e w' => e = .returned (.int .i64 (ownOf 1)) ∧ RdTo (w1.setCell ⟨b, 2, none⟩ (.slice a l.length c)) w' b Bo vo wide vars long l (o ++ [(1, (N : Int))]) 0 0) := put_any hr2 1 (N : Int) hol
  have HK2 : Hid (Keep b w (w1.setCell ⟨b, 2, none⟩ (.slice a l.length c)) vo vo) := HK1.out.set 2 _
  clear gn gf hb1 hr1 hr2 HK HR
  generalize l.length = ln at *
  go_wp2_with fail
  refine (GL.out _).mono ?_
  rintro e w2 ⟨rfl, rfl⟩
  go_wp2_with fail
  refine (GD.out _).mono ?_
  rintro e w2 ⟨rfl, rfl⟩
  cases I with
  | false =>
    go_wp2_with fail
    refine (Hid.out HF1).mono ?_
    rintro e w3 ⟨rfl, hr3⟩
    have H3 : Hid (RdTo w w3 b Bo vo wide vars long ((p, ch :: r) :: l) o 4 (p : Int)) := hr3.trans HK1.out
    clear hr3
    go_wp2_with fail
    go_ret
    exact Or.inr ⟨by have := HY.out; simpa using this.symm, rfl, H3.out⟩
  | true =>
    go_wp2_with fail
    refine (GG.out _).mono ?_
    rintro e w3 ⟨rfl, rfl⟩
    cases G with
    | false =>
      go_wp2_with fail
      refine (Hid.out HF1).mono ?_
      rintro e w4 ⟨rfl, hr3⟩
      have H3 : Hid (RdTo w w4 b Bo vo wide vars long ((p, ch :: r) :: l) o 4 (p : Int)) := hr3.trans HK1.out
      clear hr3
      go_wp2_with fail
      go_ret
      exact Or.inr ⟨by have := HY.out; simpa using this.symm, rfl, H3.out⟩
    | true =>
      go_wp2_with fail
      refine (GL.out _).mono ?_
      rintro e w4 ⟨rfl, rfl⟩
      go_wp2_with fail
      refine (Hid.out HP).mono ?_
      rintro e w4 ⟨rfl, hr3⟩
      have H3 : Hid (RdTo w w4 b Bo vo wide vars long l (o ++ [(1, (N : Int))]) 0 0) := hr3.trans HK2.out
      clear hr3
      go_wp2_with fail
      go_ret
      exact Or.inl ⟨by have := HY.out; simpa using this.symm, rfl, H3.out⟩
set_option maxRecDepth 100000 in
set_option maxHeartbeats 2000000 in
theorem leaf_yes {w : World} {b Bo : Nat} {wide vars : Int} {long : Nat} {vt vo : Value} {p : Nat}  {l : List M.Tok} {o : List Nd} (h : RdAt w b Bo wide vars long vt vo ((p, [121, 101, 115]) :: l) o 0 0) (hol : o.length < 1000)  :
    Calls Tryd.prog 72 #[ptr b, tx ([121, 101, 115])] w fun e w' => e = .returned (.int .i64 (2)) ∧ RdTo w w' b Bo vo wide vars long l (o ++ [(20, 1)]) 0 0 := by
  have hlet : isLet 121 = true := by decide
  have hdig : isDig 121 = false := by decide
  have gn := sReadNum_any ([121, 101, 115]) (by simp) w
  have GL : Hid (∀ w1 : World, Calls Tryd.prog 57 #[.int .u8 (121 : Int)] w1 fun e w' => e = .returned (.bool true) ∧ w' = w1) := fun w1 => by
    have g := l3Letter_any 121 w1
    rw [hlet] at g
    exact g
  have GD : Hid (∀ w1 : World, Calls Tryd.prog 56 #[.int .u8 (121 : Int)] w1 fun e w' => e = .returned (.bool false) ∧ w' = w1) := fun w1 => by
    have g := l3Digit_any 121 w1
    rw [hdig] at g
    exact g
  have HR : Hid (∀ w1 : World, Below w.heap.size w w1 → RdAt w1 b Bo wide vars long vt vo ((p, [121, 101, 115]) :: l) o 0 0) := fun w1 hb => h.later hb
  have HK : Hid (∀ w1 : World, Below w.heap.size w w1 → Keep b w w1 vo vo) := fun w1 hb => Keep.below vo hb
  clear h hlet hdig
  generalize readN ([121, 101, 115]) = N0 at *
  generalize isNum ([121, 101, 115]) = I at *
  go_enter Tryd.func72, Tryd.ntmps72
  go_wp2_with fail
  refine gn.mono ?_
  rintro e w1 ⟨rfl, hb1⟩
  have hr1 := HR.out w1 hb1
  have HK1 : Hid (Keep b w w1 vo vo) := HK.out w1 hb1
  obtain ⟨c0, c1, c2, c3, c4, c5, c6⟩ := hr1.cell
  have f2 := frozen_heap (o := 2) hr1.heap
  obtain ⟨g, off, cap, a, c, rfl, hg, t0, t1, hcut, hr2, hl1⟩ := hr1.pop
  have HP : Hid (Calls Tryd.prog 94 #[ptr b, .int .i64 20, .int .u64 1] (w1.setCell ⟨b, 2, none⟩ (.slice a l.length c)).drew fun e w' => e = .returned (.int .i64 (ownOf 20)) ∧ RdTo (w1.setCell ⟨b, 2, none⟩ (.slice a l.length c)).drew w' b Bo vo wide vars long l (o ++ [(20, 1)]) 0 0) := put_any (hr2.later (Below.refl _ _).drew) 20 1 hol
  have HK2 : Hid (Keep b w (w1.setCell ⟨b, 2, none⟩ (.slice a l.length c)).drew vo vo) := keep_drew (HK1.out.set 2 _)
  clear hr2
  generalize l.length = ln at *
  clear gn hb1 hr1 HK HR
  go_wp2_with fail
  refine (GL.out _).mono ?_
  rintro e w2 ⟨rfl, rfl⟩
  go_wp2_with fail
  go_region
  all_goals
    go_wp2_with fail
    refine (GD.out _).mono ?_
    rintro e w2 ⟨rfl, rfl⟩
    go_wp2_with fail
    refine (GL.out _).mono ?_
    rintro e w2 ⟨rfl, rfl⟩
    go_wp2_with fail
    refine (Hid.out HP).mono ?_
    rintro e w4 ⟨rfl, hr3⟩
    have H3 : Hid (RdTo w w4 b Bo vo wide vars long l (o ++ [(20, 1)]) 0 0) := hr3.trans HK2.out
    clear hr3
    go_wp2_with fail
    go_ret
    exact ⟨rfl, H3.out⟩
set_option maxRecDepth 100000 in
set_option maxHeartbeats 2000000 in
theorem leaf_no {w : World} {b Bo : Nat} {wide vars : Int} {long : Nat} {vt vo : Value} {p : Nat}  {l : List M.Tok} {o : List Nd} (h : RdAt w b Bo wide vars long vt vo ((p, [110, 111]) :: l) o 0 0) (hol : o.length < 1000)  :
    Calls Tryd.prog 72 #[ptr b, tx ([110, 111])] w fun e w' => e = .returned (.int .i64 (2)) ∧ RdTo w w' b Bo vo wide vars long l (o ++ [(20, 0)]) 0 0 := by
  have hlet : isLet 110 = true := by decide
  have hdig : isDig 110 = false := by decide
  have gn := sReadNum_any ([110, 111]) (by simp) w
  have GL : Hid (∀ w1 : World, Calls Tryd.prog 57 #[.int .u8 (110 : Int)] w1 fun e w' => e = .returned (.bool true) ∧ w' = w1) := fun w1 => by
    have g := l3Letter_any 110 w1
    rw [hlet] at g
    exact g
  have GD : Hid (∀ w1 : World, Calls Tryd.prog 56 #[.int .u8 (110 : Int)] w1 fun e w' => e = .returned (.bool false) ∧ w' = w1) := fun w1 => by
    have g := l3Digit_any 110 w1
    rw [hdig] at g
    exact g
  have HR : Hid (∀ w1 : World, Below w.heap.size w w1 → RdAt w1 b Bo wide vars long vt vo ((p, [110, 111]) :: l) o 0 0) := fun w1 hb => h.later hb
  have HK : Hid (∀ w1 : World, Below w.heap.size w w1 → Keep b w w1 vo vo) := fun w1 hb => Keep.below vo hb
  clear h hlet hdig
  generalize readN ([110, 111]) = N0 at *
  generalize isNum ([110, 111]) = I at *
  go_enter Tryd.func72, Tryd.ntmps72
  go_wp2_with fail
  refine gn.mono ?_
  rintro e w1 ⟨rfl, hb1⟩
  have hr1 := HR.out w1 hb1
  have HK1 : Hid (Keep b w w1 vo vo) := HK.out w1 hb1
  obtain ⟨c0, c1, c2, c3, c4, c5, c6⟩ := hr1.cell
  have f2 := frozen_heap (o := 2) hr1.heap
  obtain ⟨g, off, cap, a, c, rfl, hg, t0, t1, hcut, hr2, hl1⟩ := hr1.pop
  have HP : Hid (Calls Tryd.prog 94 #[ptr b, .int .i64 20, .int .u64 0] (w1.setCell ⟨b, 2, none⟩ (.slice a l.length c)).drew fun e w' => e = .returned (.int .i64 (ownOf 20)) ∧ RdTo (w1.setCell ⟨b, 2, none⟩ (.slice a l.length c)).drew w' b Bo vo wide vars long l (o ++ [(20, 0)]) 0 0) := put_any (hr2.later (Below.refl _ _).drew) 20 0 hol
  have HK2 : Hid (Keep b w (w1.setCell ⟨b, 2, none⟩ (.slice a l.length c)).drew vo vo) := keep_drew (HK1.out.set 2 _)
  clear hr2
  generalize l.length = ln at *
  clear gn hb1 hr1 HK HR
  go_wp2_with fail
  refine (GL.out _).mono ?_
  rintro e w2 ⟨rfl, rfl⟩
  go_wp2_with fail
  go_region
  all_goals
    go_wp2_with fail
    refine (GD.out _).mono ?_
    rintro e w2 ⟨rfl, rfl⟩
    go_wp2_with fail
    refine (GL.out _).mono ?_
    rintro e w2 ⟨rfl, rfl⟩
    go_wp2_with fail
    refine (Hid.out HP).mono ?_
    rintro e w4 ⟨rfl, hr3⟩
    have H3 : Hid (RdTo w w4 b Bo vo wide vars long l (o ++ [(20, 0)]) 0 0) := hr3.trans HK2.out
    clear hr3
    go_wp2_with fail
    go_ret
    exact ⟨rfl, H3.out⟩
set_option maxRecDepth 100000 in
set_option maxHeartbeats 2000000 in
theorem leaf_var {w : World} {b Bo : Nat} {wide vars : Int} {long : Nat} {vt vo : Value} {p : Nat} {ch : UInt8} {l : List M.Tok} {o : List Nd} (h : RdAt w b Bo wide vars long vt vo ((p, [ch]) :: l) o 0 0) (hol : o.length < 1000) (hlet : isLet ch = true) (hv : ((ch.toNat : Int) - 97) < vars) :
    Calls Tryd.prog 72 #[ptr b, tx ([ch])] w fun e w' => e = .returned (.int .i64 (1)) ∧ RdTo w w' b Bo vo wide vars long l (o ++ [(2, ((ch.toNat : Int) - 97))]) 0 0 := by
  have hdig : isDig ch = false := by
    have := isLet_nat hlet
    cases e : isDig ch with
    | false => rfl
    | true => have := isDig_nat e; omega
  have hb := isLet_nat hlet
  have gn := sReadNum_any ([ch]) (by simp) w
  have GL : Hid (∀ w1 : World, Calls Tryd.prog 57 #[.int .u8 (ch.toNat : Int)] w1 fun e w' => e = .returned (.bool true) ∧ w' = w1) := fun w1 => by
    have g := l3Letter_any ch w1
    rw [hlet] at g
    exact g
  have GD : Hid (∀ w1 : World, Calls Tryd.prog 56 #[.int .u8 (ch.toNat : Int)] w1 fun e w' => e = .returned (.bool false) ∧ w' = w1) := fun w1 => by
    have g := l3Digit_any ch w1
    rw [hdig] at g
    exact g
  have he := tx_at (l := [ch]) (j := 0) (c := ch) rfl (by rw [tx_size]; simp)
  have HR : Hid (∀ w1 : World, Below w.heap.size w w1 → RdAt w1 b Bo wide vars long vt vo ((p, [ch]) :: l) o 0 0) := fun w1 hb => h.later hb
  have HK : Hid (∀ w1 : World, Below w.heap.size w w1 → Keep b w w1 vo vo) := fun w1 hb => Keep.below vo hb
  clear h hlet hdig
  generalize readN ([ch]) = N0 at *
  generalize isNum ([ch]) = I at *
  go_enter Tryd.func72, Tryd.ntmps72
  go_wp2_with fail
  refine gn.mono ?_
  rintro e w1 ⟨rfl, hb1⟩
  have hr1 := HR.out w1 hb1
  have HK1 : Hid (Keep b w w1 vo vo) := HK.out w1 hb1
  obtain ⟨c0, c1, c2, c3, c4, c5, c6⟩ := hr1.cell
  have f2 := frozen_heap (o := 2) hr1.heap
  obtain ⟨g, off, cap, a, c, rfl, hg, t0, t1, hcut, hr2, hl1⟩ := hr1.pop
  have HP : Hid (Calls Tryd.prog 94 #[ptr b, .int .i64 2, .int .u64 ((ch.toNat : Int) - 97)] (w1.setCell ⟨b, 2, none⟩ (.slice a l.length c)).drew fun e w' => e = .returned (.int .i64 (ownOf 2)) ∧ RdTo (w1.setCell ⟨b, 2, none⟩ (.slice a l.length c)).drew w' b Bo vo wide vars long l (o ++ [(2, ((ch.toNat : Int) - 97))]) 0 0) := put_any (hr2.later (Below.refl _ _).drew) 2 ((ch.toNat : Int) - 97) hol
  have HK2 : Hid (Keep b w (w1.setCell ⟨b, 2, none⟩ (.slice a l.length c)).drew vo vo) := keep_drew (HK1.out.set 2 _)
  clear hr2
  generalize l.length = ln at *
  clear gn hb1 hr1 HK HR
  go_wp2_with fail
  refine (GL.out _).mono ?_
  rintro e w2 ⟨rfl, rfl⟩
  go_wp2_with fail
  go_region
  all_goals
    go_wp2_with fail
    refine (GD.out _).mono ?_
    rintro e w2 ⟨rfl, rfl⟩
    go_wp2_with fail
    refine (GL.out _).mono ?_
    rintro e w2 ⟨rfl, rfl⟩
    go_wp2_with fail
    refine (Hid.out HP).mono ?_
    rintro e w4 ⟨rfl, hr3⟩
    have H3 : Hid (RdTo w w4 b Bo vo wide vars long l (o ++ [(2, ((ch.toNat : Int) - 97))]) 0 0) := hr3.trans HK2.out
    clear hr3
    go_wp2_with fail
    go_ret
    exact ⟨rfl, H3.out⟩
set_option maxRecDepth 100000 in
set_option maxHeartbeats 2000000 in
theorem leaf_novar {w : World} {b Bo : Nat} {wide vars : Int} {long : Nat} {vt vo : Value} {p : Nat} {ch : UInt8} {l : List M.Tok} {o : List Nd} (h : RdAt w b Bo wide vars long vt vo ((p, [ch]) :: l) o 0 0) (hol : o.length < 1000) (hlet : isLet ch = true) (hv : ¬ ((ch.toNat : Int) - 97) < vars) :
    Calls Tryd.prog 72 #[ptr b, tx ([ch])] w fun e w' => e = .returned (.int .i64 0) ∧ RdTo w w' b Bo vo wide vars long ((p, [ch]) :: l) o 5 (p : Int) := by
  have hdig : isDig ch = false := by
    have := isLet_nat hlet
    cases e : isDig ch with
    | false => rfl
    | true => have := isDig_nat e; omega
  have hb := isLet_nat hlet
  have gn := sReadNum_any ([ch]) (by simp) w
  have GL : Hid (∀ w1 : World, Calls Tryd.prog 57 #[.int .u8 (ch.toNat : Int)] w1 fun e w' => e = .returned (.bool true) ∧ w' = w1) := fun w1 => by
    have g := l3Letter_any ch w1
    rw [hlet] at g
    exact g
  have GD : Hid (∀ w1 : World, Calls Tryd.prog 56 #[.int .u8 (ch.toNat : Int)] w1 fun e w' => e = .returned (.bool false) ∧ w' = w1) := fun w1 => by
    have g := l3Digit_any ch w1
    rw [hdig] at g
    exact g
  have hvd : decide (((ch.toNat : Int) - 97) < vars) = false := decide_eq_false hv
  have he := tx_at (l := [ch]) (j := 0) (c := ch) rfl (by rw [tx_size]; simp)
  have HR : Hid (∀ w1 : World, Below w.heap.size w w1 → RdAt w1 b Bo wide vars long vt vo ((p, [ch]) :: l) o 0 0) := fun w1 hb => h.later hb
  have HK : Hid (∀ w1 : World, Below w.heap.size w w1 → Keep b w w1 vo vo) := fun w1 hb => Keep.below vo hb
  clear h hlet hdig
  generalize readN ([ch]) = N0 at *
  generalize isNum ([ch]) = I at *
  go_enter Tryd.func72, Tryd.ntmps72
  go_wp2_with fail
  refine gn.mono ?_
  rintro e w1 ⟨rfl, hb1⟩
  have hr1 := HR.out w1 hb1
  have HK1 : Hid (Keep b w w1 vo vo) := HK.out w1 hb1
  obtain ⟨c0, c1, c2, c3, c4, c5, c6⟩ := hr1.cell
  have f2 := frozen_heap (o := 2) hr1.heap
  have HF1 : Hid (Calls Tryd.prog 46 #[ptr b, .int .i64 5] w1.drew fun e w' => e = .returned (.int .i64 0) ∧ RdTo w1.drew w' b Bo vo wide vars long ((p, [ch]) :: l) o 5 (p : Int)) := fault_any (hr1.later (Below.refl _ _).drew) 5
  clear gn hb1 hr1 HK HR
  go_wp2_with fail
  refine (GL.out _).mono ?_
  rintro e w2 ⟨rfl, rfl⟩
  go_wp2_with fail
  go_region
  all_goals
    go_wp2_with fail
    refine (GD.out _).mono ?_
    rintro e w2 ⟨rfl, rfl⟩
    go_wp2_with fail
    refine (GL.out _).mono ?_
    rintro e w2 ⟨rfl, rfl⟩
    go_wp2_with fail
    refine (Hid.out HF1).mono ?_
    rintro e w4 ⟨rfl, hr3⟩
    have H3 : Hid (RdTo w w4 b Bo vo wide vars long ((p, [ch]) :: l) o 5 (p : Int)) := hr3.trans (keep_drew HK1.out)
    clear hr3
    go_wp2_with fail
    go_ret
    exact ⟨rfl, H3.out⟩
set_option maxRecDepth 100000 in
set_option maxHeartbeats 2000000 in
theorem leaf_word {w : World} {b Bo : Nat} {wide vars : Int} {long : Nat} {vt vo : Value} {p : Nat} {ch : UInt8} {S : Tx} {l : List M.Tok} {o : List Nd} (h : RdAt w b Bo wide vars long vt vo ((p, S) :: l) o 0 0) (hol : o.length < 1000) (hlet : isLet ch = true) (hS : S[0]? = some ch) (h2 : 1 < S.length) (hs : S.length ≤ 800) (hy : S ≠ [121, 101, 115]) (hn : S ≠ [110, 111]) :
    Calls Tryd.prog 72 #[ptr b, tx S] w fun e w' => e = .returned (.int .i64 0) ∧ RdTo w w' b Bo vo wide vars long ((p, S) :: l) o 5 (p : Int) := by
  have hdig : isDig ch = false := by
    have := isLet_nat hlet
    cases e : isDig ch with
    | false => rfl
    | true => have := isDig_nat e; omega
  have hb := isLet_nat hlet
  have gn := sReadNum_any S (by omega) w
  have GL : Hid (∀ w1 : World, Calls Tryd.prog 57 #[.int .u8 (ch.toNat : Int)] w1 fun e w' => e = .returned (.bool true) ∧ w' = w1) := fun w1 => by
    have g := l3Letter_any ch w1
    rw [hlet] at g
    exact g
  have GD : Hid (∀ w1 : World, Calls Tryd.prog 56 #[.int .u8 (ch.toNat : Int)] w1 fun e w' => e = .returned (.bool false) ∧ w' = w1) := fun w1 => by
    have g := l3Digit_any ch w1
    rw [hdig] at g
    exact g
  have he := tx_at (l := S) (j := 0) (c := ch) hS (by rw [tx_size]; omega)
  have hsz : (1 : Int) < (S.length : Int) := by omega
  have hs1 : ((S.length : Int) == 1) = false := beq_eq_false_iff_ne.2 (by omega)
  have y1 : ((S : Tx) == [121, 101, 115]) = false := beq_eq_false_iff_ne.2 hy
  have y2 : ((S : Tx) == [110, 111]) = false := beq_eq_false_iff_ne.2 hn
  have HR : Hid (∀ w1 : World, Below w.heap.size w w1 → RdAt w1 b Bo wide vars long vt vo ((p, S) :: l) o 0 0) := fun w1 hb => h.later hb
  have HK : Hid (∀ w1 : World, Below w.heap.size w w1 → Keep b w w1 vo vo) := fun w1 hb => Keep.below vo hb
  clear h hlet hdig
  generalize readN S = N0 at *
  generalize isNum S = I at *
  go_enter Tryd.func72, Tryd.ntmps72
  go_wp2_with fail
  refine gn.mono ?_
  rintro e w1 ⟨rfl, hb1⟩
  have hr1 := HR.out w1 hb1
  have HK1 : Hid (Keep b w w1 vo vo) := HK.out w1 hb1
  obtain ⟨c0, c1, c2, c3, c4, c5, c6⟩ := hr1.cell
  have f2 := frozen_heap (o := 2) hr1.heap
  have HF1 : Hid (Calls Tryd.prog 46 #[ptr b, .int .i64 5] w1.drew fun e w' => e = .returned (.int .i64 0) ∧ RdTo w1.drew w' b Bo vo wide vars long ((p, S) :: l) o 5 (p : Int)) := fault_any (hr1.later (Below.refl _ _).drew) 5
  clear gn hb1 hr1 HK HR
  go_wp2_with fail
  refine (GL.out _).mono ?_
  rintro e w2 ⟨rfl, rfl⟩
  go_wp2_with fail
  go_region
  all_goals
    go_wp2_with fail
    refine (GD.out _).mono ?_
    rintro e w2 ⟨rfl, rfl⟩
    go_wp2_with fail
    refine (GL.out _).mono ?_
    rintro e w2 ⟨rfl, rfl⟩
    go_wp2_with fail
    refine (Hid.out HF1).mono ?_
    rintro e w4 ⟨rfl, hr3⟩
    have H3 : Hid (RdTo w w4 b Bo vo wide vars long ((p, S) :: l) o 5 (p : Int)) := hr3.trans (keep_drew HK1.out)
    clear hr3
    go_wp2_with fail
    go_ret
    exact ⟨rfl, H3.out⟩
end Go.Proofs.YtkfplichekebdaaDoor
