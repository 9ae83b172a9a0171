/-
  Tokens of a text: contract of the model.
-/
import Derived.Test.YtkfplichekebdaaGreatDoorLong
import Derived.Test.YtkfplichekebdaaGreatDoorLTurn
namespace Go.Proofs.YtkfplichekebdaaGreatDoor
open Go Go.RowKit
open M
set_option linter.unusedVariables false

theorem appT_nil (e : Except Nat (List Tok)) : appT [] e = e := by cases e <;> rfl
theorem toks_end (p : Nat) : toks p [] = .ok [] := rfl
theorem toks_blank (p : Nat) (r : Tx) : toks p (32 :: r) = toks (p + 1) r := by
  unfold toks
  rw [List.length_cons]
  simp [toksL]
theorem toks_bad {p : Nat} {c : UInt8} {r : Tx} (h : c ≠ 32) (h0 : longL (c :: r) = 0) : toks p (c :: r) = .error p := by
  unfold toks
  rw [List.length_cons]
  simp [toksL, h, h0]
theorem toks_one {p : Nat} {c : UInt8} {r : Tx} (h : c ≠ 32) (h0 : longL (c :: r) ≠ 0) : toks p (c :: r) = appT [(p, (c :: r).take (longL (c :: r)))] (toks (p + longL (c :: r)) ((c :: r).drop (longL (c :: r)))) := by
  have hle := longL_le (c :: r)
  have e : c :: r = (c :: r).take (longL (c :: r)) ++ (c :: r).drop (longL (c :: r)) := (List.take_append_drop _ _).symm
  obtain ⟨k, hk⟩ : ∃ k, longL (c :: r) = k + 1 := ⟨longL (c :: r) - 1, by omega⟩
  have hc : (c :: r).take (longL (c :: r)) = c :: r.take k := by rw [hk]; rfl
  have hl : ((c :: r).take (longL (c :: r))).length = longL (c :: r) := by rw [List.length_take]; omega
  have g := toks_step (p := p) (l := (c :: r).take (longL (c :: r))) (rest := (c :: r).drop (longL (c :: r))) hc h (by rw [← e, hl])
  rw [← e, hl] at g
  exact g
/-- tokens in memory -/
def flatK (l : List Tok) : List Value := l.flatMap fun x => [.int .i64 (x.1 : Int), tx x.2]
theorem flatK_len (l : List Tok) : (flatK l).length = l.length * 2 := by
  induction l with
  | nil => rfl
  | cons x l ih =>
    simp only [flatK, List.flatMap_cons, List.length_append, List.length_cons, List.length_nil] at ih ⊢
    omega
theorem flatK_append (a b : List Tok) : flatK (a ++ b) = flatK a ++ flatK b := by
  unfold flatK
  rw [List.flatMap_append]
abbrev OwnToks (w : World) (B : Nat) (v : Value) (l : List Tok) : Prop := w.ownsRow B 47 2 v l.length (flatK l)
theorem infoTok : (Tryz.prog.info? 47).map (fun i => (i.zero, i.size, i.bytes)) = some (some (.agg #[.int .i64 0, .string ⟨#[]⟩]), 2, 24) := by kernel_rfl
theorem tok_cells (w : World) (p : Nat) (l : Tx) : ∀ (j : Nat) (u : Value), ([.int .i64 (p : Int), tx l] : List Value)[j]? = some u → (w.alloc (.cells #[.int .i64 (p : Int), tx l] 47)).cell? ((⟨w.heap.size, 0, none⟩ : Addr).add j) = some u := by
  intro j u hu
  match j, hu with
  | 0, hu => simp at hu; subst hu; simp [Addr.add]
  | 1, hu => simp at hu; subst hu; simp [Addr.add]
theorem tok_one (p : Nat) (l : Tx) : ∀ u ∈ ([.int .i64 (p : Int), tx l] : List Value), u.oneCell' = true := by
  intro u hu
  simp at hu
  rcases hu with rfl | rfl <;> rfl
/-- what is told of a text's tokens -/
def tokL (s : Tx) : List Tok := if s.length ≤ 800 then (match tokens s with | .ok l => l | .error _ => []) else []
def tokP (s : Tx) : Nat := if s.length ≤ 800 then (match tokens s with | .ok _ => 0 | .error p => p) else 0
def tokB (s : Tx) : Bool := if s.length ≤ 800 then (match tokens s with | .ok _ => true | .error _ => false) else false
theorem tx_slice (s : Tx) (a b : Nat) : (ByteArray.mk s.toArray).extract a b = ⟨((s.drop a).take (b - a)).toArray⟩ := by
  apply ByteArray.ext
  rw [ByteArray.data_extract]
  simp [List.take_drop]
theorem slice_tx (s : Tx) (p L : Nat) (q : Int) (hq : q = (p : Int) + L) (h : p + L ≤ s.length) (W : World) :
    (Instr.slice 9 (tx s) (some (.int .i64 (p : Int))) (some (.int .i64 q)) none).run Tryz.prog W = .ok (tx ((s.drop p).take L)) W := by
  subst hq
  rw [run_slice_string W 9 _ .i64 .i64 (p : Int) ((p : Int) + L) Tryz.underlying9 (by omega) (by omega) (by rw [tx_size]; omega)]
  rw [show ((p : Int) + L).toNat = p + L from by omega, Int.toNat_natCast, tx_slice, Nat.add_sub_cancel_left]
theorem sTokensOf_long (s : Tx) (h : 800 < s.length) (hl : s.length ≤ 9223372036854775807) (w : World) : Calls Tryz.prog 23 #[tx s] w fun e w' => e = .returned (.tuple #[.slice none 0 0, .int .i64 0, .bool false]) ∧ w' = w := by
  go_enter Tryz.func23, Tryz.ntmps23
  go_wp2_with fail
  go_ret3
  exact ⟨rfl, rfl⟩
set_option maxRecDepth 100000 in
set_option maxHeartbeats 2000000 in
theorem sTokensOf_in (s : Tx) (h : s.length ≤ 800) (w : World) : Calls Tryz.prog 23 #[tx s] w fun e w' => ∃ v, e = .returned (.tuple #[v, .int .i64 (tokP s : Int), .bool (tokB s)]) ∧ OwnToks w' w.heap.size v (tokL s) ∧ Below w.heap.size w w' := by
  have HOK : Hid (∀ l, tokens s = .ok l → tokL s = l ∧ tokP s = 0 ∧ tokB s = true) := fun l e => by
    unfold tokL tokP tokB
    rw [if_pos h, if_pos h, if_pos h, e]
    exact ⟨rfl, rfl, rfl⟩
  have HER : Hid (∀ p, tokens s = .error p → tokL s = [] ∧ tokP s = p ∧ tokB s = false) := fun p e => by
    unfold tokL tokP tokB
    rw [if_pos h, if_pos h, if_pos h, e]
    exact ⟨rfl, rfl, rfl⟩
  generalize tokL s = TL at *
  generalize tokP s = TP at *
  generalize tokB s = TB at *
  obtain ⟨i0, hi, hz0, hz1, hz2⟩ := info_parts infoTok
  go_enter Tryz.func23, Tryz.ntmps23
  go_wp2_with fail
  go_loopw [6, 5] (fun a v wr => ∃ (p : Nat) (l : List Tok), p ≤ s.length ∧ a = .int .i64 p ∧ l.length ≤ p ∧ Hid (OwnToks wr w.heap.size v l) ∧ Hid (tokens s = appT l (toks p (s.drop p))) ∧ Hid (Below w.heap.size w wr)) (fun a _ _ => s.length - (intOf a).toNat)
  case atStart => exact ⟨0, [], by omega, rfl, by simp, World.ownsRow_nil _ _ _ _, (by rw [appT_nil]; rfl : tokens s = appT [] (toks 0 (s.drop 0))), Below.refl _ _⟩
  case round =>
    obtain ⟨p, l, hp, rfl, hlp, HO, HT, HB⟩ := hrel
    by_cases hlt' : p < s.length
    · obtain ⟨c, hcj⟩ : ∃ c, s[p]? = some c := ⟨s[p], List.getElem?_eq_getElem hlt'⟩
      have he := tx_at hcj (by rw [tx_size]; exact hlt')
      have HD : Hid (s.drop p = c :: s.drop (p + 1)) := by
        show s.drop p = c :: s.drop (p + 1)
        rw [List.drop_eq_getElem_cons hlt', (List.getElem?_eq_some_iff.1 hcj).2]
      clear hcj
      by_cases hc : c = 32
      · have HT2 : Hid (tokens s = appT l (toks (p + 1) (s.drop (p + 1)))) := by
          have h1 := HT.out
          rw [HD.out, hc, toks_blank] at h1
          exact h1
        subst hc
        clear HD HT
        go_wp2_with fail
        go_roundw
        case rel => exact ⟨p + 1, l, by omega, by go_num, by omega, HO, HT2, HB⟩
        case measure => simp [intOf]; omega
      · have n32 : ¬ (c.toNat : Int) = 32 := fun h => hc (byte_of (n := 32) (by omega))
        have d32 : ((c.toNat : Int) == 32) = false := beq_eq_false_iff_ne.2 n32
        have hx : (ByteArray.mk s.toArray).extract p s.length = ⟨(s.drop p).toArray⟩ := by
          rw [tx_slice, List.take_of_length_le (by simp)]
        have g := l3Long_any (s.drop p) (by simp; omega) wr
        have hle := longL_le (s.drop p)
        rw [List.length_drop] at hle
        by_cases h0 : longL (s.drop p) = 0
        · have HE := HER.out p (by
            have h1 := HT.out
            have h2 := h0
            rw [HD.out] at h1 h2
            rw [toks_bad hc h2] at h1
            exact h1)
          obtain ⟨rfl, rfl, rfl⟩ := HE
          rw [h0] at g
          clear hc n32 HD HT h0 hle
          go_wp2_with fail
          refine g.mono ?_
          rintro e w2 ⟨rfl, hb⟩
          have HB2 : Hid (Below w.heap.size w w2) := HB.out.trans (hb.mono HB.out.size)
          clear g hb
          go_wp2_with fail
          go_ret3
          exact ⟨_, rfl, World.ownsRow_nil _ _ _ _, HB2.out⟩
        · have HT2 : Hid (tokens s = appT (l ++ [(p, (s.drop p).take (longL (s.drop p)))]) (toks (p + longL (s.drop p)) (s.drop (p + longL (s.drop p))))) := by
            have h1 := HT.out
            have h2 := h0
            rw [HD.out] at h2
            rw [HD.out, toks_one hc h2, appT_app, ← HD.out, List.drop_drop] at h1
            exact h1
          generalize hL : longL (s.drop p) = L at *
          have HLL : Hid _ := hL
          clear hL
          have hx2 : (ByteArray.mk s.toArray).extract p (p + L) = ⟨((s.drop p).take L).toArray⟩ := by
            rw [tx_slice, Nat.add_sub_cancel_left]
          have hL0 : (0 : Int) < L := by omega
          have nL : ((L : Int) == 0) = false := beq_eq_false_iff_ne.2 (by omega)
          clear hc n32 HD HT h0
          go_wp2_with fail
          refine g.mono ?_
          rintro e w2 ⟨rfl, hb⟩
          have HB2 : Hid (Below w.heap.size w w2) := HB.out.trans (hb.mono HB.out.size)
          have HO2 : Hid (OwnToks w2 w.heap.size u5 l) := owns_below HO.out hb
          clear g hb
          have hsl := fun W : World => slice_tx s p L ((p : Int) + L) rfl (by omega) W
          have hlT : ((s.drop p).take L).length = L := by rw [List.length_take, List.length_drop]; omega
          have HOT : Hid _ := hlT
          clear hx2 hlT
          generalize (s.drop p).take L = tk at *
          have HBY : Hid (Below w.heap.size w (w2.alloc (.cells #[.int .i64 (p : Int), tx tk] 47))) := HB2.out.alloc HB2.out.size _
          have HSA : Hid (w.heap.size ≤ (w2.alloc (.cells #[.int .i64 (p : Int), tx tk] 47)).heap.size) := HBY.out.size
          have own2 : (w2.alloc (.cells #[.int .i64 (p : Int), tx tk] 47)).ownsRow w.heap.size 47 2 u5 l.length (flatK l) := owns_below HO2.out ((Below.refl _ _).alloc (Nat.le_refl _) _)
          have cellsA := tok_cells w2 p tk
          go_wp2_with (at_builtin; refine wpList_append_own _ rfl _ _ 43 rfl w.heap.size 47 i0 (.agg #[.int .i64 0, .string ⟨#[]⟩]) 2 24 Tryz.underlying43 hi hz0 hz1 hz2 rfl (by decide) _ _ _ rfl own2 ⟨w2.heap.size, 0, none⟩ 1 1 [.int .i64 (p : Int), tx tk] rfl rfl cellsA (tok_one p tk) (by unfold maxLen; omega) (by omega) HSA.out ?_)
          intro vb wb ownb growb _
          have HOB : Hid (OwnToks wb w.heap.size vb (l ++ [(p, tk)])) := by
            show wb.ownsRow w.heap.size 47 2 vb (l ++ [(p, tk)]).length (flatK (l ++ [(p, tk)]))
            rw [List.length_append, List.length_singleton, flatK_append]
            exact ownb
          have HBB : Hid (Below w.heap.size w wb) := Below.grown HBY.out growb HSA.out (fun k hk => (own_block own2 hk).1)
          clear own2 ownb growb cellsA
          go_wp2_with fail
          go_roundw
          case rel => exact ⟨p + L, _, by omega, by go_num, by simp; omega, HOB, HT2, HBB⟩
          case measure => simp [intOf]; omega
    · obtain rfl : p = s.length := by omega
      have HE := HOK.out l (by
        have h1 := HT.out
        rw [List.drop_length] at h1
        rw [toks_end] at h1
        simpa [appT] using h1)
      obtain ⟨rfl, rfl, rfl⟩ := HE
      clear HT
      go_wp2_with fail
      go_ret3
      exact ⟨_, rfl, HO.out, HB.out⟩
end Go.Proofs.YtkfplichekebdaaGreatDoor
