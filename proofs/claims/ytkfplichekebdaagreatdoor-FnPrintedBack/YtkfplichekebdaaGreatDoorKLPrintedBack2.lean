/-
  The model's reader of terms: a term.
  The model's reader of terms: a sign ahead of a term, and what begins none.
  The model's reader of terms: two terms in brackets.
  The depth of a term: the model's l3Depth and DepthOf.
  The text of a term: the model's l3Text and TermText.
  The text of a term: the model's l3Text whole, TermText.
  Plain mathematics for trees: a list of nodes is the row of one good tree alone; what folded, joined, turned and put terms come to.
  Plain mathematics: what ReadTerm answers, that it gives a term back from its text, and that what it reads has this text.
  The model's ReadTerm.
  The program's ReadTerm.
  What the laws of texts draw out of bytes: terms, numbers, names.
  The text of a term: the program's leafText, text and TermText.
  The depth of a term: the program's depth and DepthOf.
  The walk of the law of terms that are read back.
  What the laws of texts draw out of bytes: texts that are spoilt, texts out of a list.
  Marks that the laws lay into lists of tokens, and look for again.
  The walk of the exact law of TokensOf.
  What TokensOf answers at any text, and how tokens lie in it.
  The walk of the law of texts that are read.
-/
import Derived.Test.YtkfplichekebdaaGreatDoorKLPrintedBack1
import Derived.Deep.QuietTactic
import Derived.Test.YtkfplichekebdaaGreatDoorFrom
import Derived.Test.YtkfplichekebdaaGreatDoorText
import Derived.Test.YtkfplichekebdaaGreatDoorSign
import Derived.Outline
import Derived.Test.YtkfplichekebdaaGreatDoorTextB
import Derived.Test.YtkfplichekebdaaGreatDoorDrawD
import Derived.Test.YtkfplichekebdaaGreatDoorILay
import Derived.Lib.QuietBelow
import Derived.Handy
import Derived.Test.YtkfplichekebdaaGreatDoorMarks
namespace Go.Proofs.YtkfplichekebdaaGreatDoor
open Go Go.RowKit
open M
set_option linter.unusedVariables false

/-- how the model's reader ends -/
def TermQ (wide vars : Int) (long f b Bo : Nat) (vo : Value) (l : List M.Tok) (o : List Nd) (w : World) (e : Ending) (w' : World) : Prop :=
  (∃ t r, readT wide vars long f l = .ok (t, r) ∧ e = .returned (.int .i64 t.kind) ∧ RdTo w w' b Bo vo wide vars long r (o ++ t.flat) 0 0) ∨
  (∃ c p l' o', readT wide vars long f l = .error (c, p) ∧ e = .returned (.int .i64 0) ∧ RdTo w w' b Bo vo wide vars long l' o' (c : Int) (p : Int))
/-- what the model's reader does with tokens -/
def TermP (wide vars : Int) (long f : Nat) : Prop := ∀ (w : World) (b Bo : Nat) (vt vo : Value) (l : List M.Tok) (o : List Nd), RdAt w b Bo wide vars long vt vo l o 0 0 → o.length + l.length ≤ 900 → (∀ x ∈ l, 1 ≤ x.2.length ∧ x.2.length ≤ 800) → l.length < f →
  Calls Tryz.prog 48 #[ptr b] w (TermQ wide vars long f b Bo vo l o w)
set_option maxRecDepth 100000 in
set_option maxHeartbeats 1000000 in
theorem term_nil {wide vars : Int} {long f : Nat} {w : World} {b Bo : Nat} {vt vo : Value} {o : List Nd} (h : RdAt w b Bo wide vars long vt vo [] o 0 0) :
    Calls Tryz.prog 48 #[ptr b] w (TermQ wide vars long (f + 1) b Bo vo [] o w) := by
  have gf := fault_any h 3
  obtain ⟨c0, c1, c2, c3, c4, c5, c6⟩ := h.cell
  obtain ⟨ta, tc, hsh⟩ := h.toks.shape
  subst hsh
  clear h
  go_enter Tryz.func48, Tryz.ntmps48
  go_wp2_with fail
  refine gf.mono ?_
  rintro e w1 ⟨rfl, hr⟩
  have HR : Hid (RdTo w w1 b Bo vo wide vars long [] o 3 _) := hr
  clear gf hr
  go_wp2_with fail
  go_ret
  exact Or.inr ⟨3, long, [], o, rfl, rfl, HR.out⟩
theorem kind_pos_of {wide vars : Int} {t : Tr} (h : t.Ok wide vars) : 1 ≤ t.kind ∧ t.kind ≤ 2 := by
  have h0 : ¬ ownOf t.nd.1 = 0 := by
    cases t with
    | leaf x => exact h.1
    | one x a => exact h.1
    | two x a b => exact h.1
  unfold Tr.kind
  unfold ownOf at h0 ⊢
  split
  · omega
  · split
    · omega
    · rename_i h1 h2
      rw [if_neg h1, if_neg h2] at h0
      exact absurd rfl h0
set_option maxRecDepth 100000 in
set_option maxHeartbeats 2000000 in
theorem term_leaf {wide vars : Int} {long f : Nat} {w : World} {b Bo : Nat} {vt vo : Value} {p : Nat} {ch : UInt8} {q : Tx} {l : List M.Tok} {o : List Nd} (h : RdAt w b Bo wide vars long vt vo ((p, ch :: q) :: l) o 0 0) (hol : o.length + (l.length + 1) ≤ 900) (hs : (ch :: q).length ≤ 800) (hlf : isLeaf (ch :: q) = true) :
    Calls Tryz.prog 48 #[ptr b] w (TermQ wide vars long (f + 1) b Bo vo ((p, ch :: q) :: l) o w) := by
  have hA : Below w.heap.size w (w.alloc (.cells #[.int .i64 (p : Int), tx (ch :: q)] 47)) := (Below.refl _ _).alloc (Nat.le_refl _) _
  have gl := leaf_all (h.later hA) (by omega) hs hlf
  have HQ : Hid (∀ (e : Ending) w', ((∃ nd, leafRd wide vars (ch :: q) = .ok nd ∧ e = .returned (.int .i64 (ownOf nd.1)) ∧ RdTo (w.alloc (.cells #[.int .i64 (p : Int), tx (ch :: q)] 47)) w' b Bo vo wide vars long l (o ++ [nd]) 0 0) ∨ (∃ c, leafRd wide vars (ch :: q) = .error c ∧ e = .returned (.int .i64 0) ∧ RdTo (w.alloc (.cells #[.int .i64 (p : Int), tx (ch :: q)] 47)) w' b Bo vo wide vars long ((p, ch :: q) :: l) o (c : Int) (p : Int))) → ∃ v, e = .returned (.int .i64 v) ∧ TermQ wide vars long (f + 1) b Bo vo ((p, ch :: q) :: l) o w (.returned (.int .i64 v)) w') := by
    rintro e w' (⟨nd, h1, rfl, hr⟩ | ⟨c, h1, rfl, hr⟩)
    · refine ⟨_, rfl, Or.inl ⟨.leaf nd, l, ?_, rfl, hr.trans (Keep.below vo hA)⟩⟩
      simp only [readT]
      rw [if_pos hlf, h1]
    · refine ⟨_, rfl, Or.inr ⟨c, p, _, _, ?_, rfl, hr.trans (Keep.below vo hA)⟩⟩
      simp only [readT]
      rw [if_pos hlf, h1]
  obtain ⟨c0, c1, c2, c3, c4, c5, c6⟩ := h.cell
  obtain ⟨g, off, cap, a, c, rfl, hg, t0, t1, hcut, _, hl1⟩ := h.pop
  have he := tx_at (l := ch :: q) (j := 0) (c := ch) rfl (by rw [tx_size]; simp)
  have hsz : (0 : Int) < ((ch :: q).length : Int) := by simp
  have GL : Hid (∀ w1 : World, Calls Tryz.prog 75 #[.int .u8 (ch.toNat : Int)] w1 fun e w' => e = .returned (.bool (isLet ch)) ∧ w' = w1) := fun w1 => l3Letter_any ch w1
  have GD : Hid (∀ w1 : World, Calls Tryz.prog 74 #[.int .u8 (ch.toNat : Int)] w1 fun e w' => e = .returned (.bool (isDig ch)) ∧ w' = w1) := fun w1 => l3Digit_any ch w1
  have hdl : isDig ch = true ∨ (isDig ch = false ∧ isLet ch = true) := by
    cases hd : isDig ch with
    | true => exact Or.inl rfl
    | false => exact Or.inr ⟨rfl, by simpa [isLeaf, hd] using hlf⟩
  clear h hlf hA
  generalize l.length = ln at *
  generalize isDig ch = D at *
  generalize isLet ch = L at *
  rcases hdl with rfl | ⟨rfl, rfl⟩
  · go_enter Tryz.func48, Tryz.ntmps48
    go_wp2_with fail
    refine (GD.out _).mono ?_
    rintro e w2 ⟨rfl, rfl⟩
    go_wp2_with fail
    refine gl.mono ?_
    intro e w3 hq
    obtain ⟨v, rfl, h3⟩ := HQ.out e w3 hq
    have H3 : Hid _ := h3
    clear hq h3 gl HQ
    go_wp2_with fail
    go_ret
    exact H3.out
  · go_enter Tryz.func48, Tryz.ntmps48
    go_wp2_with fail
    refine (GD.out _).mono ?_
    rintro e w2 ⟨rfl, rfl⟩
    go_wp2_with fail
    refine (GL.out _).mono ?_
    rintro e w2 ⟨rfl, rfl⟩
    go_wp2_with fail
    refine gl.mono ?_
    intro e w3 hq
    obtain ⟨v, rfl, h3⟩ := HQ.out e w3 hq
    have H3 : Hid _ := h3
    clear hq h3 gl HQ
    go_wp2_with fail
    go_ret
    exact H3.out
end Go.Proofs.YtkfplichekebdaaGreatDoor

namespace Go.Proofs.YtkfplichekebdaaGreatDoor
open Go Go.RowKit
open M
set_option linter.unusedVariables false

/-- the token that was taken first stays as it is -/
theorem first_kept {w w2 : World} {b Bo : Nat} {wide vars : Int} {long : Nat} {vt vo v vo2 : Value} {p : Nat} {s : Tx} {l : List M.Tok} {o : List Nd} {code at_ : Int} (h : RdAt w b Bo wide vars long vt vo l o code at_) (hk : Keep b ((w.setCell ⟨b, 2, none⟩ v).alloc (.cells #[.int .i64 (p : Int), tx s] 47)) w2 vo vo2) :
    w2.cell? ⟨w.heap.size, 0, none⟩ = some (.int .i64 (p : Int)) ∧ w2.cell? ⟨w.heap.size, 1, none⟩ = some (tx s) := by
  have hlt : b < w.heap.size := Nat.lt_of_lt_of_le h.low h.bound
  have hs : (w.setCell ⟨b, 2, none⟩ v).heap.size = w.heap.size := set_size _ _ _
  have e := hk.block w.heap.size (by simp [hs]) (by omega) (fun e => by have := (own_block h.own e.symm).2; omega)
  have e2 : ((w.setCell ⟨b, 2, none⟩ v).alloc (.cells #[.int .i64 (p : Int), tx s] 47)).heap[w.heap.size]? = some (.cells #[.int .i64 (p : Int), tx s] 47 (0, 0)) := by
    have key : ∀ (u : World) (o : Obj), (u.alloc o).heap[u.heap.size]? = some o := by
      intro u o
      unfold World.alloc
      simp
    have := key (w.setCell ⟨b, 2, none⟩ v) (.cells #[.int .i64 (p : Int), tx s] 47)
    rw [hs] at this
    exact this
  rw [e2] at e
  constructor <;> (rw [cell_heap e]; rfl)
/-- a node over one part, or a fault -/
theorem kinds_one {wide vars : Int} {long f : Nat} {w w1 w2 : World} {b Bo : Nat} {vo : Value} {p : Nat} {s : Tx} {l r1 : List M.Tok} {o : List Nd} {a : Tr} (hs : s = [126] ∨ s = [33])
    (hread : readT wide vars long (f + 1) ((p, s) :: l) = if a.kind = partOf (opOne s) then .ok (.one (opOne s, 0) a, r1) else .error (6, p))
    (hk : Keep b w w1 vo vo) (hr : RdTo w1 w2 b Bo vo wide vars long r1 (o ++ a.flat) 0 0) (hol : (o ++ a.flat).length < 1000) :
    Calls Tryz.prog 77 #[ptr b, .int .i64 (opOne s), .int .i64 (p : Int), .int .i64 a.kind, .int .i64 0] w2 fun e w' => ∃ v, e = .returned (.int .i64 v) ∧ TermQ wide vars long (f + 1) b Bo vo ((p, s) :: l) o w (.returned (.int .i64 v)) w' := by
  obtain ⟨vt, vo2, h, hk2⟩ := hr
  obtain ⟨s1, s2, s3, s4⟩ := opOne_sign hs
  by_cases hq : a.kind = partOf (opOne s)
  · rw [if_pos hq] at hread
    refine (kinds_yes h (opOne s) p a.kind 0 hol (Or.inl ⟨s2, hq⟩)).mono ?_
    rintro e w' ⟨rfl, hr⟩
    refine ⟨_, rfl, Or.inl ⟨_, _, hread, rfl, ?_⟩⟩
    simp only [Tr.flat]
    rw [← List.append_assoc]
    exact hr.trans (hk.trans hk2)
  · rw [if_neg hq] at hread
    refine (kinds_no h (opOne s) p a.kind 0 (Or.inl ⟨s2, hq⟩)).mono ?_
    rintro e w' ⟨rfl, hr⟩
    exact ⟨_, rfl, Or.inr ⟨6, p, _, _, hread, rfl, hr.trans (hk.trans hk2)⟩⟩
set_option maxRecDepth 100000 in
set_option maxHeartbeats 2000000 in
theorem term_turn {wide vars : Int} (hv : vars ≤ 4) {long f : Nat} (ih : TermP wide vars long f) {w : World} {b Bo : Nat} {vt vo : Value} {p : Nat} {s : Tx} {l : List M.Tok} {o : List Nd} (h : RdAt w b Bo wide vars long vt vo ((p, s) :: l) o 0 0) (hs : s = [126] ∨ s = [33]) (hol : o.length + (l.length + 1) ≤ 900) (hok : ∀ x ∈ l, 1 ≤ x.2.length ∧ x.2.length ≤ 800) (hf : l.length < f) :
    Calls Tryz.prog 48 #[ptr b] w (TermQ wide vars long (f + 1) b Bo vo ((p, s) :: l) o w) := by
  have hread : readT wide vars long (f + 1) ((p, s) :: l) = match readT wide vars long f l with
      | .error e => .error e
      | .ok (a, r1) => if a.kind = partOf (opOne s) then .ok (.one (opOne s, 0) a, r1) else .error (6, p) := by
    simp only [readT]
    rw [if_neg (by rcases hs with rfl | rfl <;> decide), if_pos hs]
    rfl
  obtain ⟨c0, c1, c2, c3, c4, c5, c6⟩ := h.cell
  have hlt : b < w.heap.size := Nat.lt_of_lt_of_le h.low h.bound
  obtain ⟨g, off, cap, a, c, rfl, hg, t0, t1, hcut, hr2, hl1⟩ := h.pop
  have d2 : ∀ ob : Obj, (w.alloc ob).cell? ⟨b, 2, none⟩ = some (.slice (some ⟨g, off, none⟩) (l.length + 1) cap) := fun ob => (h.later ((Below.refl _ _).alloc (Nat.le_refl _) ob)).cell.2.2.1
  have f2 : ∀ ob : Obj, (w.alloc ob).frozen? ⟨b, 2, none⟩ = false := fun ob => frozen_heap (h.later ((Below.refl _ _).alloc (Nat.le_refl _) ob)).heap
  have hA : Below (w.setCell ⟨b, 2, none⟩ (.slice a l.length c)).heap.size (w.setCell ⟨b, 2, none⟩ (.slice a l.length c)) ((w.setCell ⟨b, 2, none⟩ (.slice a l.length c)).alloc (.cells #[.int .i64 (p : Int), tx s] 47)) := (Below.refl _ _).alloc (Nat.le_refl _) _
  have HK : Hid (Keep b w ((w.setCell ⟨b, 2, none⟩ (.slice a l.length c)).alloc (.cells #[.int .i64 (p : Int), tx s] 47)) vo vo) := ((Keep.refl b w vo).set 2 _).trans (Keep.below vo hA)
  have gt := ih _ b Bo _ _ l o (hr2.later hA) (by omega) hok hf
  have HC : Hid (∀ l' o' c' q' w2, RdTo ((w.setCell ⟨b, 2, none⟩ (.slice a l.length c)).alloc (.cells #[.int .i64 (p : Int), tx s] 47)) w2 b Bo vo wide vars long l' o' c' q' → w2.cell? ⟨w.heap.size, 0, none⟩ = some (.int .i64 (p : Int)) ∧ w2.cell? ⟨w.heap.size, 1, none⟩ = some (tx s)) := by
    intro l' o' c' q' w2 hto
    obtain ⟨_, _, _, hk⟩ := hto
    exact first_kept h hk
  have HE : Hid (∀ c' q l' o' w2, readT wide vars long f l = .error (c', q) → RdTo ((w.setCell ⟨b, 2, none⟩ (.slice a l.length c)).alloc (.cells #[.int .i64 (p : Int), tx s] 47)) w2 b Bo vo wide vars long l' o' (c' : Int) (q : Int) → TermQ wide vars long (f + 1) b Bo vo ((p, s) :: l) o w (.returned (.int .i64 0)) w2) := by
    intro c' q l' o' w2 hr hk
    rw [hr] at hread
    exact Or.inr ⟨c', q, _, _, hread, rfl, hk.trans HK.out⟩
  have HO : Hid (∀ (t : Tr) r1 w2, readT wide vars long f l = .ok (t, r1) → RdTo ((w.setCell ⟨b, 2, none⟩ (.slice a l.length c)).alloc (.cells #[.int .i64 (p : Int), tx s] 47)) w2 b Bo vo wide vars long r1 (o ++ t.flat) 0 0 → Calls Tryz.prog 77 #[ptr b, .int .i64 (opOne s), .int .i64 (p : Int), .int .i64 t.kind, .int .i64 0] w2 fun e w' => ∃ v, e = .returned (.int .i64 v) ∧ TermQ wide vars long (f + 1) b Bo vo ((p, s) :: l) o w (.returned (.int .i64 v)) w') := by
    intro t r1 w2 hr hk
    rw [hr] at hread
    obtain ⟨m, hm, hsz⟩ := readT_front _ _ _ _ _ _ _ hr
    refine kinds_one hs hread HK.out hk ?_
    have hml : m.length ≤ l.length := by rw [hm]; simp
    rw [List.length_append, Tr.flat_len]
    omega
  have HP : Hid (∀ (t : Tr) r1, readT wide vars long f l = .ok (t, r1) → 1 ≤ t.kind ∧ t.kind ≤ 2) := fun t r1 hr => kind_pos_of (readT_ok hv _ _ _ _ hr).2.1
  clear h hr2 hread hA
  generalize l.length = ln at *
  have GL : ∀ ch : UInt8, Hid (∀ w1 : World, Calls Tryz.prog 75 #[.int .u8 (ch.toNat : Int)] w1 fun e w' => e = .returned (.bool (isLet ch)) ∧ w' = w1) := fun ch w1 => l3Letter_any ch w1
  have GD : ∀ ch : UInt8, Hid (∀ w1 : World, Calls Tryz.prog 74 #[.int .u8 (ch.toNat : Int)] w1 fun e w' => e = .returned (.bool (isDig ch)) ∧ w' = w1) := fun ch w1 => l3Digit_any ch w1
  rcases hs with rfl | rfl
  · have GL1 : Hid (∀ w1 : World, Calls Tryz.prog 75 #[.int .u8 (126 : Int)] w1 fun e w' => e = .returned (.bool false) ∧ w' = w1) := (GL 126).out
    have GD1 : Hid (∀ w1 : World, Calls Tryz.prog 74 #[.int .u8 (126 : Int)] w1 fun e w' => e = .returned (.bool false) ∧ w' = w1) := (GD 126).out
    have HO1 : Hid (∀ (t : Tr) r1 w2, readT wide vars long f l = .ok (t, r1) → RdTo ((w.setCell ⟨b, 2, none⟩ (.slice a ln c)).alloc (.cells #[.int .i64 (p : Int), tx [126]] 47)) w2 b Bo vo wide vars long r1 (o ++ t.flat) 0 0 → Calls Tryz.prog 77 #[ptr b, .int .i64 13, .int .i64 (p : Int), .int .i64 t.kind, .int .i64 0] w2 fun e w' => ∃ v, e = .returned (.int .i64 v) ∧ TermQ wide vars long (f + 1) b Bo vo ((p, [126]) :: l) o w (.returned (.int .i64 v)) w') := HO.out
    clear GL GD HO
    go_enter Tryz.func48, Tryz.ntmps48
    go_wp2_with fail
    refine (GD1.out _).mono ?_
    rintro e w2 ⟨rfl, rfl⟩
    go_wp2_with fail
    refine (GL1.out _).mono ?_
    rintro e w2 ⟨rfl, rfl⟩
    go_wp2_with fail
    refine gt.mono ?_
    rintro e w3 (⟨t, r1, hr, rfl, hto⟩ | ⟨c', q, l', o', hr, rfl, hto⟩)
    · have gk := HO1.out t r1 w3 hr hto
      obtain ⟨d0, d1⟩ := HC.out _ _ _ _ _ hto
      have hkp := HP.out t r1 hr
      clear gt hr hto HE HO1 HP HC
      generalize t.kind = kk at *
      go_wp2_with fail
      refine gk.mono ?_
      rintro e w4 ⟨v, rfl, hq⟩
      have HQ : Hid _ := hq
      clear hq gk
      go_wp2_with fail
      go_ret
      exact HQ.out
    · have HQ : Hid (TermQ wide vars long (f + 1) b Bo vo ((p, [126]) :: l) o w (.returned (.int .i64 0)) w3) := HE.out c' q l' o' w3 hr hto
      clear gt hr hto HE HO1 HP HC
      go_wp2_with fail
      go_ret
      exact HQ.out
  · have GL1 : Hid (∀ w1 : World, Calls Tryz.prog 75 #[.int .u8 (33 : Int)] w1 fun e w' => e = .returned (.bool false) ∧ w' = w1) := (GL 33).out
    have GD1 : Hid (∀ w1 : World, Calls Tryz.prog 74 #[.int .u8 (33 : Int)] w1 fun e w' => e = .returned (.bool false) ∧ w' = w1) := (GD 33).out
    have HO1 : Hid (∀ (t : Tr) r1 w2, readT wide vars long f l = .ok (t, r1) → RdTo ((w.setCell ⟨b, 2, none⟩ (.slice a ln c)).alloc (.cells #[.int .i64 (p : Int), tx [33]] 47)) w2 b Bo vo wide vars long r1 (o ++ t.flat) 0 0 → Calls Tryz.prog 77 #[ptr b, .int .i64 19, .int .i64 (p : Int), .int .i64 t.kind, .int .i64 0] w2 fun e w' => ∃ v, e = .returned (.int .i64 v) ∧ TermQ wide vars long (f + 1) b Bo vo ((p, [33]) :: l) o w (.returned (.int .i64 v)) w') := HO.out
    clear GL GD HO
    go_enter Tryz.func48, Tryz.ntmps48
    go_wp2_with fail
    refine (GD1.out _).mono ?_
    rintro e w2 ⟨rfl, rfl⟩
    go_wp2_with fail
    refine (GL1.out _).mono ?_
    rintro e w2 ⟨rfl, rfl⟩
    go_wp2_with fail
    refine gt.mono ?_
    rintro e w3 (⟨t, r1, hr, rfl, hto⟩ | ⟨c', q, l', o', hr, rfl, hto⟩)
    · have gk := HO1.out t r1 w3 hr hto
      obtain ⟨d0, d1⟩ := HC.out _ _ _ _ _ hto
      have hkp := HP.out t r1 hr
      clear gt hr hto HE HO1 HP HC
      generalize t.kind = kk at *
      go_wp2_with fail
      refine gk.mono ?_
      rintro e w4 ⟨v, rfl, hq⟩
      have HQ : Hid _ := hq
      clear hq gk
      go_wp2_with fail
      go_ret
      exact HQ.out
    · have HQ : Hid (TermQ wide vars long (f + 1) b Bo vo ((p, [33]) :: l) o w (.returned (.int .i64 0)) w3) := HE.out c' q l' o' w3 hr hto
      clear gt hr hto HE HO1 HP HC
      go_wp2_with fail
      go_ret
      exact HQ.out
set_option maxRecDepth 100000 in
set_option maxHeartbeats 2000000 in
theorem term_none {wide vars : Int} {long f : Nat} {w : World} {b Bo : Nat} {vt vo : Value} {p : Nat} {ch : UInt8} {q : Tx} {l : List M.Tok} {o : List Nd} (h : RdAt w b Bo wide vars long vt vo ((p, ch :: q) :: l) o 0 0) (h1 : isLeaf (ch :: q) = false) (h2 : ¬ (ch :: q = [126] ∨ ch :: q = [33])) (h3 : ch :: q ≠ [40]) (hs : (ch :: q).length ≤ 800) :
    Calls Tryz.prog 48 #[ptr b] w (TermQ wide vars long (f + 1) b Bo vo ((p, ch :: q) :: l) o w) := by
  have hread : readT wide vars long (f + 1) ((p, ch :: q) :: l) = .error (3, p) := by
    simp only [readT]
    rw [if_neg (by rw [h1]; decide), if_neg h2, if_pos h3]
  have hA : Below w.heap.size w (w.alloc (.cells #[.int .i64 (p : Int), tx (ch :: q)] 47)) := (Below.refl _ _).alloc (Nat.le_refl _) _
  have gf := fault_any (h.later hA) 3
  obtain ⟨c0, c1, c2, c3, c4, c5, c6⟩ := h.cell
  obtain ⟨g, off, cap, a, c, rfl, hg, t0, t1, hcut, hr2, hl1⟩ := h.pop
  have hdl : isDig ch = false ∧ isLet ch = false := by simpa [isLeaf] using h1
  have GL : Hid (∀ w1 : World, Calls Tryz.prog 75 #[.int .u8 (ch.toNat : Int)] w1 fun e w' => e = .returned (.bool false) ∧ w' = w1) := fun w1 => by
    have g := l3Letter_any ch w1
    rw [hdl.2] at g
    exact g
  have GD : Hid (∀ w1 : World, Calls Tryz.prog 74 #[.int .u8 (ch.toNat : Int)] w1 fun e w' => e = .returned (.bool false) ∧ w' = w1) := fun w1 => by
    have g := l3Digit_any ch w1
    rw [hdl.1] at g
    exact g
  have he := tx_at (l := ch :: q) (j := 0) (c := ch) rfl (by rw [tx_size]; simp)
  have hsz : (0 : Int) < ((ch :: q).length : Int) := by simp
  have n1 : ((ch :: q : Tx) == [126]) = false := beq_eq_false_iff_ne.2 (fun e => h2 (Or.inl e))
  have n2 : ((ch :: q : Tx) == [33]) = false := beq_eq_false_iff_ne.2 (fun e => h2 (Or.inr e))
  have n3 : ((ch :: q : Tx) == [40]) = false := beq_eq_false_iff_ne.2 h3
  have HQ : Hid (∀ w2, RdTo (w.alloc (.cells #[.int .i64 (p : Int), tx (ch :: q)] 47)) w2 b Bo vo wide vars long ((p, ch :: q) :: l) o 3 (p : Int) → TermQ wide vars long (f + 1) b Bo vo ((p, ch :: q) :: l) o w (.returned (.int .i64 0)) w2) := fun w2 hr => Or.inr ⟨3, p, _, _, hread, rfl, hr.trans (Keep.below vo hA)⟩
  clear h hr2 hread h1 h2 h3 hdl hA
  generalize l.length = ln at *
  go_enter Tryz.func48, Tryz.ntmps48
  go_wp2_with fail
  refine (GD.out _).mono ?_
  rintro e w2 ⟨rfl, rfl⟩
  go_wp2_with fail
  refine (GL.out _).mono ?_
  rintro e w2 ⟨rfl, rfl⟩
  go_wp2_with fail
  refine gf.mono ?_
  rintro e w3 ⟨rfl, hr⟩
  have H3 : Hid (TermQ wide vars long (f + 1) b Bo vo ((p, ch :: q) :: l) o w (.returned (.int .i64 0)) w3) := HQ.out w3 hr
  clear hr gf HQ
  go_wp2_with fail
  go_ret
  exact H3.out
end Go.Proofs.YtkfplichekebdaaGreatDoor

namespace Go.Proofs.YtkfplichekebdaaGreatDoor
open Go Go.RowKit
open M
set_option linter.unusedVariables false

/-- a node over two parts, or a fault -/
theorem kinds_two {wide vars : Int} {long f : Nat} {w w1 w2 : World} {b Bo : Nat} {vo vo1 : Value} {L r4 : List M.Tok} {o : List Nd} {t u : Tr} {op q : Nat} (hm : manyOf op = 2)
    (hread : readT wide vars long (f + 1) L = if t.kind = partOf op ∧ u.kind = partOf op then .ok (.two ((op : Int), 0) t u, r4) else .error (6, q))
    (hk : Keep b w w1 vo vo1) (hr : RdTo w1 w2 b Bo vo1 wide vars long r4 ((o ++ t.flat) ++ u.flat) 0 0) (hol : ((o ++ t.flat) ++ u.flat).length < 1000) :
    Calls Tryz.prog 77 #[ptr b, .int .i64 op, .int .i64 (q : Int), .int .i64 t.kind, .int .i64 u.kind] w2 fun e w' => ∃ v, e = .returned (.int .i64 v) ∧ TermQ wide vars long (f + 1) b Bo vo L o w (.returned (.int .i64 v)) w' := by
  obtain ⟨vt, vo2, h, hk2⟩ := hr
  by_cases hq : t.kind = partOf op ∧ u.kind = partOf op
  · rw [if_pos hq] at hread
    refine (kinds_yes h op q t.kind u.kind hol (Or.inr ⟨hm, hq.1, hq.2⟩)).mono ?_
    rintro e w' ⟨rfl, hr⟩
    refine ⟨_, rfl, Or.inl ⟨_, _, hread, rfl, ?_⟩⟩
    have e : o ++ (Tr.two ((op : Int), 0) t u).flat = ((o ++ t.flat) ++ u.flat) ++ [((op : Int), 0)] := by simp [Tr.flat]
    rw [e]
    exact hr.trans (hk.trans hk2)
  · rw [if_neg hq] at hread
    refine (kinds_no h op q t.kind u.kind (Or.inr ⟨hm, ?_⟩)).mono ?_
    · by_cases h1 : t.kind = partOf op
      · exact Or.inr (fun h2 => hq ⟨h1, h2⟩)
      · exact Or.inl h1
    · rintro e w' ⟨rfl, hr⟩
      exact ⟨_, rfl, Or.inr ⟨6, q, _, _, hread, rfl, hr.trans (hk.trans hk2)⟩⟩
theorem opB_many {l : Tx} (h : opOf l ≠ 0) : manyOf (opOf l : Int) = 2 := (opOf_sign h).2.1
theorem keep_drewN {b : Nat} {u w : World} {x y : Value} (h : Keep b u w x y) (m : Nat) : Keep b u (w.drewN m) x y := ⟨h.os, h.tape, h.output, h.size, h.block, h.row⟩
theorem rd_drewN {w : World} {b Bo : Nat} {wide vars : Int} {long : Nat} {vt vo : Value} {l : List M.Tok} {o : List Nd} {code at_ : Int} (h : RdAt w b Bo wide vars long vt vo l o code at_) (m : Nat) : RdAt (w.drewN m) b Bo wide vars long vt vo l o code at_ := h.later (below_drewN (Below.refl _ _) m)
set_option maxRecDepth 100000 in
set_option maxHeartbeats 4000000 in
theorem term_pair {wide vars : Int} (hv : vars ≤ 4) {long f : Nat} (ih : TermP wide vars long f) {w : World} {b Bo : Nat} {vt vo : Value} {p : Nat} {l : List M.Tok} {o : List Nd} (h : RdAt w b Bo wide vars long vt vo ((p, [40]) :: l) o 0 0) (hol : o.length + (l.length + 1) ≤ 900) (hok : ∀ x ∈ l, 1 ≤ x.2.length ∧ x.2.length ≤ 800) (hf : l.length < f) :
    Calls Tryz.prog 48 #[ptr b] w (TermQ wide vars long (f + 1) b Bo vo ((p, [40]) :: l) o w) := by
  obtain ⟨c0, c1, c2, c3, c4, c5, c6⟩ := h.cell
  have hlt : b < w.heap.size := Nat.lt_of_lt_of_le h.low h.bound
  obtain ⟨g, off, cap, a, c, rfl, hg, t0, t1, hcut, hr2, hl1⟩ := h.pop
  have d2 : ∀ ob : Obj, (w.alloc ob).cell? ⟨b, 2, none⟩ = some (.slice (some ⟨g, off, none⟩) (l.length + 1) cap) := fun ob => (h.later ((Below.refl _ _).alloc (Nat.le_refl _) ob)).cell.2.2.1
  have f2 : ∀ ob : Obj, (w.alloc ob).frozen? ⟨b, 2, none⟩ = false := fun ob => frozen_heap (h.later ((Below.refl _ _).alloc (Nat.le_refl _) ob)).heap
  have hA : Below (w.setCell ⟨b, 2, none⟩ (.slice a l.length c)).heap.size (w.setCell ⟨b, 2, none⟩ (.slice a l.length c)) ((w.setCell ⟨b, 2, none⟩ (.slice a l.length c)).alloc (.cells #[.int .i64 (p : Int), tx [40]] 47)) := (Below.refl _ _).alloc (Nat.le_refl _) _
  have HK : Hid (Keep b w ((w.setCell ⟨b, 2, none⟩ (.slice a l.length c)).alloc (.cells #[.int .i64 (p : Int), tx [40]] 47)) vo vo) := ((Keep.refl b w vo).set 2 _).trans (Keep.below vo hA)
  have gt := ih _ b Bo _ _ l o (hr2.later hA) (by omega) hok hf
  have HE : Hid (∀ c' q l' o' w2, readT wide vars long f l = .error (c', q) → RdTo ((w.setCell ⟨b, 2, none⟩ (.slice a l.length c)).alloc (.cells #[.int .i64 (p : Int), tx [40]] 47)) w2 b Bo vo wide vars long l' o' (c' : Int) (q : Int) → TermQ wide vars long (f + 1) b Bo vo ((p, [40]) :: l) o w (.returned (.int .i64 0)) w2) := by
    intro c' q l' o' w2 hr hk
    exact Or.inr ⟨c', q, _, _, pair_err hr, rfl, hk.trans HK.out⟩
  have HP : Hid (∀ (l : List M.Tok) (t : Tr) r1, readT wide vars long f l = .ok (t, r1) → 1 ≤ t.kind ∧ t.kind ≤ 2) := fun l t r1 hr => kind_pos_of (readT_ok hv _ _ _ _ hr).2.1
  have HIH : Hid (TermP wide vars long f) := ih
  have HOL : Hid (o.length + (l.length + 1) ≤ 900 ∧ (∀ x ∈ l, 1 ≤ x.2.length ∧ x.2.length ≤ 800) ∧ l.length < f) := ⟨hol, hok, hf⟩
  clear h hr2 hA ih hok hol hf
  generalize hln : l.length = ln at *
  have HLN : Hid (l.length = ln) := hln
  clear hln
  have GL1 : Hid (∀ w1 : World, Calls Tryz.prog 75 #[.int .u8 (40 : Int)] w1 fun e w' => e = .returned (.bool false) ∧ w' = w1) := fun w1 => l3Letter_any 40 w1
  have GD1 : Hid (∀ w1 : World, Calls Tryz.prog 74 #[.int .u8 (40 : Int)] w1 fun e w' => e = .returned (.bool false) ∧ w' = w1) := fun w1 => l3Digit_any 40 w1
  have GN : Hid (∀ (k : Nat) (w1 : World), Calls Tryz.prog 59 #[.int .i64 (k : Int)] w1 fun e w' => e = .returned (.tuple #[.int .i64 (manyOf (k : Int)), .int .i64 (partOf (k : Int)), .int .i64 (ownOf (k : Int))]) ∧ w' = w1) := fun k w1 => l2Need_any (k : Int) w1
  go_enter Tryz.func48, Tryz.ntmps48
  go_wp2_with fail
  refine (GD1.out _).mono ?_
  rintro e w2 ⟨rfl, rfl⟩
  go_wp2_with fail
  refine (GL1.out _).mono ?_
  rintro e w2 ⟨rfl, rfl⟩
  go_wp2_with fail
  refine gt.mono ?_
  rintro e w3 (⟨t, r1, hr, rfl, hto⟩ | ⟨c', q, l', o', hr, rfl, hto⟩)
  · have hkp := HP.out l t r1 hr
    obtain ⟨m1, hm1, hsz1⟩ := readT_front _ _ _ _ _ _ _ hr
    obtain ⟨vt3, vo3, h3, hk3⟩ := hto
    have HK3 : Hid (Keep b w w3 vo vo3) := HK.out.trans hk3
    obtain ⟨x0, x1, x2, x3, x4, x5, x6⟩ := h3.cell
    clear gt HE HK hk3 hcut d2 f2 c0 c1 c2 c3 c4 c5 c6 t0 t1
    match r1, hr, h3, hm1 with
    | [], hr, h3, hm1 =>
      obtain ⟨ta, tc, hsh⟩ := h3.toks.shape
      subst hsh
      have HF : Hid (∀ m : Nat, Calls Tryz.prog 49 #[ptr b, .int .i64 3] (w3.drewN m) fun e w' => e = .returned (.int .i64 0) ∧ TermQ wide vars long (f + 1) b Bo vo ((p, [40]) :: l) o w (.returned (.int .i64 0)) w') := fun m =>
        (fault_any (rd_drewN h3 m) 3).mono fun e w' ⟨he, hr5⟩ => ⟨he, Or.inr ⟨3, long, _, _, pair_end hr, rfl, hr5.trans (keep_drewN HK3.out m)⟩⟩
      have hk0 : (t.kind == 0) = false := beq_eq_false_iff_ne.2 (by omega)
      clear hr h3 hm1 hsz1 HK3 HIH HOL
      generalize t.kind = kk at *
      go_wp2_with fail
      go_loopw [6, 7] (fun v i wr => ∃ (k m : Nat), (3 ≤ k ∧ k ≤ 19) ∧ i = .int .i64 k ∧ v = .int .i64 0 ∧ wr = w3.drewN m) (fun _ i _ => 19 - (intOf i).toNat)
      case atStart => exact ⟨3, 0, by omega, rfl, rfl, rfl⟩
      case round =>
        obtain ⟨k, m, hk, rfl, rfl, rfl⟩ := hrel
        by_cases hk18 : k ≤ 18
        · have g := GN.out k (w3.drewN m)
          generalize manyOf (k : Int) = mk at *
          generalize partOf (k : Int) = pk at *
          generalize ownOf (k : Int) = ok at *
          have hkk : (k : Int) ≤ 18 := by omega
          go_wp2_with fail
          refine g.mono ?_
          rintro e w4 ⟨rfl, rfl⟩
          clear g
          by_cases hmk : mk = 2
          · subst hmk
            go_wp2_with fail
            go_region
            all_goals
              go_wp2_with fail
              go_roundw
              case rel =>
                exact ⟨k + 1, _, by omega, by go_num, rfl, rfl⟩
              case measure => simp [intOf]; omega
          · have hmd : ((mk : Int) == 2) = false := beq_eq_false_iff_ne.2 (by omega)
            go_wp2_with fail
            go_region
            all_goals
              go_wp2_with fail
              go_roundw
              case rel =>
                exact ⟨k + 1, _, by omega, by go_num, rfl, rfl⟩
              case measure => simp [intOf]; omega
        · obtain rfl : k = 19 := by omega
          have gf := HF.out m
          go_wp2_with fail
          refine gf.mono ?_
          rintro e w5 ⟨rfl, hq⟩
          have HQ : Hid (TermQ wide vars long (f + 1) b Bo vo ((p, [40]) :: l) o w (.returned (.int .i64 0)) w5) := hq
          clear hq gf HF
          go_wp2_with fail
          go_ret
          exact HQ.out
    | (yp, ys) :: r2, hr, h3, hm1 =>
      have hk0 : (t.kind == 0) = false := beq_eq_false_iff_ne.2 (by omega)
      have e2 := frozen_heap (o := 2) h3.heap
      obtain ⟨g3, off3, cap3, a3, c3', rfl, hg3, y0, y1, hcut3, hr3, hl3⟩ := h3.pop
      have HF : Hid (opOf ys = 0 → ∀ m : Nat, Calls Tryz.prog 49 #[ptr b, .int .i64 3] (w3.drewN m) fun e w' => e = .returned (.int .i64 0) ∧ TermQ wide vars long (f + 1) b Bo vo ((p, [40]) :: l) o w (.returned (.int .i64 0)) w') := fun h0 m =>
        (fault_any (rd_drewN h3 m) 3).mono fun e w' ⟨he, hr5⟩ => ⟨he, Or.inr ⟨3, yp, _, _, pair_noop hr h0, rfl, hr5.trans (keep_drewN HK3.out m)⟩⟩
      have hml : m1.length + (r2.length + 1) = ln := by rw [← HLN.out, hm1]; simp
      have hfl : t.flat.length = t.size := Tr.flat_len t
      have hok2 : ∀ x ∈ r2, 1 ≤ x.2.length ∧ x.2.length ≤ 800 := fun x hx => HOL.out.2.1 x (by rw [hm1]; simp [hx])
      have HT : Hid (∀ m : Nat, Calls Tryz.prog 48 #[ptr b] ((w3.setCell ⟨b, 2, none⟩ (.slice a3 r2.length c3')).drewN m) (TermQ wide vars long f b Bo vo3 r2 (o ++ t.flat) ((w3.setCell ⟨b, 2, none⟩ (.slice a3 r2.length c3')).drewN m))) := fun m =>
        HIH.out _ b Bo _ _ r2 (o ++ t.flat) (rd_drewN hr3 m) (by have := HOL.out.1; rw [List.length_append]; omega) hok2 (by have := HOL.out.2.2; omega)
      have HKM : Hid (∀ m : Nat, Keep b w ((w3.setCell ⟨b, 2, none⟩ (.slice a3 r2.length c3')).drewN m) vo vo3) := fun m => keep_drewN (HK3.out.set 2 _) m
      have HE2 : Hid (opOf ys ≠ 0 → ∀ m c' q l' o' w5, readT wide vars long f r2 = .error (c', q) → RdTo ((w3.setCell ⟨b, 2, none⟩ (.slice a3 r2.length c3')).drewN m) w5 b Bo vo3 wide vars long l' o' (c' : Int) (q : Int) → TermQ wide vars long (f + 1) b Bo vo ((p, [40]) :: l) o w (.returned (.int .i64 0)) w5) := by
        intro h0 m c' q l' o' w5 hr5 hk5
        exact Or.inr ⟨c', q, _, _, pair_err2 hr h0 hr5, rfl, hk5.trans (HKM.out m)⟩
      have HTK : Hid (opOf ys ≠ 0 → ∀ m (u : Tr) r5 w5, readT wide vars long f r2 = .ok (u, r5) → RdTo ((w3.setCell ⟨b, 2, none⟩ (.slice a3 r2.length c3')).drewN m) w5 b Bo vo3 wide vars long r5 ((o ++ t.flat) ++ u.flat) 0 0 →
          Calls Tryz.prog 78 #[ptr b, tx [41]] w5 fun e w' => (e = .returned (.bool false) ∧ TermQ wide vars long (f + 1) b Bo vo ((p, [40]) :: l) o w (.returned (.int .i64 0)) w') ∨ (e = .returned (.bool true) ∧
            Calls Tryz.prog 77 #[ptr b, .int .i64 (opOf ys : Int), .int .i64 (yp : Int), .int .i64 t.kind, .int .i64 u.kind] w' fun e w'' => ∃ v, e = .returned (.int .i64 v) ∧ TermQ wide vars long (f + 1) b Bo vo ((p, [40]) :: l) o w (.returned (.int .i64 v)) w'')) := by
        intro h0 m u r5 w5 hr5 hk5
        obtain ⟨vt5, vo5, h5, hk5⟩ := hk5
        have hf2 := readT_front _ _ _ _ _ _ _ hr5
        by_cases hz : ∃ z r6, r5 = z :: r6 ∧ z.2 = [41]
        · obtain ⟨⟨zp, zs⟩, r6, rfl, hz⟩ := hz
          simp only at hz
          subst hz
          refine (take_yes h5).mono ?_
          rintro e w6 ⟨rfl, hr6⟩
          obtain ⟨vt6, vo6, h6, hk6⟩ := hr6
          refine Or.inr ⟨rfl, kinds_two (opB_many h0) (pair_kinds hr h0 hr5 rfl) ((HKM.out m).trans (hk5.trans hk6)) ⟨vt6, vo6, h6, Keep.refl _ _ _⟩ ?_⟩
          obtain ⟨m2, hm2, hsz2⟩ := hf2
          have hml2 : m2.length + (r6.length + 1) = r2.length := by rw [hm2]; simp
          have := HOL.out.1
          simp only [List.length_append, Tr.flat_len]
          omega
        · have hz' : ∀ z r6, r5 = z :: r6 → z.2 ≠ [41] := fun z r6 e1 e2 => hz ⟨z, r6, e1, e2⟩
          refine (take_no (s := [41]) h5 hz').mono ?_
          rintro e w6 ⟨rfl, hr6⟩
          exact Or.inl ⟨rfl, Or.inr ⟨3, _, _, _, pair_take hr h0 hr5 hz', rfl, hr6.trans ((HKM.out m).trans hk5)⟩⟩
      have HKIND : Hid (∀ (u : Tr) r5, readT wide vars long f r2 = .ok (u, r5) → 1 ≤ u.kind ∧ u.kind ≤ 2) := HP.out r2
      have hys : ys.length ≤ 800 := (HOL.out.2.1 (yp, ys) (by rw [hm1]; simp)).2
      have hlt3 : b < w3.heap.size := Nat.lt_of_lt_of_le h3.low h3.bound
      have hgb : g3 ≠ b := by omega
      have z0 : ∀ v, (w3.setCell ⟨b, 2, none⟩ v).cell? ⟨g3, off3, none⟩ = some (.int .i64 (yp : Int)) := fun v => by rw [cell_otherBlock (fun e => hgb e.symm)]; exact y0
      clear hr h3 hm1 hsz1 HK3 HIH HOL hr3 hok2 hfl HKM HP hml
      generalize t.kind = kk at *
      generalize r2.length = ln2 at *
      go_wp2_with fail
      go_loopw [6, 7] (fun v i wr => ∃ (k m : Nat), (3 ≤ k ∧ k ≤ 19) ∧ i = .int .i64 k ∧ v = .int .i64 (opAt ys k : Int) ∧ wr = w3.drewN m) (fun _ i _ => 19 - (intOf i).toNat)
      case atStart => exact ⟨3, 0, by omega, rfl, by rw [opAt_start]; rfl, rfl⟩
      case round =>
        obtain ⟨k, m, hk, rfl, rfl, rfl⟩ := hrel
        by_cases hk18 : k ≤ 18
        · have g := GN.out k (w3.drewN m)
          have hkk : (k : Int) ≤ 18 := by omega
          by_cases h13 : k = 13
          · subst h13
            have HN : Hid (opAt ys 14 = opAt ys 13) := opAt_thirteen ys
            have hm13 : manyOf ((13 : Nat) : Int) = 1 := rfl
            rw [hm13] at g
            generalize partOf ((13 : Nat) : Int) = pk at *
            generalize ownOf ((13 : Nat) : Int) = ok at *
            generalize opAt ys 13 = oa at *
            go_wp2_with fail
            refine g.mono ?_
            rintro e w4 ⟨rfl, rfl⟩
            clear g
            go_wp2_with fail
            go_region
            all_goals
              go_wp2_with fail
              go_roundw
              case rel => exact ⟨14, _, by omega, by go_num, by rw [HN.out], rfl⟩
              case measure => simp [intOf]
          · have hmk := many_two hk.1 hk18 h13
            rw [hmk] at g
            generalize partOf (k : Int) = pk at *
            generalize ownOf (k : Int) = ok at *
            have G : Hid (∀ w1 : World, Calls Tryz.prog 60 #[.int .i64 (k : Int)] w1 fun e w' => e = .returned (tx (signN k)) ∧ w' = w1) := fun w1 => l3Sign_nat k hk.1 (by omega) w1
            by_cases hq : signN k = ys
            · have HN : Hid (opAt ys (k + 1) = k) := opAt_hit hk.1 hk18 h13 hq
              rw [hq] at G
              clear hq hmk
              generalize opAt ys k = oa at *
              go_wp2_with fail
              refine g.mono ?_
              rintro e w4 ⟨rfl, rfl⟩
              clear g
              go_wp2_with fail
              go_quiet (exact (G.out _).mono fun e w4 ⟨he, hw⟩ => ⟨he, _, hw⟩)
              all_goals
                go_wp2_with fail
                go_roundw
                case rel => exact ⟨k + 1, _, by omega, by go_num, by rw [HN.out], by first | rfl | (simp only [World.drewN_drewN]; rfl)⟩
                case measure => simp [intOf]; omega
            · have HN : Hid (opAt ys (k + 1) = opAt ys k) := opAt_miss hq
              have hq2 : (signN k == ys) = false := beq_eq_false_iff_ne.2 hq
              clear hq hmk
              generalize signN k = sk at *
              generalize opAt ys k = oa at *
              go_wp2_with fail
              refine g.mono ?_
              rintro e w4 ⟨rfl, rfl⟩
              clear g
              go_wp2_with fail
              go_quiet (exact (G.out _).mono fun e w4 ⟨he, hw⟩ => ⟨he, _, hw⟩)
              all_goals
                go_wp2_with fail
                go_roundw
                case rel => exact ⟨k + 1, _, by omega, by go_num, by rw [HN.out], by first | rfl | (simp only [World.drewN_drewN]; rfl)⟩
                case measure => simp [intOf]; omega
        · obtain rfl : k = 19 := by omega
          rw [opAt_end]
          by_cases h0 : opOf ys = 0
          · have gf := HF.out h0 m
            rw [h0]
            go_wp2_with fail
            refine gf.mono ?_
            rintro e w5 ⟨rfl, hq⟩
            have HQ : Hid (TermQ wide vars long (f + 1) b Bo vo ((p, [40]) :: l) o w (.returned (.int .i64 0)) w5) := hq
            clear hq gf HF
            go_wp2_with fail
            go_ret
            exact HQ.out
          · have gt2 := HT.out m
            have HTK2 : Hid _ := HTK.out h0 m
            have HE3 : Hid _ := HE2.out h0 m
            have hop := opOf_range h0
            have hop0 : ((opOf ys : Int) == 0) = false := beq_eq_false_iff_ne.2 (by omega)
            clear HF HT HTK HE2 h0
            generalize opOf ys = oo at *
            go_wp2_with fail
            refine gt2.mono ?_
            rintro e w5 (⟨u, r5, hr5, rfl, hto5⟩ | ⟨c', q, l', o', hr5, rfl, hto5⟩)
            · have gtk := HTK2.out u r5 w5 hr5 hto5
              have hku := HKIND.out u r5 hr5
              have hku0 : (u.kind == 0) = false := beq_eq_false_iff_ne.2 (by omega)
              clear gt2 HTK2 HE3 hr5 hto5 HKIND
              generalize u.kind = ku at *
              go_wp2_with fail
              refine gtk.mono ?_
              rintro e w6 (⟨rfl, hq⟩ | ⟨rfl, gk⟩)
              · have HQ : Hid (TermQ wide vars long (f + 1) b Bo vo ((p, [40]) :: l) o w (.returned (.int .i64 0)) w6) := hq
                clear hq gtk
                go_wp2_with fail
                go_ret
                exact HQ.out
              · clear gtk
                go_wp2_with fail
                refine gk.mono ?_
                rintro e w7 ⟨v, rfl, hq⟩
                have HQ : Hid (TermQ wide vars long (f + 1) b Bo vo ((p, [40]) :: l) o w (.returned (.int .i64 v)) w7) := hq
                clear hq gk
                go_wp2_with fail
                go_ret
                exact HQ.out
            · have HQ : Hid (TermQ wide vars long (f + 1) b Bo vo ((p, [40]) :: l) o w (.returned (.int .i64 0)) w5) := HE3.out c' q l' o' w5 hr5 hto5
              clear gt2 HTK2 HE3 hr5 hto5 HKIND
              go_wp2_with fail
              go_ret
              exact HQ.out
  · have HQ : Hid (TermQ wide vars long (f + 1) b Bo vo ((p, [40]) :: l) o w (.returned (.int .i64 0)) w3) := HE.out c' q l' o' w3 hr hto
    clear gt hr hto HE HP
    go_wp2_with fail
    go_ret
    exact HQ.out
end Go.Proofs.YtkfplichekebdaaGreatDoor

namespace Go.Proofs.YtkfplichekebdaaGreatDoor
open Go Go.RowKit
open M
set_option linter.unusedVariables false

theorem treeT_len {wide vars : Int} {t : List Nd} {k : Nat} {e : Ent Tr} (h : TreeAt wide vars Tr.leaf Tr.one Tr.two t k e) : e.val.size ≤ t.length := by
  obtain ⟨r, hr⟩ := h
  have h2 := congrArg List.length (pileT_ok _ _ hr).2
  rw [List.length_flatMap, List.map_reverse, List.sum_reverse, List.map_cons, List.sum_cons, Tr.flat_len, List.length_take] at h2
  omega
theorem treeT_depth {wide vars : Int} {t : List Nd} {k : Nat} {e : Ent Tr} (h : TreeAt wide vars Tr.leaf Tr.one Tr.two t k e) : trDepth e.val ≤ t.length := Nat.le_trans (trDepth_le _) (treeT_len h)
set_option maxRecDepth 100000 in
set_option maxHeartbeats 1000000 in
theorem l3Depth_step {wide vars : Int} (b off cap : Nat) (t : List Nd) (hl : t.length ≤ 1048576) (w : World) (hc : Cells w b off t) (k : Nat) (e0 : Ent Tr) (ht : TreeAt wide vars Tr.leaf Tr.one Tr.two t k e0)
    (ih : ∀ (i : Int) (e1 : Ent Tr), 0 ≤ i → i < k → TreeAt wide vars Tr.leaf Tr.one Tr.two t i.toNat e1 →
      Calls Tryz.prog 32 #[.slice (some ⟨b, off, none⟩) t.length cap, .int .i64 i] w fun e w' => e = .returned (.int .i64 (trDepth e1.val : Int)) ∧ w' = w) :
    Calls Tryz.prog 32 #[.slice (some ⟨b, off, none⟩) t.length cap, .int .i64 k] w fun e w' => e = .returned (.int .i64 (trDepth e0.val : Int)) ∧ w' = w := by
  obtain ⟨⟨op, n⟩, hx, n1, n2, hcase⟩ := tree_cases ht
  have hk : k < t.length := (List.getElem?_eq_some_iff.1 hx).1
  obtain ⟨c0, c1⟩ := hc k (op, n) hx
  have g := l2Need_any op w
  have HC : Hid (Cells w b off t) := hc
  simp only at hcase n1 n2 c0 c1
  clear hx n1 n2 ht hc
  rcases hcase with ⟨m0, rfl⟩ | ⟨m1, hk1, d, hd, _, hdk, rfl⟩ | ⟨m2, hk1, d, c, hd, _, hd1, hdk, hcc, _, hck, rfl⟩
  · rw [m0] at g
    clear ih
    generalize ownOf op = o at *
    generalize partOf op = q at *
    clear m0
    show Calls Tryz.prog 32 #[.slice (some ⟨b, off, none⟩) t.length cap, .int .i64 k] w fun e w' => e = .returned (.int .i64 1) ∧ w' = w
    go_enter Tryz.func32, Tryz.ntmps32
    go_wp2_with fail
    refine g.mono ?_
    rintro e w' ⟨rfl, rfl⟩
    clear g
    go_wp2_with fail
    go_ret
    exact ⟨rfl, rfl⟩
  · rw [m1] at g
    have ih1 := fun (i : Int) (h0 : 0 ≤ i) (h1 : i < k) (h2 : i.toNat = k - 1) => ih i d h0 h1 (h2 ▸ hd)
    have hdd := treeT_depth hd
    have e1 : (trDepth (Tr.one (op, n) d.val) : Int) = (trDepth d.val : Int) + 1 := rfl
    rw [e1]
    have HI : Hid _ := ih1
    clear ih ih1 m1 hd e1
    generalize trDepth d.val = da at *
    generalize ownOf op = o at *
    generalize partOf op = q at *
    go_enter Tryz.func32, Tryz.ntmps32
    go_wp2_with fail
    refine g.mono ?_
    rintro e w' ⟨rfl, rfl⟩
    clear g
    go_wp2_with fail
    refine (HI.out _ (by omega) (by omega) (by omega)).mono ?_
    rintro e w' ⟨rfl, rfl⟩
    go_wp2_with fail
    go_ret
    exact ⟨by go_num, rfl⟩
  · rw [m2] at g
    have ih1 := fun (i : Int) (h0 : 0 ≤ i) (h1 : i < k) (h2 : i.toNat = k - 1) => ih i d h0 h1 (h2 ▸ hd)
    have ih2 := fun (i : Int) (h0 : 0 ≤ i) (h1 : i < k) (h2 : i.toNat = d.at0 - 1) => ih i c h0 h1 (h2 ▸ hcc)
    have gf : Hid (∀ i : Int, i.toNat = k - 1 → 0 ≤ i → Calls Tryz.prog 61 #[.slice (some ⟨b, off, none⟩) t.length cap, .int .i64 i] w fun e w' => e = .returned (.int .i64 d.at0) ∧ w' = w) := by
      intro i hi h0
      have g := l2From_any b off cap t hl w HC.out (k - 1) (k - 1) (Nat.le_refl _) d hd
      rw [show ((k - 1 : Nat) : Int) = i from by omega] at g
      exact g
    have hdd := treeT_depth hd
    have hcd := treeT_depth hcc
    have HI : Hid _ := ih1
    have HI2 : Hid _ := ih2
    have e1 : (trDepth (Tr.two (op, n) c.val d.val) : Int) = max (trDepth c.val : Int) (trDepth d.val : Int) + 1 := by
      simp only [trDepth]
      omega
    rw [e1]
    clear ih ih1 ih2 m2 hd hcc e1
    generalize d.at0 = dz at *
    generalize trDepth d.val = da at *
    generalize trDepth c.val = ca at *
    generalize ownOf op = o at *
    generalize partOf op = q at *
    by_cases hgt : da < ca
    · rw [show max (ca : Int) (da : Int) = ca from by omega]
      go_enter Tryz.func32, Tryz.ntmps32
      go_wp2_with fail
      refine g.mono ?_
      rintro e w' ⟨rfl, rfl⟩
      clear g
      go_wp2_with fail
      refine (HI.out _ (by omega) (by omega) (by omega)).mono ?_
      rintro e w' ⟨rfl, rfl⟩
      go_wp2_with fail
      refine (gf.out _ (by omega) (by omega)).mono ?_
      rintro e w' ⟨rfl, rfl⟩
      go_wp2_with fail
      refine (HI2.out _ (by omega) (by omega) (by omega)).mono ?_
      rintro e w' ⟨rfl, rfl⟩
      go_wp2_with fail
      go_ret
      exact ⟨by go_num, rfl⟩
    · rw [show max (ca : Int) (da : Int) = da from by omega]
      go_enter Tryz.func32, Tryz.ntmps32
      go_wp2_with fail
      refine g.mono ?_
      rintro e w' ⟨rfl, rfl⟩
      clear g
      go_wp2_with fail
      refine (HI.out _ (by omega) (by omega) (by omega)).mono ?_
      rintro e w' ⟨rfl, rfl⟩
      go_wp2_with fail
      refine (gf.out _ (by omega) (by omega)).mono ?_
      rintro e w' ⟨rfl, rfl⟩
      go_wp2_with fail
      refine (HI2.out _ (by omega) (by omega) (by omega)).mono ?_
      rintro e w' ⟨rfl, rfl⟩
      go_wp2_with fail
      go_ret
      exact ⟨by go_num, rfl⟩
theorem l3Depth_any {wide vars : Int} (b off cap : Nat) (t : List Nd) (hl : t.length ≤ 1048576) (w : World) (hc : Cells w b off t) : ∀ (n k : Nat), k ≤ n → ∀ (e0 : Ent Tr), TreeAt wide vars Tr.leaf Tr.one Tr.two t k e0 →
    Calls Tryz.prog 32 #[.slice (some ⟨b, off, none⟩) t.length cap, .int .i64 k] w fun e w' => e = .returned (.int .i64 (trDepth e0.val : Int)) ∧ w' = w
  | 0, k, hk, e0, ht => l3Depth_step b off cap t hl w hc k e0 ht (fun i e1 h0 h1 _ => by omega)
  | n + 1, k, hk, e0, ht => l3Depth_step b off cap t hl w hc k e0 ht (fun i e1 h0 h1 h2 => by
    have g := l3Depth_any b off cap t hl w hc n i.toNat (by omega) e1 h2
    rw [Int.toNat_of_nonneg h0] at g
    exact g)
/-- the depth of a good term, 0 of another one -/
def depthL (wide vars : Int) (t : List Nd) : Int :=
  if 0 < kindL wide vars t then
    match pileT wide vars t t.length with
    | some [e] => (trDepth e.val : Int)
    | _ => 0
  else 0
theorem depthL_yes {wide vars : Int} {t : List Nd} {r : Tr} (hk : 0 < kindL wide vars t) (hr : pileT wide vars t t.length = some [⟨0, r.kind, r⟩]) : depthL wide vars t = trDepth r := by
  unfold depthL
  rw [if_pos hk, hr]
theorem depthL_no {wide vars : Int} {t : List Nd} (hk : ¬ 0 < kindL wide vars t) : depthL wide vars t = 0 := by
  unfold depthL
  rw [if_neg hk]
set_option maxRecDepth 100000 in
theorem depthOf_any (wide vars : Int) (v : Value) (t : List Nd) (w : World) (h : NodesAt w v t) :
    Calls Tryz.prog 10 #[.int .i64 wide, .int .i64 vars, v] w fun e w' => e = .returned (.tuple #[.int .i64 (depthL wide vars t), .bool (decide (0 < kindL wide vars t))]) ∧ Below w.heap.size w w' := by
  have gg := goodTerm_any wide vars v t w h
  by_cases hk : 0 < kindL wide vars t
  · obtain ⟨_, _, _, h4, h5, r, hr, _⟩ := root_tree hk
    rw [depthL_yes hk hr, decide_eq_true hk]
    rw [decide_eq_true hk] at gg
    obtain ⟨hok, hlen, hN⟩ := h
    rcases hN with ⟨rfl, _⟩ | ⟨b, off, cap, rfl, hlt, hc⟩
    · simp at h4
    have GD : Hid (∀ (i : Int) (w1 : World), i.toNat = t.length - 1 → 0 ≤ i → Below w.heap.size w w1 → Calls Tryz.prog 32 #[.slice (some ⟨b, off, none⟩) t.length cap, .int .i64 i] w1 fun e w' => e = .returned (.int .i64 (trDepth r : Int)) ∧ w' = w1) := by
      intro i w1 hi h0 hb
      have hc1 : Cells w1 b off t := by
        intro i x hx
        rw [hb.cell (p := ⟨b, off + i * 2, none⟩) hlt, hb.cell (p := ⟨b, off + i * 2 + 1, none⟩) hlt]
        exact hc i x hx
      have g := l3Depth_any (wide := wide) (vars := vars) b off cap t (by omega) w1 hc1 (t.length - 1) (t.length - 1) (Nat.le_refl _) ⟨0, r.kind, r⟩ ⟨[], by rw [show t.length - 1 + 1 = t.length from by omega]; exact hr⟩
      rw [show ((t.length - 1 : Nat) : Int) = i from by omega] at g
      exact g
    clear hr hk hc hok
    generalize trDepth r = D at *
    go_enter Tryz.func10, Tryz.ntmps10
    go_wp2_with fail
    refine gg.mono ?_
    rintro e w1 ⟨rfl, hb⟩
    have HB : Hid _ := hb
    clear gg hb
    go_wp2_with fail
    refine (GD.out _ _ (by omega) (by omega) HB.out).mono ?_
    rintro e w2 ⟨rfl, rfl⟩
    go_wp2_with fail
    go_ret2
    exact ⟨rfl, HB.out⟩
  · rw [depthL_no hk, decide_eq_false hk]
    rw [decide_eq_false hk] at gg
    clear hk h
    go_enter Tryz.func10, Tryz.ntmps10
    go_wp2_with fail
    refine gg.mono ?_
    rintro e w1 ⟨rfl, hb⟩
    have HB : Hid _ := hb
    clear gg hb
    go_wp2_with fail
    go_ret2
    exact ⟨rfl, HB.out⟩
end Go.Proofs.YtkfplichekebdaaGreatDoor

namespace Go.Proofs.YtkfplichekebdaaGreatDoor
open Go Go.RowKit
open M
set_option linter.unusedVariables false

/-- texts one behind the other -/
theorem add_tx (a b : Tx) (h : a.length + b.length ≤ 100000) (w : World) : (Op.stringOp .add (⟨a.toArray⟩ : ByteArray) ⟨b.toArray⟩).run Tryz.prog w = .ok (tx (a ++ b)) w := by
  have h1 := run_string_add_sum (P := Tryz.prog) w ⟨a.toArray⟩ ⟨b.toArray⟩ (by simp [ByteArray.size]; omega)
  rw [ByteArray.mk_append_mk] at h1
  exact h1
/-- a tree's own text, where its numbers are words -/
theorem treeT_wd {wide vars : Int} {t : List Nd} (hok : ∀ x ∈ t, NdOk x) : ∀ (n k : Nat), k ≤ n → ∀ e : Ent Tr, TreeAt wide vars Tr.leaf Tr.one Tr.two t k e → Wd e.val
  | n, k, hk, e, ht => by
    obtain ⟨x, hx, n1, n2, hcase⟩ := tree_cases ht
    have hxo := hok x (List.mem_of_getElem? hx)
    rcases hcase with ⟨m0, rfl⟩ | ⟨m1, hk1, d, hd, _, hdk, rfl⟩ | ⟨m2, hk1, d, c, hd, _, hd1, hdk, hcc, _, hck, rfl⟩
    · exact ⟨hxo.2.2.1, by have := hxo.2.2.2; omega⟩
    · match n, hk with
      | 0, hk => omega
      | n' + 1, hk => exact treeT_wd hok n' (k - 1) (by omega) d hd
    · match n, hk with
      | 0, hk => omega
      | n' + 1, hk => exact ⟨treeT_wd hok n' (d.at0 - 1) (by omega) c hcc, treeT_wd hok n' (k - 1) (by omega) d hd⟩
section
variable {b off cap : Nat} {t : List Nd}
set_option maxRecDepth 100000 in
set_option maxHeartbeats 1000000 in
theorem l3Text_leaf (j : Nat) (op n : Int) (hj : j < t.length) (hl : t.length ≤ 48) (h0 : 0 ≤ n) (h1 : n < 18446744073709551616) (hop : op = 1 ∨ op = 2 ∧ n < 4 ∨ op = 20 ∧ n ≤ 1) (w : World)
    (c0 : w.cell? ⟨b, off + j * 2, none⟩ = some (.int .i64 op)) (c1 : w.cell? ⟨b, off + j * 2 + 1, none⟩ = some (.int .u64 n)) :
    Calls Tryz.prog 30 #[.slice (some ⟨b, off, none⟩) t.length cap, .int .i64 j] w fun e w' => e = .returned (tx (leafL (op, n))) ∧ Below w.heap.size w w' := by
  obtain ⟨m, rfl⟩ := Int.eq_ofNat_of_zero_le h0
  have g := l2Need_any op (w.alloc (.cells #[.int .i64 op, .int .u64 (m : Int)] 63))
  have HB : Hid (Below w.heap.size w (w.alloc (.cells #[.int .i64 op, .int .u64 (m : Int)] 63))) := (Below.refl _ _).alloc (Nat.le_refl _) _
  rcases hop with rfl | ⟨rfl, hv⟩ | ⟨rfl, hv⟩
  · have e1 : leafL (1, (m : Int)) = numL m := rfl
    have GN : Hid (∀ w1 : World, Calls Tryz.prog 43 #[.int .u64 (m : Int)] w1 fun e w' => e = .returned (tx (numL m)) ∧ Below w1.heap.size w1 w') := fun w1 => l1Num_any m (by omega) w1
    rw [e1]
    generalize numL m = l at *
    generalize (m : Int) = n at *
    go_enter Tryz.func30, Tryz.ntmps30
    go_wp2_with fail
    refine g.mono ?_
    rintro e w1 ⟨rfl, rfl⟩
    clear g
    have g2 := GN.out (w.alloc (.cells #[.int .i64 1, .int .u64 n] 63))
    go_wp2_with fail
    refine g2.mono ?_
    rintro e w2 ⟨rfl, hb2⟩
    have HB2 : Hid (Below w.heap.size w w2) := HB.out.trans (hb2.mono HB.out.size)
    clear g2 hb2
    go_wp2_with fail
    go_ret
    exact ⟨rfl, HB2.out⟩
  · have e1 : leafL (2, (m : Int)) = nameL m := rfl
    have GN : Hid (∀ w1 : World, Calls Tryz.prog 42 #[.int .i64 (m : Int)] w1 fun e w' => e = .returned (tx (nameL m)) ∧ Below w1.heap.size w1 w') := fun w1 => l3Name_any m (by omega) w1
    rw [e1]
    generalize nameL m = l at *
    go_enter Tryz.func30, Tryz.ntmps30
    go_wp2_with fail
    refine g.mono ?_
    rintro e w1 ⟨rfl, rfl⟩
    clear g
    have g2 := GN.out (w.alloc (.cells #[.int .i64 2, .int .u64 (m : Int)] 63))
    go_wp2_with fail
    refine g2.mono ?_
    rintro e w2 ⟨rfl, hb2⟩
    have HB2 : Hid (Below w.heap.size w w2) := HB.out.trans (hb2.mono HB.out.size)
    clear g2 hb2
    go_wp2_with fail
    go_ret
    exact ⟨rfl, HB2.out⟩
  · rcases (show m = 0 ∨ m = 1 by omega) with rfl | rfl
    · have e1 : leafL (20, ((0 : Nat) : Int)) = noL := rfl
      rw [e1]
      go_enter Tryz.func30, Tryz.ntmps30
      go_wp2_with fail
      refine g.mono ?_
      rintro e w1 ⟨rfl, rfl⟩
      clear g
      go_wp2_with fail
      go_ret
      exact ⟨rfl, HB.out⟩
    · have e1 : leafL (20, ((1 : Nat) : Int)) = yesL := rfl
      rw [e1]
      go_enter Tryz.func30, Tryz.ntmps30
      go_wp2_with fail
      refine g.mono ?_
      rintro e w1 ⟨rfl, rfl⟩
      clear g
      go_wp2_with fail
      go_ret
      exact ⟨rfl, HB.out⟩
set_option maxRecDepth 100000 in
set_option maxHeartbeats 1000000 in
theorem l3Text_one (j : Nat) (op n : Int) (la : Tx) (hla : la.length ≤ 2000) (hj : j < t.length) (hj1 : 1 ≤ j) (hl : t.length ≤ 48) (hop : op = 13 ∨ op = 19) (w : World)
    (c0 : w.cell? ⟨b, off + j * 2, none⟩ = some (.int .i64 op)) (c1 : w.cell? ⟨b, off + j * 2 + 1, none⟩ = some (.int .u64 n))
    (ih : ∀ (i : Int) (w1 : World), i.toNat = j - 1 → 0 ≤ i → Below w.heap.size w w1 → Calls Tryz.prog 30 #[.slice (some ⟨b, off, none⟩) t.length cap, .int .i64 i] w1 fun e w' => e = .returned (tx la) ∧ Below w1.heap.size w1 w') :
    Calls Tryz.prog 30 #[.slice (some ⟨b, off, none⟩) t.length cap, .int .i64 j] w fun e w' => e = .returned (tx (signL op ++ la)) ∧ Below w.heap.size w w' := by
  have g := l2Need_any op (w.alloc (.cells #[.int .i64 op, .int .u64 n] 63))
  have HB : Hid (Below w.heap.size w (w.alloc (.cells #[.int .i64 op, .int .u64 n] 63))) := (Below.refl _ _).alloc (Nat.le_refl _) _
  have GS : Hid (∀ w1 : World, Calls Tryz.prog 60 #[.int .i64 op] w1 fun e w' => e = .returned (tx (signL op)) ∧ w' = w1) := fun w1 => l3Sign_any op w1
  have ha := fun w : World => add_tx (signL op) la (by have := signL_len op; omega) w
  have IH : Hid _ := ih
  clear ih
  rw [show manyOf op = 1 from by unfold manyOf; rw [if_pos hop]] at g
  have e2 : (op == 2) = false := beq_eq_false_iff_ne.2 (by omega)
  have e20 : (op == 20) = false := beq_eq_false_iff_ne.2 (by omega)
  generalize signL op = sg at *
  generalize hsum : sg ++ la = S at *
  clear hsum hop
  generalize ownOf op = o at *
  generalize partOf op = q at *
  go_enter Tryz.func30, Tryz.ntmps30
  go_wp2_with fail
  refine g.mono ?_
  rintro e w1 ⟨rfl, rfl⟩
  clear g
  go_wp2_with fail
  refine (GS.out _).mono ?_
  rintro e w1 ⟨rfl, rfl⟩
  clear GS
  go_wp2_with fail
  refine (IH.out _ _ (by omega) (by omega) HB.out).mono ?_
  rintro e w2 ⟨rfl, hb2⟩
  have HB2 : Hid (Below w.heap.size w w2) := HB.out.trans (hb2.mono HB.out.size)
  clear hb2 IH
  go_wp2_with fail
  go_ret
  exact ⟨rfl, HB2.out⟩
set_option maxRecDepth 100000 in
set_option maxHeartbeats 2000000 in
theorem l3Text_two (j da : Nat) (op n : Int) (la lb : Tx) (hla : la.length ≤ 2000) (hlb : lb.length ≤ 2000) (hj : j < t.length) (hj1 : 1 ≤ j) (hd1 : 1 ≤ da) (hdj : da ≤ j - 1) (hl : t.length ≤ 48) (hop : (3 ≤ op ∧ op ≤ 12) ∨ (14 ≤ op ∧ op ≤ 18)) (w : World)
    (c0 : w.cell? ⟨b, off + j * 2, none⟩ = some (.int .i64 op)) (c1 : w.cell? ⟨b, off + j * 2 + 1, none⟩ = some (.int .u64 n))
    (ihf : ∀ (i : Int) (w1 : World), i.toNat = j - 1 → 0 ≤ i → Below w.heap.size w w1 → Calls Tryz.prog 61 #[.slice (some ⟨b, off, none⟩) t.length cap, .int .i64 i] w1 fun e w' => e = .returned (.int .i64 da) ∧ w' = w1)
    (ihc : ∀ (i : Int) (w1 : World), i.toNat = da - 1 → 0 ≤ i → Below w.heap.size w w1 → Calls Tryz.prog 30 #[.slice (some ⟨b, off, none⟩) t.length cap, .int .i64 i] w1 fun e w' => e = .returned (tx la) ∧ Below w1.heap.size w1 w')
    (ihd : ∀ (i : Int) (w1 : World), i.toNat = j - 1 → 0 ≤ i → Below w.heap.size w w1 → Calls Tryz.prog 30 #[.slice (some ⟨b, off, none⟩) t.length cap, .int .i64 i] w1 fun e w' => e = .returned (tx lb) ∧ Below w1.heap.size w1 w') :
    Calls Tryz.prog 30 #[.slice (some ⟨b, off, none⟩) t.length cap, .int .i64 j] w fun e w' => e = .returned (tx ([40] ++ la ++ signL op ++ lb ++ [41])) ∧ Below w.heap.size w w' := by
  have g := l2Need_any op (w.alloc (.cells #[.int .i64 op, .int .u64 n] 63))
  have HB : Hid (Below w.heap.size w (w.alloc (.cells #[.int .i64 op, .int .u64 n] 63))) := (Below.refl _ _).alloc (Nat.le_refl _) _
  have GS : Hid (∀ w1 : World, Calls Tryz.prog 60 #[.int .i64 op] w1 fun e w' => e = .returned (tx (signL op)) ∧ w' = w1) := fun w1 => l3Sign_any op w1
  have hsl := signL_len op
  have ha1 := fun w : World => add_tx [40] la (by simp; omega) w
  have ha2 := fun w : World => add_tx ([40] ++ la) (signL op) (by simp; omega) w
  have ha3 := fun w : World => add_tx ([40] ++ la ++ signL op) lb (by simp; omega) w
  have ha4 := fun w : World => add_tx ([40] ++ la ++ signL op ++ lb) [41] (by simp; omega) w
  have HC : Hid (∀ w2, Below (w.heap.size + 1) (w.alloc (.cells #[.int .i64 op, .int .u64 n] 63)) w2 → w2.cell? ⟨w.heap.size, 0, none⟩ = some (.int .i64 op)) := by
    intro w2 hb
    rw [hb.cell (p := ⟨w.heap.size, 0, none⟩) (by simp), World.cell?_alloc_new]
    rfl
  have IHF : Hid _ := ihf
  have IHC : Hid _ := ihc
  have IHD : Hid _ := ihd
  clear ihf ihc ihd
  rw [show manyOf op = 2 from by unfold manyOf; rw [if_neg (by omega), if_pos (by omega)]] at g
  have e2 : (op == 2) = false := beq_eq_false_iff_ne.2 (by omega)
  have e20 : (op == 20) = false := beq_eq_false_iff_ne.2 (by omega)
  generalize h4 : [40] ++ la ++ signL op ++ lb ++ [41] = S4 at *
  generalize h3 : [40] ++ la ++ signL op ++ lb = S3 at *
  generalize h2 : [40] ++ la ++ signL op = S2 at *
  generalize h1 : [40] ++ la = S1 at *
  generalize signL op = sg at *
  clear h1 h2 h3 h4 hop
  generalize ownOf op = o at *
  generalize partOf op = q at *
  go_enter Tryz.func30, Tryz.ntmps30
  go_wp2_with fail
  refine g.mono ?_
  rintro e w1 ⟨rfl, rfl⟩
  clear g
  go_wp2_with fail
  go_region_with (first | (go_at_call 61; refine (IHF.out _ _ (by first | omega | (rw [IntWalk.i64_in _ ⟨by omega, by omega⟩]; omega)) (by first | omega | (rw [IntWalk.i64_in _ ⟨by omega, by omega⟩]; omega)) (by first | exact HB.out | exact HB.out.drew | exact HB.out.drew.drew)).mono ?_; rintro e w2 ⟨rfl, rfl⟩) | (go_at_call 60; refine (GS.out _).mono ?_; rintro e w2 ⟨rfl, rfl⟩) | (go_at_call 30; refine (IHC.out _ _ (by first | omega | (rw [IntWalk.i64_in _ ⟨by omega, by omega⟩]; omega)) (by first | omega | (rw [IntWalk.i64_in _ ⟨by omega, by omega⟩]; omega)) (by first | exact HB.out | exact HB.out.drew | exact HB.out.drew.drew)).mono ?_; rintro e w2 ⟨rfl, hb2⟩; have R2 : Hid (Below (w.heap.size + 1) (w.alloc (.cells #[.int .i64 op, .int .u64 n] 63)) w2) := (by first | exact hb2.mono (by simp) | exact (Below.refl _ _).drew.trans (hb2.mono (by simp)) | exact (Below.refl _ _).drew.drew.trans (hb2.mono (by simp))); have HB2 : Hid (Below w.heap.size w w2) := HB.out.trans (R2.out.mono (by omega)); have cell2 := HC.out w2 R2.out; clear hb2) | (go_at_call 30; refine (IHD.out _ _ (by first | omega | (rw [IntWalk.i64_in _ ⟨by omega, by omega⟩]; omega)) (by first | omega | (rw [IntWalk.i64_in _ ⟨by omega, by omega⟩]; omega)) (by first | exact HB2.out | exact HB2.out.drew | exact HB2.out.drew.drew)).mono ?_; rintro e w3 ⟨rfl, hb3⟩; have HB3 : Hid (Below w.heap.size w w3) := (by first | exact HB2.out.trans (hb3.mono HB2.out.size) | exact HB2.out.drew.trans (hb3.mono HB2.out.size)); clear hb3))
  all_goals
    clear IHF IHC IHD GS HC
    go_wp2_with fail
    go_ret
    exact ⟨rfl, Hid.out (p := Below w.heap.size w w3) (by assumption)⟩
end
end Go.Proofs.YtkfplichekebdaaGreatDoor

namespace Go.Proofs.YtkfplichekebdaaGreatDoor
open Go Go.RowKit
open M
set_option linter.unusedVariables false

theorem leaf_ops {wide vars op n : Int} (hv : vars ≤ 4) (n1 : ¬ ownOf op = 0) (n2 : okN wide vars op n = true) (m0 : manyOf op = 0) : op = 1 ∨ op = 2 ∧ n < 4 ∨ op = 20 ∧ n ≤ 1 := by
  have hop : op = 1 ∨ op = 2 ∨ op = 20 := by
    unfold manyOf at m0
    unfold ownOf at n1
    split at m0
    · omega
    · split at m0
      · omega
      · split at n1
        · omega
        · split at n1 <;> omega
  rcases hop with rfl | rfl | rfl
  · exact Or.inl rfl
  · unfold okN at n2
    simp at n2
    exact Or.inr (Or.inl ⟨rfl, by omega⟩)
  · unfold okN at n2
    simp at n2
    exact Or.inr (Or.inr ⟨rfl, by omega⟩)
theorem one_ops {op : Int} (m1 : manyOf op = 1) : op = 13 ∨ op = 19 := by
  unfold manyOf at m1
  split at m1
  · assumption
  · split at m1 <;> omega
theorem two_ops {op : Int} (m2 : manyOf op = 2) : (3 ≤ op ∧ op ≤ 12) ∨ (14 ≤ op ∧ op ≤ 18) := by
  unfold manyOf at m2
  split at m2
  · cases m2
  · split at m2 <;> omega
theorem treeT_text {wide vars : Int} {t : List Nd} (hok : ∀ x ∈ t, NdOk x) (hl : t.length ≤ 48) {k : Nat} {e : Ent Tr} (h : TreeAt wide vars Tr.leaf Tr.one Tr.two t k e) : (trText e.val).length ≤ 960 := by
  have h1 := trText_len e.val (treeT_wd hok k k (Nat.le_refl _) e h)
  have h2 := treeT_len h
  omega
theorem l3Text_any {wide vars : Int} {b off cap : Nat} {t : List Nd} (hv : vars ≤ 4) (hok : ∀ x ∈ t, NdOk x) (hl : t.length ≤ 48) :
    ∀ (m j : Nat), j ≤ m → ∀ (e0 : Ent Tr), TreeAt wide vars Tr.leaf Tr.one Tr.two t j e0 → ∀ (w : World), b < w.heap.size → Cells w b off t →
    Calls Tryz.prog 30 #[.slice (some ⟨b, off, none⟩) t.length cap, .int .i64 j] w fun e w' => e = .returned (tx (trText e0.val)) ∧ Below w.heap.size w w'
  | m, j, hjm, e0, ht, w, hlt, hc => by
    have hcb : ∀ w1, Below w.heap.size w w1 → Cells w1 b off t := fun w1 hb i x hx => by
      rw [hb.cell (p := ⟨b, off + i * 2, none⟩) hlt, hb.cell (p := ⟨b, off + i * 2 + 1, none⟩) hlt]
      exact hc i x hx
    obtain ⟨⟨op, n⟩, hx, n1, n2, hcase⟩ := tree_cases ht
    have hj : j < t.length := (List.getElem?_eq_some_iff.1 hx).1
    have hno := hok (op, n) (List.mem_of_getElem? hx)
    obtain ⟨c0, c1⟩ := hc j (op, n) hx
    simp only at hcase n1 n2 c0 c1
    have hn0 := hno.2.2.1
    have hn1 := hno.2.2.2
    simp only at hn0 hn1
    rcases hcase with ⟨m0, rfl⟩ | ⟨m1, hj1, d, hd, hdk, hdj, rfl⟩ | ⟨m2, hj1, d, c, hd, hdk, hd1, hdj, hcc, hck, hcd, rfl⟩
    · exact l3Text_leaf j op n hj hl hn0 (by omega) (leaf_ops hv n1 n2 m0) w c0 c1
    · match m, hjm with
      | 0, hjm => omega
      | m' + 1, hjm =>
        have hta := treeT_text hok hl hd
        exact l3Text_one j op n (trText d.val) (by omega) hj hj1 hl (one_ops m1) w c0 c1 (fun i w1 hi h0 hb => by
          have g := l3Text_any hv hok hl (cap := cap) m' (j - 1) (by omega) d hd w1 (Nat.lt_of_lt_of_le hlt hb.size) (hcb w1 hb)
          rw [show ((j - 1 : Nat) : Int) = i from by omega] at g
          exact g)
    · match m, hjm with
      | 0, hjm => omega
      | m' + 1, hjm =>
        have hta := treeT_text hok hl hcc
        have htb := treeT_text hok hl hd
        exact l3Text_two j d.at0 op n (trText c.val) (trText d.val) (by omega) (by omega) hj hj1 hd1 hdj hl (two_ops m2) w c0 c1 (fun i w1 hi h0 hb => by
          have g := l2From_any b off cap t (by omega) w1 (hcb w1 hb) (j - 1) (j - 1) (Nat.le_refl _) d hd
          rw [show ((j - 1 : Nat) : Int) = i from by omega] at g
          exact g) (fun i w1 hi h0 hb => by
          have g := l3Text_any hv hok hl (cap := cap) m' (d.at0 - 1) (by omega) c hcc w1 (Nat.lt_of_lt_of_le hlt hb.size) (hcb w1 hb)
          rw [show ((d.at0 - 1 : Nat) : Int) = i from by omega] at g
          exact g) (fun i w1 hi h0 hb => by
          have g := l3Text_any hv hok hl (cap := cap) m' (j - 1) (by omega) d hd w1 (Nat.lt_of_lt_of_le hlt hb.size) (hcb w1 hb)
          rw [show ((j - 1 : Nat) : Int) = i from by omega] at g
          exact g)
/-- the text of a good term whose text is not too long, and whether there is one -/
def textB (wide vars : Int) (t : List Nd) : Bool :=
  decide (0 < kindL wide vars t) && (match pileT wide vars t t.length with | some [e] => decide ((trText e.val).length ≤ 800) | _ => false)
def textL (wide vars : Int) (t : List Nd) : Tx :=
  if textB wide vars t = true then (match pileT wide vars t t.length with | some [e] => trText e.val | _ => []) else []
theorem textB_no {wide vars : Int} {t : List Nd} (hk : ¬ 0 < kindL wide vars t) : textB wide vars t = false ∧ textL wide vars t = [] := by
  have h : textB wide vars t = false := by unfold textB; rw [decide_eq_false hk]; rfl
  exact ⟨h, by unfold textL; rw [h]; rfl⟩
theorem textB_yes {wide vars : Int} {t : List Nd} {r : Tr} (hk : 0 < kindL wide vars t) (hr : pileT wide vars t t.length = some [⟨0, r.kind, r⟩]) (hl : (trText r).length ≤ 800) : textB wide vars t = true ∧ textL wide vars t = trText r := by
  have h : textB wide vars t = true := by unfold textB; rw [decide_eq_true hk, hr]; simp [hl]
  exact ⟨h, by unfold textL; rw [h, hr]; rfl⟩
theorem textB_long {wide vars : Int} {t : List Nd} {r : Tr} (hk : 0 < kindL wide vars t) (hr : pileT wide vars t t.length = some [⟨0, r.kind, r⟩]) (hl : ¬ (trText r).length ≤ 800) : textB wide vars t = false ∧ textL wide vars t = [] := by
  have h : textB wide vars t = false := by unfold textB; rw [decide_eq_true hk, hr]; simp [hl]
  exact ⟨h, by unfold textL; rw [h]; rfl⟩
set_option maxRecDepth 100000 in
theorem termText_any (wide vars : Int) (v : Value) (t : List Nd) (w : World) (h : NodesAt w v t) :
    Calls Tryz.prog 8 #[.int .i64 wide, .int .i64 vars, v] w fun e w' => e = .returned (.tuple #[tx (textL wide vars t), .bool (textB wide vars t)]) ∧ Below w.heap.size w w' := by
  have gg := goodTerm_any wide vars v t w h
  by_cases hk : 0 < kindL wide vars t
  · obtain ⟨_, _, hv4, h4, h5, r, hr, _⟩ := root_tree hk
    rw [decide_eq_true hk] at gg
    obtain ⟨hok, hlen, hN⟩ := h
    rcases hN with ⟨rfl, _⟩ | ⟨b, off, cap, rfl, hlt, hc⟩
    · simp at h4
    have htr : TreeAt wide vars Tr.leaf Tr.one Tr.two t (t.length - 1) ⟨0, r.kind, r⟩ := ⟨[], by rw [show t.length - 1 + 1 = t.length from by omega]; exact hr⟩
    have hbd := treeT_text hok h5 htr
    have GD : Hid (∀ (i : Int) (w1 : World), i.toNat = t.length - 1 → 0 ≤ i → Below w.heap.size w w1 → Calls Tryz.prog 30 #[.slice (some ⟨b, off, none⟩) t.length cap, .int .i64 i] w1 fun e w' => e = .returned (tx (trText r)) ∧ Below w1.heap.size w1 w') := by
      intro i w1 hi h0 hb
      have hc1 : Cells w1 b off t := by
        intro i x hx
        rw [hb.cell (p := ⟨b, off + i * 2, none⟩) hlt, hb.cell (p := ⟨b, off + i * 2 + 1, none⟩) hlt]
        exact hc i x hx
      have g := l3Text_any (cap := cap) hv4 hok h5 (t.length - 1) (t.length - 1) (Nat.le_refl _) ⟨0, r.kind, r⟩ htr w1 (Nat.lt_of_lt_of_le hlt hb.size) hc1
      rw [show ((t.length - 1 : Nat) : Int) = i from by omega] at g
      exact g
    by_cases h8 : (trText r).length ≤ 800
    · obtain ⟨e1, e2⟩ := textB_yes hk hr h8
      rw [e1, e2]
      simp only at hbd
      clear hr hk hc hok htr e1 e2
      generalize trText r = D at *
      go_enter Tryz.func8, Tryz.ntmps8
      go_wp2_with fail
      refine gg.mono ?_
      rintro e w1 ⟨rfl, hb⟩
      have HB : Hid _ := hb
      clear gg hb
      go_wp2_with fail
      refine (GD.out _ _ (by omega) (by omega) HB.out).mono ?_
      rintro e w2 ⟨rfl, hb2⟩
      have HB2 : Hid (Below w.heap.size w w2) := HB.out.trans (hb2.mono HB.out.size)
      clear hb2 GD
      go_wp2_with fail
      go_ret2
      exact ⟨rfl, HB2.out⟩
    · obtain ⟨e1, e2⟩ := textB_long hk hr h8
      rw [e1, e2]
      simp only at hbd
      clear hr hk hc hok htr e1 e2
      generalize trText r = D at *
      go_enter Tryz.func8, Tryz.ntmps8
      go_wp2_with fail
      refine gg.mono ?_
      rintro e w1 ⟨rfl, hb⟩
      have HB : Hid _ := hb
      clear gg hb
      go_wp2_with fail
      refine (GD.out _ _ (by omega) (by omega) HB.out).mono ?_
      rintro e w2 ⟨rfl, hb2⟩
      have HB2 : Hid (Below w.heap.size w w2) := HB.out.trans (hb2.mono HB.out.size)
      clear hb2 GD
      go_wp2_with fail
      go_ret2
      exact ⟨rfl, HB2.out⟩
  · obtain ⟨e1, e2⟩ := textB_no hk
    rw [e1, e2]
    rw [decide_eq_false hk] at gg
    clear hk h e1 e2
    go_enter Tryz.func8, Tryz.ntmps8
    go_wp2_with fail
    refine gg.mono ?_
    rintro e w1 ⟨rfl, hb⟩
    have HB : Hid _ := hb
    clear gg hb
    go_wp2_with fail
    go_ret2
    exact ⟨rfl, HB.out⟩
end Go.Proofs.YtkfplichekebdaaGreatDoor

namespace Go.Proofs.YtkfplichekebdaaGreatDoor
open Go Go.RowKit
open M
set_option linter.unusedVariables false

/-- a row of nodes is read in one way -/
theorem flat_one_way {wide vars wide' vars' : Int} : ∀ (T1 : Tr) (s1 s2 : List Nd) (T2 : Tr), T1.Ok wide vars → T2.Ok wide' vars' → s1 ++ T1.flat = s2 ++ T2.flat → T1 = T2 ∧ s1 = s2
  | .leaf x, s1, s2, T2, h1, h2, e => by
    have e' := e
    rw [Tr.flat_eq T2, ← List.append_assoc] at e'
    obtain ⟨e1, e2⟩ := List.append_inj' (show s1 ++ [x] = (s2 ++ T2.parts.flatMap Tr.flat) ++ [T2.nd] from e') rfl
    have hx : x = T2.nd := by simpa using e2
    have hm := (Tr.ok_nd h2).2.2
    rw [← hx, h1.2.2] at hm
    cases T2 with
    | leaf y =>
      simp [Tr.nd] at hx
      subst hx
      exact ⟨rfl, by simpa [Tr.parts] using e1⟩
    | one y a => simp [Tr.parts] at hm
    | two y a b => simp [Tr.parts] at hm
  | .one x a, s1, s2, T2, h1, h2, e => by
    have e' := e
    rw [Tr.flat_eq T2, ← List.append_assoc] at e'
    obtain ⟨e1, e2⟩ := List.append_inj' (show (s1 ++ a.flat) ++ [x] = (s2 ++ T2.parts.flatMap Tr.flat) ++ [T2.nd] from by rw [← e']; simp [Tr.flat]) rfl
    have hx : x = T2.nd := by simpa using e2
    have hm := (Tr.ok_nd h2).2.2
    rw [← hx, h1.2.2.1] at hm
    cases T2 with
    | leaf y => simp [Tr.parts] at hm
    | one y c =>
      simp [Tr.nd] at hx
      subst hx
      obtain ⟨f1, f2⟩ := flat_one_way a s1 s2 c h1.2.2.2.2 h2.2.2.2.2 (by simpa [Tr.parts] using e1)
      exact ⟨by rw [f1], f2⟩
    | two y c d => simp [Tr.parts] at hm
  | .two x a b, s1, s2, T2, h1, h2, e => by
    have e' := e
    rw [Tr.flat_eq T2, ← List.append_assoc] at e'
    obtain ⟨e1, e2⟩ := List.append_inj' (show (s1 ++ a.flat ++ b.flat) ++ [x] = (s2 ++ T2.parts.flatMap Tr.flat) ++ [T2.nd] from by rw [← e']; simp [Tr.flat]) rfl
    have hx : x = T2.nd := by simpa using e2
    have hm := (Tr.ok_nd h2).2.2
    rw [← hx, h1.2.2.1] at hm
    cases T2 with
    | leaf y => simp [Tr.parts] at hm
    | one y c => simp [Tr.parts] at hm
    | two y c d =>
      simp [Tr.nd] at hx
      subst hx
      obtain ⟨f1, f2⟩ := flat_one_way b (s1 ++ a.flat) (s2 ++ c.flat) d h1.2.2.2.2.2.2 h2.2.2.2.2.2.2 (by simpa [Tr.parts] using e1)
      obtain ⟨f3, f4⟩ := flat_one_way a s1 s2 c h1.2.2.2.2.2.1 h2.2.2.2.2.2.1 f2
      exact ⟨by rw [f1, f3], f4⟩
/-- the tree of the row of a good tree is that tree -/
theorem root_of_flat {wide vars : Int} {T : Tr} (h : T.Ok wide vars) (hw : wideB wide = true) (h1 : 1 ≤ vars) (h4 : vars ≤ 4) (hs : T.size ≤ 48) : 0 < kindL wide vars T.flat ∧ pileT wide vars T.flat T.flat.length = some [⟨0, T.kind, T⟩] := by
  have hk := Tr.kindL_eq h hw h1 h4 hs
  have hp : 0 < kindL wide vars T.flat := by
    rw [hk]
    have := Tr.kind_pos h
    omega
  obtain ⟨_, _, _, _, _, r, hr, k1, k2, _⟩ := root_tree hp
  obtain ⟨e, _⟩ := flat_one_way r [] [] T k1 h (by simpa using k2)
  subst e
  exact ⟨hp, hr⟩
/-- the value of the row of a good tree -/
theorem value_of_flat {k : Nat} {st : List Int} {T : Tr} (h : T.Ok k st.length) (hk1 : 1 ≤ k) (hk : k ≤ 64) (h1 : 1 ≤ st.length) (h4 : st.length ≤ 4) (hs : T.size ≤ 48) (hst : ∀ s ∈ st, goodB k s = true) : saidV k T.flat st = true ∧ valueL k T.flat st = trVal k st T := by
  obtain ⟨p1, p2⟩ := root_of_flat h (decide_eq_true (by omega)) (by omega) (by omega) hs
  have hs1 : saidV k T.flat st = true := by
    unfold saidV
    rw [decide_eq_true p1, Bool.true_and]
    exact List.all_eq_true.2 hst
  refine ⟨hs1, ?_⟩
  have := valueL_tree hs1 p2
  simpa using this
theorem saidV_open {wide : Int} {t : List Nd} {st : List Int} (h : saidV wide t st = true) : 0 < kindL wide st.length t ∧ ∀ s ∈ st, goodB wide s = true := by
  unfold saidV at h
  rw [Bool.and_eq_true] at h
  exact ⟨of_decide_eq_true h.1, List.all_eq_true.1 h.2⟩
/-- what is said of a folded term: it comes to the same with the same variables and of the same kind, and is folded already -/
theorem folded_said {k : Nat} {t : List Nd} {st : List Int} (hok : ∀ x ∈ t, NdOk x) (h : saidV k t st = true) :
    0 < kindL k st.length t ∧ saidV k (foldL k st.length t) st = true ∧ valueL k (foldL k st.length t) st = valueL k t st ∧ kindL k st.length (foldL k st.length t) = kindL k st.length t ∧ foldL k st.length (foldL k st.length t) = foldL k st.length t ∧ varsInL k st.length (foldL k st.length t) = varsInL k st.length t := by
  obtain ⟨hp, hst⟩ := saidV_open h
  obtain ⟨g1, g2, g3, g4, g5, r, hr, k1, k2, k3⟩ := root_tree hp
  obtain ⟨k', e, hk1, hk64⟩ := wideB_true g1
  obtain rfl : k = k' := by omega
  have hpos : Pos r := by
    intro x hx
    rw [k2] at hx
    exact (hok x hx).2.2.1
  obtain ⟨f1, f2⟩ := trFold_ok hk1 hk64 r k1 hpos
  have hsz : r.size ≤ 48 := by
    have := r.flat_len
    rw [k2] at this
    omega
  have fsz : (trFold k r).size ≤ 48 := Nat.le_trans (trFold_size k r) hsz
  have hf : foldL k st.length t = (trFold k r).flat := by
    have := foldL_tree hp hr
    simpa using this
  obtain ⟨q1, q2⟩ := root_of_flat f1 g1 g2 g3 fsz
  obtain ⟨v1, v2⟩ := value_of_flat f1 hk1 hk64 (by omega) (by omega) fsz hst
  have hvt : valueL k t st = trVal k st r := by
    have := valueL_tree h hr
    simpa using this
  have hv4 : ∀ x ∈ r.flat, x.1 = 2 → 0 ≤ x.2 ∧ x.2 < 4 := by
    intro x hx h2
    have h3 := ok_vars k1 x hx h2
    have h4 := hpos x hx
    omega
  have hv4' : ∀ x ∈ (trFold k r).flat, x.1 = 2 → 0 ≤ x.2 ∧ x.2 < 4 := by
    intro x hx h2
    have h3 := ok_vars f1 x hx h2
    have h4 := f2 x hx
    omega
  refine ⟨hp, ?_, ?_, ?_, ?_, ?_⟩
  · rw [hf]
    exact v1
  · rw [hf, v2, hvt]
    exact trFold_val k st r
  · rw [hf, Tr.kindL_eq f1 g1 g2 g3 fsz, trFold_kind k r k1]
    exact k3
  · rw [hf]
    have := foldL_tree q1 q2
    rw [this]
    simp only [Int.toNat_natCast]
    rw [trFold_again]
  · rw [hf]
    unfold varsInL
    rw [if_pos q1, if_pos hp, varsL_sorted _ _ rfl hv4', varsL_sorted t.length t rfl (by rw [← k2]; exact hv4)]
    congr 1
    funext i
    apply decide_eq_decide.2
    rw [← k2]
    exact trFold_mem k i r k1
end Go.Proofs.YtkfplichekebdaaGreatDoor

namespace Go.Proofs.YtkfplichekebdaaGreatDoor
open Go
open M
set_option linter.unusedVariables false

theorem Tr.kind_of_ok {wide vars : Int} {t : Tr} (h : t.Ok wide vars) : t.kind ≠ 0 := by
  cases t with
  | leaf x => exact h.1
  | one x a => exact h.1
  | two x a b => exact h.1
structure RdAns where
  nodes : List Nd
  code : Nat
  place : Nat
  fine : Bool
/-- what is answered out of what is read -/
def ansOf : Except (Nat × Nat) (Tr × List M.Tok) → RdAns
  | .error e => ⟨[], e.1, e.2, false⟩
  | .ok (t, []) => if t.size ≤ 48 then ⟨t.flat, 0, 0, true⟩ else ⟨[], 7, 0, false⟩
  | .ok (_, x :: _) => ⟨[], 3, x.1, false⟩
/-- what ReadTerm answers -/
def readTermL (wide vars : Int) (s : Tx) : RdAns :=
  if ¬ (wideB wide = true ∧ 1 ≤ vars ∧ vars ≤ 4 ∧ s.length ≤ 800) then ⟨[], 1, 0, false⟩
  else match tokens s with
    | .error p => ⟨[], 2, p, false⟩
    | .ok l => ansOf (readT wide vars s.length (l.length + 1) l)
theorem readTermL_bad {wide vars : Int} {s : Tx} (h : ¬ (wideB wide = true ∧ 1 ≤ vars ∧ vars ≤ 4 ∧ s.length ≤ 800)) : readTermL wide vars s = ⟨[], 1, 0, false⟩ := by
  unfold readTermL
  rw [if_pos h]
theorem readTermL_byte {wide vars : Int} {s : Tx} {p : Nat} (h : wideB wide = true ∧ 1 ≤ vars ∧ vars ≤ 4 ∧ s.length ≤ 800) (ht : tokens s = .error p) : readTermL wide vars s = ⟨[], 2, p, false⟩ := by
  unfold readTermL
  rw [if_neg (fun g => g h), ht]
theorem readTermL_toks {wide vars : Int} {s : Tx} {l : List M.Tok} (h : wideB wide = true ∧ 1 ≤ vars ∧ vars ≤ 4 ∧ s.length ≤ 800) (ht : tokens s = .ok l) : readTermL wide vars s = ansOf (readT wide vars s.length (l.length + 1) l) := by
  unfold readTermL
  rw [if_neg (fun g => g h), ht]
theorem tokens_many {s : Tx} {l : List M.Tok} (h : tokens s = .ok l) : l.length ≤ s.length ∧ ∀ x ∈ l, 1 ≤ x.2.length ∧ x.2.length ≤ s.length ∧ x.1 ≤ s.length := by
  obtain ⟨h1, _, h3⟩ := toksL_order _ _ _ _ h
  constructor
  · refine Nat.le_trans ?_ h3
    have key : ∀ m : List M.Tok, (∀ x ∈ m, 1 ≤ x.2.length) → m.length ≤ (joinT m).length := by
      intro m
      induction m with
      | nil => intro _; simp
      | cons a m ih =>
        intro hm
        have h1 := hm a (by simp)
        have h2 := ih (fun x hx => hm x (by simp [hx]))
        simp only [joinT, List.length_cons, List.length_append]
        omega
    exact key l (fun x hx => (h1 x hx).2.2)
  · intro x hx
    have := h1 x hx
    omega
/-- the answer's nodes are few -/
theorem readTermL_len (wide vars : Int) (s : Tx) : (readTermL wide vars s).nodes.length ≤ 48 := by
  unfold readTermL
  split
  · simp
  · split
    · simp
    · unfold ansOf
      split
      · simp
      · split
        · rename_i t h
          simp only [Tr.flat_len]
          exact h
        · simp
      · simp
/-- the answer's nodes are nodes of words -/
theorem wd_flat : ∀ (t : Tr) (wide vars : Int), t.Ok wide vars → Wd t → ∀ x ∈ t.flat, NdOk x
  | .leaf x, wide, vars, h, hw => by
    intro y hy
    simp only [Tr.flat, List.mem_singleton] at hy
    subst hy
    have h1 := h.1
    have : 1 ≤ y.1 ∧ y.1 ≤ 20 := by
      unfold ownOf at h1
      split at h1
      · omega
      · split at h1
        · omega
        · exact absurd rfl h1
    exact ⟨by omega, by omega, hw.1, by have := hw.2; omega⟩
  | .one x a, wide, vars, h, hw => by
    obtain ⟨h1, h2, h3, h4, h5⟩ := h
    intro y hy
    simp only [Tr.flat, List.mem_append, List.mem_singleton] at hy
    rcases hy with hy | rfl
    · exact wd_flat a wide vars h5 hw y hy
    · have := op_one h3
      have h0 : y.2 = 0 := okN_none h2 (by omega) (by omega) (by omega)
      exact ⟨by omega, by omega, by omega, by omega⟩
  | .two x a b, wide, vars, h, hw => by
    obtain ⟨h1, h2, h3, h4, h4', h5, h6⟩ := h
    intro y hy
    simp only [Tr.flat, List.mem_append, List.mem_singleton] at hy
    rcases hy with (hy | hy) | rfl
    · exact wd_flat a wide vars h5 hw.1 y hy
    · exact wd_flat b wide vars h6 hw.2 y hy
    · have := op_two_range h3
      have h0 : y.2 = 0 := okN_none h2 (by omega) (by omega) (by omega)
      exact ⟨by omega, by omega, by omega, by omega⟩
theorem readTermL_ok (wide vars : Int) (s : Tx) : ∀ x ∈ (readTermL wide vars s).nodes, NdOk x := by
  by_cases hg : wideB wide = true ∧ 1 ≤ vars ∧ vars ≤ 4 ∧ s.length ≤ 800
  · cases ht : tokens s with
    | error p =>
      rw [readTermL_byte hg ht]
      intro x hx
      cases hx
    | ok l =>
      rw [readTermL_toks hg ht]
      cases hr : readT wide vars s.length (l.length + 1) l with
      | error e =>
        intro x hx
        cases hx
      | ok tr =>
        obtain ⟨t, r⟩ := tr
        obtain ⟨_, h2, h3⟩ := readT_ok hg.2.2.1 _ _ _ _ hr
        match r with
        | [] =>
          simp only [ansOf]
          split
          · exact wd_flat t wide vars h2 h3
          · intro x hx
            cases hx
        | x :: r =>
          intro x hx
          cases hx
  · rw [readTermL_bad hg]
    intro x hx
    cases hx
/-- a term is read back from its text -/
theorem readTerm_back {wide vars : Int} {t : List Nd} (ht : ∀ x ∈ t, NdOk x) (h : textB wide vars t = true) : readTermL wide vars (textL wide vars t) = ⟨t, 0, 0, true⟩ := by
  by_cases hk : 0 < kindL wide vars t
  · obtain ⟨h1, h2, h3, _, h5, r, hr, hok, hfl, _⟩ := root_tree hk
    by_cases h8 : (trText r).length ≤ 800
    · obtain ⟨_, e2⟩ := textB_yes hk hr h8
      have hwd : Wd r := by
        have key : ∀ r : Tr, (∀ x ∈ r.flat, NdOk x) → Wd r := by
          intro r
          induction r with
          | leaf x => intro h; have := h x (by simp [Tr.flat]); exact ⟨this.2.2.1, by have := this.2.2.2; omega⟩
          | one x a ih => intro h; exact ih (fun y hy => h y (by simp [Tr.flat, hy]))
          | two x a c iha ihc => intro h; exact ⟨iha (fun y hy => h y (by simp [Tr.flat, hy])), ihc (fun y hy => h y (by simp [Tr.flat, hy]))⟩
        exact key r (by rw [hfl]; exact ht)
      have hT := tokens_text h3 r hok hwd
      rw [e2, readTermL_toks ⟨h1, h2, h3, h8⟩ hT]
      have hb := readT_back (long := (trText r).length) h3 r ((trToks 0 r).length + 1) 0 [] hok hwd (by have := trToks_len r 0; omega)
      rw [List.append_nil] at hb
      rw [hb]
      simp only [ansOf]
      rw [if_pos (by rw [← Tr.flat_len, hfl]; exact h5), hfl]
    · rw [(textB_long hk hr h8).1] at h
      cases h
  · rw [(textB_no hk).1] at h
    cases h
/-- a text that is read is, but for its blanks, the text of what is read -/
theorem readTerm_printed {wide vars : Int} {s : Tx} (h : (readTermL wide vars s).fine = true) : ∃ l, tokens s = .ok l ∧ textB wide vars (readTermL wide vars s).nodes = true ∧ textL wide vars (readTermL wide vars s).nodes = joinT l := by
  by_cases hg : wideB wide = true ∧ 1 ≤ vars ∧ vars ≤ 4 ∧ s.length ≤ 800
  · cases ht : tokens s with
    | error p =>
      rw [readTermL_byte hg ht] at h
      cases h
    | ok l =>
      rw [readTermL_toks hg ht] at h ⊢
      cases hr : readT wide vars s.length (l.length + 1) l with
      | error e =>
        rw [hr] at h
        cases h
      | ok tr =>
        rw [hr] at h
        obtain ⟨t, r⟩ := tr
        obtain ⟨j1, h2, h3⟩ := readT_ok hg.2.2.1 _ _ _ _ hr
        match r, h, j1 with
        | [], h, j1 =>
          simp only [ansOf] at h ⊢
          split at h
          · rename_i hs
            rw [if_pos hs]
            obtain ⟨k1, k2⟩ := root_of_flat h2 hg.1 hg.2.1 hg.2.2.1 hs
            have hj : trText t = joinT l := by simpa [joinT] using j1
            have hlen := (toksL_order _ _ _ _ ht).2.2
            have := textB_yes k1 k2 (by rw [hj]; have := hg.2.2.2; omega)
            exact ⟨l, rfl, this.1, by rw [this.2, hj]⟩
          · cases h
        | x :: r, h, _ => cases h
  · rw [readTermL_bad hg] at h
    cases h
/-- a fault has a code and a place in the text -/
theorem readTerm_fault {wide vars : Int} {s : Tx} (h : (readTermL wide vars s).fine = false) : 0 < (readTermL wide vars s).code ∧ (readTermL wide vars s).place ≤ s.length := by
  by_cases hg : wideB wide = true ∧ 1 ≤ vars ∧ vars ≤ 4 ∧ s.length ≤ 800
  · cases ht : tokens s with
    | error p =>
      rw [readTermL_byte hg ht]
      have := toksL_fault _ _ _ _ ht
      exact ⟨by show 0 < 2; omega, by show p ≤ _; omega⟩
    | ok l =>
      rw [readTermL_toks hg ht] at h ⊢
      have hm := (tokens_many ht).2
      cases hr : readT wide vars s.length (l.length + 1) l with
      | error e =>
        have := readT_fault _ _ _ (fun x hx => (hm x hx).2.2) hr
        exact ⟨by show 0 < e.1; omega, this.2⟩
      | ok tr =>
        rw [hr] at h
        obtain ⟨t, r⟩ := tr
        match r, h, hr with
        | [], h, hr =>
          simp only [ansOf] at h ⊢
          split at h
          · cases h
          · rename_i hs
            rw [if_neg hs]
            exact ⟨by decide, Nat.zero_le _⟩
        | x :: r, h, hr =>
          obtain ⟨m, e, _⟩ := readT_front wide vars _ _ _ _ _ hr
          exact ⟨by show 0 < 3; omega, (hm x (by rw [e]; simp)).2.2⟩
  · rw [readTermL_bad hg]
    exact ⟨by decide, Nat.zero_le _⟩
theorem readTerm_small (wide vars : Int) (s : Tx) (h8 : s.length ≤ 1000) : (readTermL wide vars s).code ≤ 7 ∧ (readTermL wide vars s).place ≤ 1000 := by
  by_cases hg : wideB wide = true ∧ 1 ≤ vars ∧ vars ≤ 4 ∧ s.length ≤ 800
  · cases ht : tokens s with
    | error p =>
      rw [readTermL_byte hg ht]
      have := toksL_fault _ _ _ _ ht
      exact ⟨by show 2 ≤ 7; omega, by show p ≤ _; omega⟩
    | ok l =>
      rw [readTermL_toks hg ht]
      have hm := (tokens_many ht).2
      cases hr : readT wide vars s.length (l.length + 1) l with
      | error e =>
        have := readT_fault _ _ _ (fun x hx => (hm x hx).2.2) hr
        exact ⟨by show e.1 ≤ 7; omega, by show e.2 ≤ _; omega⟩
      | ok tr =>
        obtain ⟨t, r⟩ := tr
        match r, hr with
        | [], hr =>
          simp only [ansOf]
          split <;> exact ⟨by simp, Nat.zero_le _⟩
        | x :: r, hr =>
          obtain ⟨m, e, _⟩ := readT_front wide vars _ _ _ _ _ hr
          exact ⟨by show 3 ≤ 7; omega, by have := (hm x (by rw [e]; simp)).2.2; show x.1 ≤ _; omega⟩
  · rw [readTermL_bad hg]
    exact ⟨by decide, Nat.zero_le _⟩
end Go.Proofs.YtkfplichekebdaaGreatDoor

namespace Go.Proofs.YtkfplichekebdaaGreatDoor
open Go Go.RowKit
open M
set_option linter.unusedVariables false

theorem results_four {fn : Func} {t u v x : Tmp} (h : fn.results = #[.tmp t, .tmp u, .tmp v, .tmp x]) (tmps : Array Value) (P : Program) (w : World) :
    (results fn tmps).run P w = .ok (.tuple #[tmps.getD t undef, tmps.getD u undef, tmps.getD v undef, tmps.getD x undef]) w := by
  simp [results, h]
theorem rdTerm_any {wide vars : Int} (hv : vars ≤ 4) (long : Nat) : ∀ f, TermP wide vars long f
  | 0 => fun w b Bo vt vo l o h hol hok hf => by omega
  | f + 1 => fun w b Bo vt vo l o h hol hok hf => by
    match l, h, hol, hok, hf with
    | [], h, hol, hok, hf => exact term_nil h
    | (p, []) :: l, h, hol, hok, hf =>
      have := (hok (p, []) (by simp)).1
      simp at this
    | (p, ch :: q) :: l, h, hol, hok, hf =>
      have hs := (hok (p, ch :: q) (by simp)).2
      have hok2 : ∀ x ∈ l, 1 ≤ x.2.length ∧ x.2.length ≤ 800 := fun x hx => hok x (by simp [hx])
      have hol2 : o.length + (l.length + 1) ≤ 900 := by simpa using hol
      have hf2 : l.length < f := by simpa using hf
      cases hlf : isLeaf (ch :: q) with
      | true => exact term_leaf h hol2 hs hlf
      | false =>
        by_cases h2 : ch :: q = [126] ∨ ch :: q = [33]
        · exact term_turn hv (rdTerm_any hv long f) h h2 hol2 hok2 hf2
        · by_cases h3 : ch :: q = [40]
          · rw [h3] at h ⊢
            exact term_pair hv (rdTerm_any hv long f) h hol2 hok2 hf2
          · exact term_none h hlf h2 h3 hs
/-- the reader as it is made -/
theorem rd_new {w w1 : World} {tv : Value} {l : List M.Tok} (wide vars : Int) (long : Nat) (ho : OwnToks w1 w.heap.size tv l) (hl : l.length ≤ 1000) :
    RdAt (w1.alloc (.cells (rdCells wide vars tv long (.slice none 0 0) 0 0) 82)) w1.heap.size (w1.heap.size + 1) wide vars long tv (.slice none 0 0) l [] 0 0 := by
  have hA : Below w1.heap.size w1 (w1.alloc (.cells (rdCells wide vars tv long (.slice none 0 0) 0 0) 82)) := (Below.refl _ _).alloc (Nat.le_refl _) _
  refine ⟨heap_alloc_new _ _, ?_, World.ownsRow_nil _ _ _ _, by omega, by simp, hl, by simp⟩
  obtain ⟨_, h⟩ := (toks_of_own (by omega) ho).below hA
  rcases h with h | ⟨g, off, cap, hv, hg, hc⟩
  · exact Or.inl h
  · have hg1 : g < w1.heap.size := by
      have h1 := toks_of_own (by omega) ho
      rcases h1.2 with ⟨h2, a, cap', h3⟩ | ⟨g', off', cap', h3, h4, _⟩
      · rw [h3] at hv
        simp only [Value.slice.injEq] at hv
        by_cases hb : g < w1.heap.size
        · exact hb
        · exfalso
          rcases ho.2 with ⟨h5, _⟩ | ⟨g5, cap5, cur5, h5, _, h6, _⟩
          · rw [h5] at h3
            simp only [Value.slice.injEq] at h3
            rw [← h3.1] at hv
            cases hv.1
          · rw [h5] at h3
            simp only [Value.slice.injEq] at h3
            rw [← h3.1] at hv
            have e := hv.1
            simp only [Option.some.injEq, Addr.mk.injEq] at e
            have := (Array.getElem?_eq_some_iff.1 h6).1
            omega
      · rw [h3] at hv
        simp only [Value.slice.injEq, Option.some.injEq, Addr.mk.injEq] at hv
        omega
    exact Or.inr ⟨g, off, max cap l.length, by
      rcases ho.2 with ⟨h5, h6⟩ | ⟨g5, cap5, cur5, h5, _, _, h7, _⟩
      · rw [h5] at hv
        cases hv
      · rw [h5] at hv ⊢
        simp only [Value.slice.injEq, Option.some.injEq, Addr.mk.injEq] at hv ⊢
        refine ⟨hv.1, trivial, ?_⟩
        omega, ⟨hg1, by omega⟩, hc⟩
theorem keep_end {w w1 w3 : World} {b : Nat} {x y : Value} (hb : Below w.heap.size w w1) (hk : Keep b w1 w3 x y) (h1 : w.heap.size ≤ b) (hx : x.ownBlock = none) : Below w.heap.size w w3 :=
  hb.trans ⟨hk.os, hk.tape, hk.output, hk.size, fun k hk' => hk.block k (Nat.lt_of_lt_of_le hk' hb.size) (by omega) (by rw [hx]; simp)⟩

set_option maxRecDepth 100000 in
set_option maxHeartbeats 2000000 in
theorem sReadTerm_bad (wide vars : Int) (s : Tx) (hl : s.length ≤ 9223372036854775807) (h : ¬ (wideB wide = true ∧ 1 ≤ vars ∧ vars ≤ 4 ∧ s.length ≤ 800)) (w : World) :
    Calls Tryz.prog 21 #[.int .i64 wide, .int .i64 vars, tx s] w fun e w' => e = .returned (.tuple #[.slice none 0 0, .int .i64 1, .int .i64 0, .bool false]) ∧ w' = w := by
  have g1 := l1Wide_any wide w
  cases hw : wideB wide with
  | false =>
    rw [hw] at g1
    go_enter Tryz.func21, Tryz.ntmps21
    go_wp2_with fail
    refine g1.mono ?_
    rintro e w1 ⟨rfl, rfl⟩
    go_wp2_with fail
    refine bodyPost_ret (results_four rfl _ _ _) rfl ?_
    exact ⟨rfl, rfl⟩
  | true =>
    rw [hw] at g1
    by_cases hv : 1 ≤ vars ∧ vars ≤ 4
    · have g2 := l1In_yes vars 1 4 hv w
      have h8 : 800 < s.length := by
        by_cases h8 : s.length ≤ 800
        · exact absurd ⟨hw, hv.1, hv.2, h8⟩ h
        · omega
      have hlt : (800 : Int) < (s.length : Int) := by omega
      clear h
      go_enter Tryz.func21, Tryz.ntmps21
      go_wp2_with fail
      refine g1.mono ?_
      rintro e w1 ⟨rfl, rfl⟩
      go_wp2_with fail
      refine g2.mono ?_
      rintro e w1 ⟨rfl, rfl⟩
      go_wp2_with fail
      refine bodyPost_ret (results_four rfl _ _ _) rfl ?_
      exact ⟨rfl, rfl⟩
    · have g2 := l1In_no vars 1 4 hv w
      clear h
      go_enter Tryz.func21, Tryz.ntmps21
      go_wp2_with fail
      refine g1.mono ?_
      rintro e w1 ⟨rfl, rfl⟩
      go_wp2_with fail
      refine g2.mono ?_
      rintro e w1 ⟨rfl, rfl⟩
      go_wp2_with fail
      refine bodyPost_ret (results_four rfl _ _ _) rfl ?_
      exact ⟨rfl, rfl⟩
theorem tok_vals {s : Tx} (h : s.length ≤ 800) : (∀ p, tokens s = .error p → tokL s = [] ∧ tokP s = p ∧ tokB s = false) ∧ (∀ l, tokens s = .ok l → tokL s = l ∧ tokP s = 0 ∧ tokB s = true) := by
  constructor <;>
  · intro x e
    unfold tokL tokP tokB
    rw [if_pos h, if_pos h, if_pos h, e]
    exact ⟨rfl, rfl, rfl⟩
set_option maxRecDepth 100000 in
set_option maxHeartbeats 4000000 in
theorem sReadTerm_in (wide vars : Int) (s : Tx) (h : wideB wide = true ∧ 1 ≤ vars ∧ vars ≤ 4 ∧ s.length ≤ 800) (w : World) :
    Calls Tryz.prog 21 #[.int .i64 wide, .int .i64 vars, tx s] w fun e w' => ∃ v, e = .returned (.tuple #[v, .int .i64 ((readTermL wide vars s).code : Int), .int .i64 ((readTermL wide vars s).place : Int), .bool (readTermL wide vars s).fine]) ∧ OwnNodes w' w.heap.size v (readTermL wide vars s).nodes ∧ Below w.heap.size w w' := by
  have g1 := l1Wide_any wide w
  rw [h.1] at g1
  have g2 := l1In_yes vars 1 4 ⟨h.2.1, h.2.2.1⟩ w
  have g3 := sTokensOf_in s h.2.2.2 w
  have h8 : (s.length : Int) ≤ 800 := by have := h.2.2.2; omega
  have h8d : decide ((800 : Int) < (s.length : Int)) = false := decide_eq_false (by omega)
  obtain ⟨hve, hvo⟩ := tok_vals h.2.2.2
  cases ht : tokens s with
  | error p =>
    obtain ⟨e1, e2, e3⟩ := hve p ht
    rw [e1, e2, e3] at g3
    rw [readTermL_byte h ht]
    simp only
    clear h hve hvo ht e1 e2 e3
    go_enter Tryz.func21, Tryz.ntmps21
    go_wp2_with fail
    refine g1.mono ?_
    rintro e w1 ⟨rfl, rfl⟩
    go_wp2_with fail
    refine g2.mono ?_
    rintro e w1 ⟨rfl, rfl⟩
    go_wp2_with fail
    refine g3.mono ?_
    rintro e w2 ⟨v, rfl, _, hb⟩
    have HB : Hid (Below w1.heap.size w1 w2) := hb
    clear g1 g2 g3 hb
    go_wp2_with fail
    refine bodyPost_ret (results_four rfl _ _ _) rfl ?_
    exact ⟨_, rfl, World.ownsRow_nil _ _ _ _, HB.out⟩
  | ok l =>
    obtain ⟨e1, e2, e3⟩ := hvo l ht
    rw [e1, e2, e3] at g3
    have hA := readTermL_toks h ht
    have hm := tokens_many ht
    have HM : Hid (l.length ≤ s.length ∧ s.length ≤ 800 ∧ vars ≤ 4 ∧ ∀ x ∈ l, 1 ≤ x.2.length ∧ x.2.length ≤ s.length ∧ x.1 ≤ s.length) := ⟨hm.1, h.2.2.2, h.2.2.1, hm.2⟩
    rw [hA]
    clear h hve hvo ht e1 e2 e3 hA hm
    generalize hAA : ansOf (readT wide vars s.length (l.length + 1) l) = A at *
    have HA : Hid (ansOf (readT wide vars s.length (l.length + 1) l) = A) := hAA
    clear hAA
    have HT : Hid (∀ (w1 : World) (tv : Value), OwnToks w1 w.heap.size tv l → Calls Tryz.prog 48 #[ptr w1.heap.size] (w1.alloc (.cells (rdCells wide vars tv s.length (.slice none 0 0) 0 0) 82)) (TermQ wide vars s.length (l.length + 1) w1.heap.size (w1.heap.size + 1) (.slice none 0 0) l [] (w1.alloc (.cells (rdCells wide vars tv s.length (.slice none 0 0) 0 0) 82)))) := fun w1 tv ho =>
      rdTerm_any HM.out.2.2.1 s.length (l.length + 1) _ _ _ _ _ l [] (rd_new wide vars s.length ho (by have := HM.out.1; have := HM.out.2.1; omega)) (by have := HM.out.1; have := HM.out.2.1; simp; omega) (fun x hx => ⟨(HM.out.2.2.2 x hx).1, by have := (HM.out.2.2.2 x hx).2.1; have := HM.out.2.1; omega⟩) (by omega)
    have HC : Hid (∀ e, readT wide vars s.length (l.length + 1) l = .error e → 3 ≤ e.1 ∧ e.1 ≤ 6) := fun e he => (readT_fault _ _ _ (fun x hx => (HM.out.2.2.2 x hx).2.2) he).1
    have HP : Hid (∀ (t : Tr) r1, readT wide vars s.length (l.length + 1) l = .ok (t, r1) → 1 ≤ t.kind ∧ t.kind ≤ 2) := fun t r1 hr => kind_pos_of (readT_ok HM.out.2.2.1 _ _ _ _ hr).2.1
    go_enter Tryz.func21, Tryz.ntmps21
    go_wp2_with fail
    refine g1.mono ?_
    rintro e w1 ⟨rfl, rfl⟩
    go_wp2_with fail
    refine g2.mono ?_
    rintro e w1 ⟨rfl, rfl⟩
    go_wp2_with fail
    refine g3.mono ?_
    rintro e w2 ⟨tv, rfl, hot, hb⟩
    have HB : Hid (Below w1.heap.size w1 w2) := hb
    have gt := HT.out w2 tv hot
    obtain ⟨ta, tc, hsh⟩ := own_shape hot
    clear g1 g2 g3 hb HT hot
    subst hsh
    go_wp2_with fail
    refine gt.mono ?_
    rintro e w3 (⟨t, r1, hr, rfl, hto⟩ | ⟨c', q, l', o', hr, rfl, hto⟩)
    · have hkp := HP.out t r1 hr
      have hk0 : decide ((0 : Int) < t.kind) = true := decide_eq_true (by omega)
      have hv : ansOf (.ok (t, r1)) = A := by rw [← hr]; exact HA.out
      obtain ⟨vt3, vo3, h3, hk3⟩ := hto
      have hbe := keep_end (w := w1) (HB.out.trans (((Below.refl _ _).alloc (Nat.le_refl _) _).mono HB.out.size)) hk3 HB.out.size rfl
      have HBE : Hid (Below w1.heap.size w1 w3) := hbe
      have hsz3 : w1.heap.size ≤ w2.heap.size + 1 := by have := HB.out.size; omega
      have hown : OwnNodes w3 w1.heap.size vo3 t.flat := OwnNodes.low (by simpa using h3.own) hsz3
      have HOW : Hid (OwnNodes w3 w1.heap.size vo3 t.flat) := hown
      obtain ⟨x0, x1, x2, x3, x4, x5, x6⟩ := h3.cell
      obtain ⟨va, vc, hvs⟩ := own_shape hown
      have hfl : t.flat.length = t.size := Tr.flat_len t
      rw [hfl] at hvs
      match r1, h3, hv with
      | [], h3, hv =>
        obtain ⟨tb, td, hsh⟩ := h3.toks.shape
        simp only [List.length_nil] at hsh
        have hts : t.size ≤ 1000 := by have := h3.some; simp only [List.nil_append, hfl] at this; exact this
        simp only [ansOf] at hv
        by_cases hs48 : t.size ≤ 48
        · rw [if_pos hs48] at hv
          subst hv
          have h48 : decide ((48 : Int) < (t.size : Int)) = false := decide_eq_false (by omega)
          subst hsh hvs
          clear gt hr h3 hk3 hbe hown HM HP HC hfl HA
          generalize t.kind = kk at *
          generalize t.size = ts at *
          go_wp2_with fail
          refine bodyPost_ret (results_four rfl _ _ _) rfl ?_
          exact ⟨_, rfl, HOW.out, HBE.out⟩
        · rw [if_neg hs48] at hv
          subst hv
          have h48 : (48 : Int) < (t.size : Int) := by omega
          subst hsh hvs
          clear gt hr h3 hk3 hbe hown HM HP HC hfl HA
          generalize t.kind = kk at *
          generalize t.size = ts at *
          go_wp2_with fail
          refine bodyPost_ret (results_four rfl _ _ _) rfl ?_
          exact ⟨_, rfl, World.ownsRow_nil _ _ _ _, HBE.out⟩
      | (xp, xs) :: r2, h3, hv =>
        obtain ⟨tb, td, hsh⟩ := h3.toks.shape
        have gf := fault_any h3 3
        have hr2 : r2.length + 1 ≤ 1000 := by have := h3.many; simpa using this
        have hlen : (((xp, xs) :: r2).length : Int) = (r2.length : Int) + 1 := by simp
        simp only [ansOf] at hv
        subst hv
        simp only [List.length_cons] at hsh
        have HBF : Hid (∀ w4, RdTo w3 w4 w2.heap.size (w2.heap.size + 1) vo3 wide vars s.length ((xp, xs) :: r2) ([] ++ t.flat) 3 (xp : Int) → Below w1.heap.size w1 w4 ∧ w4.cell? ⟨w2.heap.size, 5, none⟩ = some (.int .i64 3) ∧ w4.cell? ⟨w2.heap.size, 6, none⟩ = some (.int .i64 (xp : Int))) := by
          intro w4 hr4
          obtain ⟨vt4, vo4, h4, hk4⟩ := hr4
          exact ⟨keep_end (w := w1) (HB.out.trans (((Below.refl _ _).alloc (Nat.le_refl _) _).mono HB.out.size)) (hk3.trans hk4) HB.out.size rfl, h4.cell.2.2.2.2.2.1, h4.cell.2.2.2.2.2.2⟩
        subst hsh
        clear hr h3 hk3 hbe hown HM HP HC hfl HOW HBE hvs gt HA
        generalize t.kind = kk at *
        go_wp2_with fail
        refine gf.mono ?_
        rintro e w4 ⟨rfl, hr4⟩
        obtain ⟨hb4, z5, z6⟩ := HBF.out w4 hr4
        have HB4 : Hid (Below w1.heap.size w1 w4) := hb4
        clear gf hr4 hb4 HBF
        go_wp2_with fail
        go_region
        all_goals
          go_wp2_with fail
          refine bodyPost_ret (results_four rfl _ _ _) rfl ?_
          exact ⟨_, rfl, World.ownsRow_nil _ _ _ _, below_drewN HB4.out _⟩
    · have hc := HC.out _ hr
      have hv : ansOf (.error (c', q)) = A := by rw [← hr]; exact HA.out
      simp only [ansOf] at hv
      subst hv
      obtain ⟨vt3, vo3, h3, hk3⟩ := hto
      have HBE : Hid (Below w1.heap.size w1 w3) := keep_end (w := w1) (HB.out.trans (((Below.refl _ _).alloc (Nat.le_refl _) _).mono HB.out.size)) hk3 HB.out.size rfl
      obtain ⟨x0, x1, x2, x3, x4, x5, x6⟩ := h3.cell
      have hc0 : (0 : Int) < (c' : Int) := by simp only at hc; omega
      clear gt hr h3 hk3 HM HP HC HA
      go_wp2_with fail
      go_region
      all_goals
        go_wp2_with fail
        refine bodyPost_ret (results_four rfl _ _ _) rfl ?_
        exact ⟨_, rfl, World.ownsRow_nil _ _ _ _, below_drewN HBE.out _⟩
/-- what the model's ReadTerm answers -/
theorem sReadTerm_any (wide vars : Int) (s : Tx) (hl : s.length ≤ 9223372036854775807) (w : World) :
    Calls Tryz.prog 21 #[.int .i64 wide, .int .i64 vars, tx s] w fun e w' => ∃ v, e = .returned (.tuple #[v, .int .i64 ((readTermL wide vars s).code : Int), .int .i64 ((readTermL wide vars s).place : Int), .bool (readTermL wide vars s).fine]) ∧ OwnNodes w' w.heap.size v (readTermL wide vars s).nodes ∧ Below w.heap.size w w' := by
  by_cases h : wideB wide = true ∧ 1 ≤ vars ∧ vars ≤ 4 ∧ s.length ≤ 800
  · exact sReadTerm_in wide vars s h w
  · rw [readTermL_bad h]
    refine (sReadTerm_bad wide vars s hl h w).mono ?_
    rintro e w' ⟨rfl, rfl⟩
    exact ⟨_, rfl, World.ownsRow_nil _ _ _ _, Below.refl _ _⟩
end Go.Proofs.YtkfplichekebdaaGreatDoor

namespace Go.Proofs.YtkfplichekebdaaGreatDoor
open Go Go.RowKit
open M
set_option linter.unusedVariables false

theorem pTerm_any {wide vars : Int} (hv : vars ≤ 4) (hv0 : 0 ≤ vars) (long : Nat) : ∀ f, PTermP wide vars long f
  | 0 => fun w b vt l h hok hf => by omega
  | f + 1 => fun w b vt l h hok hf => by
    match l, h, hok, hf with
    | [], h, hok, hf =>
      exact pterm_other (vt := vt) hv hv0 long [] (take_nil h) (by simp) (by simp) (by simp) (by simp) (fun g => by cases g) (fun _ => rfl)
    | (p, s) :: l, h, hok, hf =>
      have hs := hok (p, s) (by simp)
      have hok2 : ∀ x ∈ l, 1 ≤ x.2.length ∧ x.2.length ≤ 800 := fun x hx => hok x (by simp [hx])
      have hf2 : l.length < f := by simpa using hf
      by_cases h1 : s = [40]
      · subst h1
        exact pterm_pair hv (pTerm_any hv hv0 long f) h hok2 hf2
      · by_cases h2 : s = [126] ∨ s = [33]
        · exact pterm_turn hv (pTerm_any hv hv0 long f) h h2 hok2 hf2
        · refine pterm_other (vt := vt) hv hv0 p s (take_cons h) hs.2 h1 (fun e => h2 (Or.inl e)) (fun e => h2 (Or.inr e)) (fun g => ?_) (fun g => ?_)
          · simp only [readT]
            rw [if_pos g]
            rfl
          · simp only [readT]
            rw [if_neg (by rw [g]; decide), if_neg h2, if_pos h1]
/-- how whole ends -/
def WholeQ (wide vars : Int) (long f b : Nat) (l : List M.Tok) (w : World) (e : Ending) (w' : World) : Prop :=
  (∃ t k, readT wide vars long f l = .ok (t, []) ∧ e = .returned (ptr k) ∧ TrAt w' (ButB b w') t k ∧ PrTo w w' b wide vars long [] 0 0) ∨
  (∃ c p l', ansOf (readT wide vars long f l) = ⟨[], c, p, false⟩ ∧ e = .returned (.pointer none) ∧ PrTo w w' b wide vars long l' (c : Int) (p : Int))
set_option maxRecDepth 100000 in
set_option maxHeartbeats 2000000 in
theorem whole_any {wide vars : Int} (hv : vars ≤ 4) (hv0 : 0 ≤ vars) {long f : Nat} {w : World} {b : Nat} {vt : Value} {l : List M.Tok} (h : PrAt w b wide vars long vt l 0 0) (hok : ∀ x ∈ l, 1 ≤ x.2.length ∧ x.2.length ≤ 800) (hf : l.length < f) :
    Calls Tryz.prog 35 #[ptr b] w (WholeQ wide vars long f b l w) := by
  have gt := pTerm_any hv hv0 long f w b vt l h hok hf
  clear h hok hf
  go_enter Tryz.func35, Tryz.ntmps35
  go_wp2_with fail
  refine gt.mono ?_
  rintro e w2 (⟨t, r, k, hr, rfl, htr, hto⟩ | ⟨c, q, l', hr, rfl, hto⟩)
  · clear gt
    obtain ⟨⟨vt2, h2⟩, hk2⟩ := hto
    obtain ⟨c0, c1, c2, c3, c4, c5⟩ := h2.cell
    match r, hr, h2 with
    | [], hr, h2 =>
      obtain ⟨ta, tc, hsh⟩ := h2.toks.shape
      have HQ : Hid (WholeQ wide vars long f b l w (.returned (ptr k)) w2) := Or.inl ⟨t, k, hr, rfl, htr, ⟨vt2, h2⟩, hk2⟩
      simp only [List.length_nil] at hsh
      subst hsh
      clear hr h2 htr hk2
      go_wp2_with fail
      go_ret
      exact HQ.out
    | (xp, xs) :: r2, hr, h2 =>
      have gf := fail_any h2 3 (xp : Int)
      obtain ⟨g, off, cap, a, c, rfl, hg, t0, t1, hcut, hr2, hl1⟩ := h2.pop
      have HQ : Hid (∀ w3, PrTo w2 w3 b wide vars long ((xp, xs) :: r2) 3 (xp : Int) → WholeQ wide vars long f b l w (.returned (.pointer none)) w3) := fun w3 hto3 => Or.inr ⟨3, xp, _, by rw [hr]; rfl, rfl, hto3.trans hk2⟩
      clear hr h2 htr hk2 hr2 hcut
      generalize r2.length = ln at *
      go_wp2_with fail
      refine gf.mono ?_
      rintro e w3 ⟨rfl, hto3⟩
      have H3 : Hid (WholeQ wide vars long f b l w (.returned (.pointer none)) w3) := HQ.out w3 hto3
      clear gf HQ hto3
      go_wp2_with fail
      go_ret
      exact H3.out
  · have HQ : Hid (WholeQ wide vars long f b l w (.returned (.pointer none)) w2) := Or.inr ⟨c, q, l', by rw [hr]; rfl, rfl, hto⟩
    obtain ⟨⟨vt2, h2⟩, hk2⟩ := hto
    obtain ⟨c0, c1, c2, c3, c4, c5⟩ := h2.cell
    clear gt hr h2 hk2
    go_wp2_with fail
    go_ret
    exact HQ.out
/-- tokens that are owned lie below what comes next -/
theorem toksIn_of_own {w w1 : World} {tv : Value} {l : List M.Tok} (ho : OwnToks w1 w.heap.size tv l) (hl : l.length ≤ 1000) : ToksIn w1 w1.heap.size tv l :=
  (rd_new 0 0 0 ho hl).toks.same (fun k hk => by rw [Below.heap_alloc _ _ _ hk])
theorem pr_new {w w1 : World} {tv : Value} {l : List M.Tok} (wide vars : Int) (long : Nat) (ho : OwnToks w1 w.heap.size tv l) (hl : l.length ≤ 1000) (h5 : All5 w1) :
    PrAt (w1.alloc (.cells (prCells wide vars tv long 0 0) 58)) w1.heap.size wide vars long tv l 0 0 := by
  have hA : Below w1.heap.size w1 (w1.alloc (.cells (prCells wide vars tv long 0 0) 58)) := (Below.refl _ _).alloc (Nat.le_refl _) _
  exact ⟨heap_alloc_new _ _, (toksIn_of_own ho hl).same (fun k hk => hA.block k hk), hl, h5.below hA, h5.low⟩
set_option maxRecDepth 100000 in
set_option maxHeartbeats 2000000 in
theorem iReadTerm_bad (wide vars : Int) (s : Tx) (hl : s.length ≤ 9223372036854775807) (h : ¬ (wideB wide = true ∧ 1 ≤ vars ∧ vars ≤ 4 ∧ s.length ≤ 800)) (w : World) :
    Calls Tryz.prog 11 #[.int .i64 wide, .int .i64 vars, tx s] w fun e w' => e = .returned (.tuple #[.slice none 0 0, .int .i64 1, .int .i64 0, .bool false]) ∧ Below w.heap.size w w' := by
  have g1 := goodWide_any wide w
  cases hw : wideB wide with
  | false =>
    rw [hw] at g1
    go_enter Tryz.func11, Tryz.ntmps11
    go_wp2_with fail
    refine g1.mono ?_
    rintro e w1 ⟨rfl, rfl⟩
    go_wp2_with fail
    refine bodyPost_ret (results_four rfl _ _ _) rfl ?_
    exact ⟨rfl, Below.refl _ _⟩
  | true =>
    rw [hw] at g1
    by_cases hv : 1 ≤ vars ∧ vars ≤ 4
    · have g2 := goodVars_yes vars hv w
      have h8 : 800 < s.length := by
        by_cases h8 : s.length ≤ 800
        · exact absurd ⟨hw, hv.1, hv.2, h8⟩ h
        · omega
      have hlt : (800 : Int) < (s.length : Int) := by omega
      clear h
      go_enter Tryz.func11, Tryz.ntmps11
      go_wp2_with fail
      refine g1.mono ?_
      rintro e w1 ⟨rfl, rfl⟩
      go_wp2_with fail
      refine g2.mono ?_
      rintro e w1 ⟨rfl, rfl⟩
      go_wp2_with fail
      refine bodyPost_ret (results_four rfl _ _ _) rfl ?_
      exact ⟨rfl, Below.refl _ _⟩
    · have g2 := goodVars_no vars hv w
      clear h
      go_enter Tryz.func11, Tryz.ntmps11
      go_wp2_with fail
      refine g1.mono ?_
      rintro e w1 ⟨rfl, rfl⟩
      go_wp2_with fail
      refine g2.mono ?_
      rintro e w1 ⟨rfl, rfl⟩
      go_wp2_with fail
      refine bodyPost_ret (results_four rfl _ _ _) rfl ?_
      exact ⟨rfl, Below.refl _ _⟩
set_option maxRecDepth 100000 in
set_option maxHeartbeats 4000000 in
theorem iReadTerm_in (wide vars : Int) (s : Tx) (h : wideB wide = true ∧ 1 ≤ vars ∧ vars ≤ 4 ∧ s.length ≤ 800) (w : World) (h5 : All5 w) :
    Calls Tryz.prog 11 #[.int .i64 wide, .int .i64 vars, tx s] w fun e w' => ∃ v, e = .returned (.tuple #[v, .int .i64 ((readTermL wide vars s).code : Int), .int .i64 ((readTermL wide vars s).place : Int), .bool (readTermL wide vars s).fine]) ∧ OwnNodes w' w.heap.size v (readTermL wide vars s).nodes ∧ Below w.heap.size w w' := by
  have g1 := goodWide_any wide w
  rw [h.1] at g1
  have g2 := goodVars_yes vars ⟨h.2.1, h.2.2.1⟩ w
  have g3 := iTokensOf_in s h.2.2.2 w h5.signs
  have h8 : (s.length : Int) ≤ 800 := by have := h.2.2.2; omega
  have h8d : decide ((800 : Int) < (s.length : Int)) = false := decide_eq_false (by omega)
  obtain ⟨hve, hvo⟩ := tok_vals h.2.2.2
  cases ht : tokens s with
  | error p =>
    obtain ⟨e1, e2, e3⟩ := hve p ht
    rw [e1, e2, e3] at g3
    rw [readTermL_byte h ht]
    simp only
    clear h hve hvo ht e1 e2 e3 h5
    go_enter Tryz.func11, Tryz.ntmps11
    go_wp2_with fail
    refine g1.mono ?_
    rintro e w1 ⟨rfl, rfl⟩
    go_wp2_with fail
    refine g2.mono ?_
    rintro e w1 ⟨rfl, rfl⟩
    go_wp2_with fail
    refine g3.mono ?_
    rintro e w2 ⟨v, rfl, _, hb⟩
    have HB : Hid (Below w1.heap.size w1 w2) := hb
    clear g1 g2 g3 hb
    go_wp2_with fail
    refine bodyPost_ret (results_four rfl _ _ _) rfl ?_
    exact ⟨_, rfl, World.ownsRow_nil _ _ _ _, HB.out⟩
  | ok l =>
    obtain ⟨e1, e2, e3⟩ := hvo l ht
    rw [e1, e2, e3] at g3
    have hA := readTermL_toks h ht
    have hm := tokens_many ht
    have HM : Hid (l.length ≤ s.length ∧ s.length ≤ 800 ∧ vars ≤ 4 ∧ 0 ≤ vars ∧ ∀ x ∈ l, 1 ≤ x.2.length ∧ x.2.length ≤ s.length ∧ x.1 ≤ s.length) := ⟨hm.1, h.2.2.2, h.2.2.1, by have := h.2.1; omega, hm.2⟩
    rw [hA]
    clear h hve hvo ht e1 e2 e3 hA hm
    generalize hAA : ansOf (readT wide vars s.length (l.length + 1) l) = A at *
    have HA : Hid (ansOf (readT wide vars s.length (l.length + 1) l) = A) := hAA
    clear hAA
    have HT : Hid (∀ (w1 : World) (tv : Value), Below w.heap.size w w1 → OwnToks w1 w.heap.size tv l → Calls Tryz.prog 35 #[ptr w1.heap.size] (w1.alloc (.cells (prCells wide vars tv s.length 0 0) 58)) (WholeQ wide vars s.length (l.length + 1) w1.heap.size l (w1.alloc (.cells (prCells wide vars tv s.length 0 0) 58)))) := fun w1 tv hb ho =>
      whole_any HM.out.2.2.1 HM.out.2.2.2.1 (pr_new wide vars s.length ho (by have := HM.out.1; have := HM.out.2.1; omega) (h5.below hb)) (fun x hx => ⟨(HM.out.2.2.2.2 x hx).1, by have := (HM.out.2.2.2.2 x hx).2.1; have := HM.out.2.1; omega⟩) (by omega)
    clear h5
    go_enter Tryz.func11, Tryz.ntmps11
    go_wp2_with fail
    refine g1.mono ?_
    rintro e w1 ⟨rfl, rfl⟩
    go_wp2_with fail
    refine g2.mono ?_
    rintro e w1 ⟨rfl, rfl⟩
    go_wp2_with fail
    refine g3.mono ?_
    rintro e w2 ⟨tv, rfl, hot, hb⟩
    have HB : Hid (Below w1.heap.size w1 w2) := hb
    have gt := HT.out w2 tv hb hot
    obtain ⟨ta, tc, hsh⟩ := own_shape hot
    clear g1 g2 g3 hb HT hot
    subst hsh
    go_wp2_with fail
    refine gt.mono ?_
    rintro e w3 (⟨t, k, hr, rfl, htr, hto⟩ | ⟨c', q, l', hr, rfl, hto⟩)
    · have hv : ansOf (.ok (t, [])) = A := by rw [← hr]; exact HA.out
      obtain ⟨⟨vt3, h3⟩, hk3⟩ := hto
      have HBE : Hid (Below w1.heap.size w1 w3) := keep_end (w := w1) (HB.out.trans (((Below.refl _ _).alloc (Nat.le_refl _) _).mono HB.out.size)) hk3 HB.out.size rfl
      have htr2 : TrAt w3 (Old w3) t k := TrAt.frame (fun k hk => hk.1) (fun _ _ => rfl) htr
      simp only [ansOf] at hv
      by_cases hs48 : t.size ≤ 48
      · rw [if_pos hs48] at hv
        subst hv
        have gn := nodesOf_yes t k w3 htr2 hs48
        clear gt hr h3 hk3 htr htr2 HM HA
        go_wp2_with fail
        refine gn.mono ?_
        rintro e w4 ⟨v', rfl, ho4, hb4⟩
        have HO4 : Hid (OwnNodes w4 w1.heap.size v' t.flat) := OwnNodes.low ho4 HBE.out.size
        have HB4 : Hid (Below w1.heap.size w1 w4) := HBE.out.trans (hb4.mono HBE.out.size)
        obtain ⟨va, vc, hvs⟩ := own_shape ho4
        clear gn ho4 hb4
        subst hvs
        go_wp2_with fail
        refine bodyPost_ret (results_four rfl _ _ _) rfl ?_
        exact ⟨_, rfl, HO4.out, HB4.out⟩
      · rw [if_neg hs48] at hv
        subst hv
        have gn := nodesOf_long t k w3 _ htr2 (by omega)
        clear gt hr h3 hk3 htr htr2 HM HA
        go_wp2_with fail
        refine gn.mono ?_
        rintro e w4 ⟨rfl, rfl⟩
        clear gn
        go_wp2_with fail
        refine bodyPost_ret (results_four rfl _ _ _) rfl ?_
        exact ⟨_, rfl, World.ownsRow_nil _ _ _ _, HBE.out⟩
    · have hv : (⟨[], c', q, false⟩ : RdAns) = A := by rw [← hr]; exact HA.out
      subst hv
      obtain ⟨⟨vt3, h3⟩, hk3⟩ := hto
      have HBE : Hid (Below w1.heap.size w1 w3) := keep_end (w := w1) (HB.out.trans (((Below.refl _ _).alloc (Nat.le_refl _) _).mono HB.out.size)) hk3 HB.out.size rfl
      obtain ⟨x0, x1, x2, x3, x4, x5⟩ := h3.cell
      clear gt hr h3 hk3 HM HA
      go_wp2_with fail
      first
        | (refine bodyPost_ret (results_four rfl _ _ _) rfl ?_
           exact ⟨_, rfl, World.ownsRow_nil _ _ _ _, HBE.out⟩)
        | (go_region
           all_goals
             go_wp2_with fail
             refine bodyPost_ret (results_four rfl _ _ _) rfl ?_
             exact ⟨_, rfl, World.ownsRow_nil _ _ _ _, below_drewN HBE.out _⟩)
/-- what the program's ReadTerm answers -/
theorem iReadTerm_any (wide vars : Int) (s : Tx) (hl : s.length ≤ 9223372036854775807) (w : World) (h5 : All5 w) :
    Calls Tryz.prog 11 #[.int .i64 wide, .int .i64 vars, tx s] w fun e w' => ∃ v, e = .returned (.tuple #[v, .int .i64 ((readTermL wide vars s).code : Int), .int .i64 ((readTermL wide vars s).place : Int), .bool (readTermL wide vars s).fine]) ∧ OwnNodes w' w.heap.size v (readTermL wide vars s).nodes ∧ Below w.heap.size w w' := by
  by_cases h : wideB wide = true ∧ 1 ≤ vars ∧ vars ≤ 4 ∧ s.length ≤ 800
  · exact iReadTerm_in wide vars s h w h5
  · rw [readTermL_bad h]
    refine (iReadTerm_bad wide vars s hl h w).mono ?_
    rintro e w' ⟨rfl, hb⟩
    exact ⟨_, rfl, World.ownsRow_nil _ _ _ _, hb⟩
end Go.Proofs.YtkfplichekebdaaGreatDoor

namespace Go.Proofs.YtkfplichekebdaaGreatDoor
open Go Go.RowKit
open M
set_option linter.unusedVariables false

theorem slice_of_codeX {B : Nat} {w : World} {sv : Value} (h : CodeOk B w sv) : ∃ sa sl sc, sv = .slice sa sl sc := by
  rcases h with ⟨a, cap, rfl⟩ | ⟨cb, off, len, cap, rfl, _⟩
  · exact ⟨_, _, _, rfl⟩
  · exact ⟨_, _, _, rfl⟩
theorem CodeOk.upX {B B' : Nat} {w : World} {sv : Value} (h : CodeOk B w sv) (hB : B ≤ B') : CodeOk B' w sv := by
  rcases h with h | ⟨cb, off, len, cap, h1, h2, h3, h4⟩
  · exact Or.inl h
  · exact Or.inr ⟨cb, off, len, cap, h1, by omega, h3, h4⟩
set_option maxRecDepth 100000 in
theorem drawTermText_any (sv : Value) (w : World) (h : CodeOk w.heap.size w sv) :
    Calls Tryz.prog 6 #[sv] w fun e w' => ∃ (k : Nat) (vars : Int) (v : Value) (t : List Nd), e = .returned (.tuple #[.int .i64 (k : Int), .int .i64 vars, v]) ∧ (1 ≤ k ∧ k ≤ 64) ∧ (0 ≤ vars ∧ vars ≤ 5) ∧ NodesD w w' v t ∧ Below w.heap.size w w' := by
  have g := drawTerm_any sv w h
  obtain ⟨sa, sl, sc, rfl⟩ := slice_of_codeX h
  clear h
  go_enter Tryz.func6, Tryz.ntmps6
  go_wp2_with fail
  refine g.mono ?_
  rintro e w1 ⟨k, vars, v, t, rfl, hd⟩
  have HD : Hid _ := hd
  clear g hd
  go_wp2_with fail
  go_ret3
  exact ⟨k, vars, v, t, rfl, HD.out⟩
set_option maxRecDepth 100000 in
theorem drawNumText_any (sv : Value) (w : World) (h : CodeOk w.heap.size w sv) :
    Calls Tryz.prog 13 #[sv] w fun e w' => ∃ n : Nat, n < 18446744073709551616 ∧ e = .returned (.int .u64 (n : Int)) ∧ Below w.heap.size w w' := by
  have hc := cur_new w sv h
  have g := word_any _ _ _ sv 64 (by omega) _ hc (by omega)
  have HB0 : Hid (Below w.heap.size w (w.alloc (.cells #[sv, .int .i64 0, .int .u64 0] 66))) := (Below.refl _ _).alloc (Nat.le_refl _) _
  obtain ⟨sa, sl, sc, rfl⟩ := slice_of_codeX h
  clear h hc
  go_enter Tryz.func13, Tryz.ntmps13
  go_wp2_with fail
  refine g.mono ?_
  rintro e w1 ⟨x, ⟨hx0, hx1⟩, rfl, ho, hc1⟩
  have HB1 : Hid (Below w.heap.size w w1) := HB0.out.trans (ho.below (Nat.le_refl _) HB0.out.size)
  clear g ho hc1
  go_wp2_with fail
  go_ret
  exact ⟨x.toNat, by omega, by rw [Int.toNat_of_nonneg hx0]; rfl, HB1.out⟩
set_option maxRecDepth 100000 in
theorem drawNameOf_any (sv : Value) (w : World) (h : CodeOk w.heap.size w sv) :
    Calls Tryz.prog 16 #[sv] w fun e w' => ∃ n : Int, (-1 ≤ n ∧ n ≤ 5) ∧ e = .returned (.int .i64 n) ∧ Below w.heap.size w w' := by
  have hc := cur_new w sv h
  have g := pick_any _ _ _ sv 7 (by omega) (by omega) _ hc (by omega)
  have HB0 : Hid (Below w.heap.size w (w.alloc (.cells #[sv, .int .i64 0, .int .u64 0] 66))) := (Below.refl _ _).alloc (Nat.le_refl _) _
  obtain ⟨sa, sl, sc, rfl⟩ := slice_of_codeX h
  clear h hc
  go_enter Tryz.func16, Tryz.ntmps16
  go_wp2_with fail
  refine g.mono ?_
  rintro e w1 ⟨x, ⟨hx0, hx1⟩, rfl, ho, hc1⟩
  have HB1 : Hid (Below w.heap.size w w1) := HB0.out.trans (ho.below (Nat.le_refl _) HB0.out.size)
  clear g ho hc1
  go_wp2_with fail
  go_ret
  exact ⟨x - 1, by omega, rfl, HB1.out⟩
end Go.Proofs.YtkfplichekebdaaGreatDoor

namespace Go.Proofs.YtkfplichekebdaaGreatDoor
open Go Go.RowKit
open M
set_option linter.unusedVariables false

theorem own_ops {op : Int} (h : ¬ ownOf op = 0) : 1 ≤ op ∧ op ≤ 20 := by
  unfold ownOf at h
  split at h
  · omega
  · split at h
    · omega
    · exact absurd rfl h
set_option maxRecDepth 100000 in
set_option maxHeartbeats 1000000 in
theorem leafText_any (op n : Int) (h0 : 0 ≤ n) (h1 : n < 18446744073709551616) (hop : op = 1 ∨ op = 2 ∧ n < 4 ∨ op = 20 ∧ n ≤ 1) (w : World) (hP : Pow w) :
    Calls Tryz.prog 57 #[.agg #[.int .i64 op, .int .u64 n]] w fun e w' => e = .returned (tx (leafL (op, n))) ∧ Below w.heap.size w w' := by
  obtain ⟨m, rfl⟩ := Int.eq_ofNat_of_zero_le h0
  have HB : Hid (Below w.heap.size w (w.alloc (.cells #[.int .i64 op, .int .u64 (m : Int)] 63))) := (Below.refl _ _).alloc (Nat.le_refl _) _
  rcases hop with rfl | ⟨rfl, hv⟩ | ⟨rfl, hv⟩
  · have e1 : leafL (1, (m : Int)) = numL m := rfl
    have g := iNumText_any m (by omega) (w.alloc (.cells #[.int .i64 1, .int .u64 (m : Int)] 63)) (hP.below HB.out)
    rw [e1]
    generalize numL m = l at *
    generalize (m : Int) = n at *
    clear hP
    go_enter Tryz.func57, Tryz.ntmps57
    go_wp2_with fail
    refine g.mono ?_
    rintro e w2 ⟨rfl, hb2⟩
    have HB2 : Hid (Below w.heap.size w w2) := HB.out.trans (hb2.mono HB.out.size)
    clear g hb2
    go_wp2_with fail
    go_ret
    exact ⟨rfl, HB2.out⟩
  · have e1 : leafL (2, (m : Int)) = nameT (m : Int) := by
      unfold nameT
      rw [if_pos ⟨by omega, by omega⟩]
      rfl
    have g := iNameOf_any (m : Int) (w.alloc (.cells #[.int .i64 2, .int .u64 (m : Int)] 63))
    rw [e1]
    generalize nameT (m : Int) = l at *
    generalize decide (0 ≤ (m : Int) ∧ (m : Int) ≤ 3) = z at *
    clear hP
    go_enter Tryz.func57, Tryz.ntmps57
    go_wp2_with fail
    refine g.mono ?_
    rintro e w2 ⟨rfl, rfl⟩
    clear g
    go_wp2_with fail
    go_ret
    exact ⟨rfl, HB.out⟩
  · clear hP
    rcases (show m = 0 ∨ m = 1 by omega) with rfl | rfl
    · have e1 : leafL (20, ((0 : Nat) : Int)) = noL := rfl
      rw [e1]
      go_enter Tryz.func57, Tryz.ntmps57
      go_wp2_with fail
      go_ret
      exact ⟨rfl, HB.out⟩
    · have e1 : leafL (20, ((1 : Nat) : Int)) = yesL := rfl
      rw [e1]
      go_enter Tryz.func57, Tryz.ntmps57
      go_wp2_with fail
      go_ret
      exact ⟨rfl, HB.out⟩
/-- what text does with a tree -/
def TextP (wide vars : Int) (r : Tr) : Prop := ∀ (b : Nat) (w : World), Signs w → Pow w → TrAt w (Old w) r b → r.Ok wide vars → Wd r → r.size ≤ 48 →
  Calls Tryz.prog 28 #[ptr b] w fun e w' => e = .returned (tx (trText r)) ∧ Below w.heap.size w w'
set_option maxRecDepth 100000 in
set_option maxHeartbeats 4000000 in
theorem text_leaf (wide vars : Int) (hv : vars ≤ 4) (x : Nd) : TextP wide vars (.leaf x) := by
  intro b w hS hP htr hok hwd hsz
  obtain ⟨op, n⟩ := x
  obtain ⟨hb, n0, n1', _, _, pvl, n4, hpv⟩ := htr
  obtain ⟨pa, pc, rfl⟩ := hpv.shape
  obtain ⟨k1, k2, k3⟩ := hok
  have hops := own_ops k1
  simp only at hops k1 k2 k3 n0 n1'
  obtain ⟨k, rfl⟩ := Int.eq_ofNat_of_zero_le (show 0 ≤ op by omega)
  have cs := hS.cell k (by omega)
  have g := leafText_any (k : Int) n hwd.1 hwd.2 (leaf_ops hv k1 k2 k3) w hP
  have e1 : trText (.leaf ((k : Int), n)) = leafL ((k : Int), n) := rfl
  rw [e1]
  generalize leafL ((k : Int), n) = l at *
  clear hS hP hpv hb k1 k2 k3
  generalize signN k = sg at *
  go_enter Tryz.func28, Tryz.ntmps28
  go_wp2_with fail
  refine g.mono ?_
  rintro e w2 ⟨rfl, hb2⟩
  have HB2 : Hid _ := hb2
  clear g hb2 e1
  go_wp2_with fail
  go_ret
  exact ⟨rfl, HB2.out⟩
set_option maxRecDepth 100000 in
set_option maxHeartbeats 4000000 in
theorem text_one (wide vars : Int) (x : Nd) (a : Tr) (ih : TextP wide vars a) : TextP wide vars (.one x a) := by
  intro b w hS hP htr hok hwd hsz
  obtain ⟨op, n⟩ := x
  obtain ⟨p, ⟨hb, n0, n1', _, _, pvl, n4, hpv⟩, hta⟩ := htr
  obtain ⟨pa, pc, rfl⟩ := hpv.shape
  obtain ⟨k1, k2, k3, k4, k5⟩ := hok
  have hops := own_ops k1
  simp only at hops k1 k2 k3 n0 n1'
  obtain ⟨k, rfl⟩ := Int.eq_ofNat_of_zero_le (show 0 ≤ op by omega)
  have cs := hS.cell k (by omega)
  obtain ⟨g0, off, rfl, hg, c0⟩ := PtrsAt.at hpv (show [p][0]? = some p from rfl)
  rw [Nat.add_zero] at c0
  have hs2 : a.size ≤ 48 := by simp only [Tr.size] at hsz; omega
  have g := ih p w hS hP hta k5 hwd hs2
  have hbd := trText_len a hwd
  have e1 : trText (.one ((k : Int), n) a) = signN k ++ trText a := rfl
  have ha := fun w : World => add_tx (signN k) (trText a) (by have := signN_len k; omega) w
  rw [e1]
  simp only [List.length_singleton] at n4
  generalize trText a = l at *
  clear hS hP hpv hb k1 k2 k3 k4 k5 ih hta hbd e1
  generalize hS2 : signN k ++ l = S2 at *
  generalize signN k = sg at *
  clear hS2
  go_enter Tryz.func28, Tryz.ntmps28
  go_wp2_with fail
  refine g.mono ?_
  rintro e w2 ⟨rfl, hb2⟩
  have HB2 : Hid _ := hb2
  clear g hb2
  go_wp2_with fail
  go_ret
  exact ⟨rfl, HB2.out⟩
set_option maxRecDepth 100000 in
set_option maxHeartbeats 4000000 in
theorem text_two (wide vars : Int) (x : Nd) (a c : Tr) (iha : TextP wide vars a) (ihc : TextP wide vars c) : TextP wide vars (.two x a c) := by
  intro b w hS hP htr hok hwd hsz
  obtain ⟨op, n⟩ := x
  obtain ⟨p, q, ⟨hb, n0, n1', _, _, pvl, n4, hpv⟩, hta, htc⟩ := htr
  obtain ⟨pa, pc, rfl⟩ := hpv.shape
  obtain ⟨x1, x2, x3, x4, x4', x5, x6⟩ := hok
  have hops := own_ops x1
  simp only at hops x1 x2 x3 n0 n1'
  obtain ⟨k, rfl⟩ := Int.eq_ofNat_of_zero_le (show 0 ≤ op by omega)
  have cs := hS.cell k (by omega)
  obtain ⟨g0, off, rfl, hg, c0⟩ := PtrsAt.at hpv (show [p, q][0]? = some p from rfl)
  obtain ⟨g1, off1, he1, hg1, c1⟩ := PtrsAt.at hpv (show [p, q][1]? = some q from rfl)
  simp only [Option.some.injEq, Addr.mk.injEq, and_true] at he1
  obtain ⟨rfl, rfl⟩ := he1
  rw [Nat.add_zero] at c0
  have hs2 : a.size ≤ 48 ∧ c.size ≤ 48 := by simp only [Tr.size] at hsz; omega
  have GA : Hid (∀ w1, Below w.heap.size w w1 → Calls Tryz.prog 28 #[ptr p] w1 fun e w' => e = .returned (tx (trText a)) ∧ Below w1.heap.size w1 w') := fun w1 hb1 => iha p w1 (hS.below hb1) (hP.below hb1) (hta.below hb1) x5 hwd.1 hs2.1
  have GC : Hid (∀ w1, Below w.heap.size w w1 → Calls Tryz.prog 28 #[ptr q] w1 fun e w' => e = .returned (tx (trText c)) ∧ Below w1.heap.size w1 w') := fun w1 hb1 => ihc q w1 (hS.below hb1) (hP.below hb1) (htc.below hb1) x6 hwd.2 hs2.2
  have hba := trText_len a hwd.1
  have hbc := trText_len c hwd.2
  have hsl := signN_len k
  have e1 : trText (.two ((k : Int), n) a c) = [40] ++ trText a ++ signN k ++ trText c ++ [41] := rfl
  have ha1 := fun w : World => add_tx [40] (trText a) (by simp; omega) w
  have ha2 := fun w : World => add_tx ([40] ++ trText a) (signN k) (by simp; omega) w
  have ha3 := fun w : World => add_tx ([40] ++ trText a ++ signN k) (trText c) (by simp; omega) w
  have ha4 := fun w : World => add_tx ([40] ++ trText a ++ signN k ++ trText c) [41] (by simp; omega) w
  have cA : ∀ d os, Calls Tryz.prog 28 #[ptr p] (Sort.grow (redrawn w d) os) fun e w'' => e = .returned (tx (trText a)) ∧ ∃ p : Regrown, w'' = Sort.grow (redrawn w p.d) p.os := fun d os => Calls.regrown_of (GA.out _ (below_regrown w d os))
  have cC : ∀ d os, Calls Tryz.prog 28 #[ptr q] (Sort.grow (redrawn w d) os) fun e w'' => e = .returned (tx (trText c)) ∧ ∃ p : Regrown, w'' = Sort.grow (redrawn w p.d) p.os := fun d os => Calls.regrown_of (GC.out _ (below_regrown w d os))
  rw [e1]
  have k0 := cell_regrown c0
  have k1 := cell_regrown c1
  have k4 := cell_regrown (show w.cell? ⟨b, 4, none⟩ = some (.slice (some ⟨g0, off, none⟩) 2 pc) from n4)
  replace n4 : w.cell? ⟨b, 4, none⟩ = some (.slice (some ⟨g0, off, none⟩) 2 pc) := n4
  clear GA GC
  generalize h4 : [40] ++ trText a ++ signN k ++ trText c ++ [41] = S4 at *
  generalize h3 : [40] ++ trText a ++ signN k ++ trText c = S3 at *
  generalize h2 : [40] ++ trText a ++ signN k = S2 at *
  generalize h1 : [40] ++ trText a = S1 at *
  generalize signN k = sg at *
  generalize trText a = la at *
  generalize trText c = lc at *
  clear hS hP hpv hb x1 x2 x3 x4 x4' x5 x6 iha ihc hta htc hba hbc e1 h1 h2 h3 h4
  go_enter Tryz.func28, Tryz.ntmps28
  go_wp2_with fail
  refine wp_region_quiet_below (by kernel_rfl) (by kernel_rfl) ?_
  iterate 7 (quiet_step (exact cA _ _))
  repeat (quiet_step (exact cC _ _))
  refine wpQuiet_nil ?_
  intro _ hw'
  obtain ⟨⟨dq, osq⟩, hw''⟩ := hw'
  subst hw''
  go_wp2_with fail
  go_ret
  exact ⟨rfl, below_regrown w dq osq⟩
/-- the three tables lie as they were laid -/
structure All3 (w : World) : Prop where
  masks : Tab w
  signs : Signs w
  pow : Pow w
theorem All3.below {w w' : World} (h : All3 w) (hb : Below w.heap.size w w') : All3 w' := ⟨h.masks.below hb h.masks.some, h.signs.below hb, h.pow.below hb⟩
theorem text_any (wide vars : Int) (hv : vars ≤ 4) : ∀ r : Tr, TextP wide vars r
  | .leaf x => text_leaf wide vars hv x
  | .one x a => text_one wide vars x a (text_any wide vars hv a)
  | .two x a c => text_two wide vars x a c (text_any wide vars hv a) (text_any wide vars hv c)
theorem flat_wd : ∀ r : Tr, (∀ x ∈ r.flat, NdOk x) → Wd r
  | .leaf x, h => by
    have := h x (by simp [Tr.flat])
    exact ⟨this.2.2.1, by have := this.2.2.2; omega⟩
  | .one x a, h => flat_wd a (fun y hy => h y (by simp [Tr.flat, hy]))
  | .two x a c, h => ⟨flat_wd a (fun y hy => h y (by simp [Tr.flat, hy])), flat_wd c (fun y hy => h y (by simp [Tr.flat, hy]))⟩
set_option maxRecDepth 100000 in
theorem impl_TermText (wide vars : Int) (v : Value) (t : List Nd) (w : World) (hA : All3 w) (h : NodesAt w v t) :
    Calls Tryz.prog 7 #[.int .i64 wide, .int .i64 vars, v] w fun e w' => e = .returned (.tuple #[tx (textL wide vars t), .bool (textB wide vars t)]) ∧ Below w.heap.size w w' := by
  by_cases hk : 0 < kindL wide vars t
  · obtain ⟨_, _, hv4, _, h5, r, hr, hok, hfl, _⟩ := root_tree hk
    have g := rootOf_yes wide vars v t w hA.masks h r hk hr
    have hsz : r.size ≤ 48 := by
      rw [← Tr.flat_len, hfl]
      exact h5
    have hwd : Wd r := flat_wd r (by rw [hfl]; exact h.1)
    have hbd := trText_len r hwd
    have HG : Hid (∀ (b : Nat) (w1 : World), Below w.heap.size w w1 → TrAt w1 (Old w1) r b → Calls Tryz.prog 28 #[ptr b] w1 fun e w' => e = .returned (tx (trText r)) ∧ Below w1.heap.size w1 w') := fun b w1 hb htr => text_any wide vars hv4 r b w1 (hA.signs.below hb) (hA.pow.below hb) htr hok hwd hsz
    by_cases h8 : (trText r).length ≤ 800
    · obtain ⟨e1, e2⟩ := textB_yes hk hr h8
      rw [e1, e2]
      clear hr hk hA h hfl hok hwd e1 e2
      generalize trText r = D at *
      go_enter Tryz.func7, Tryz.ntmps7
      go_wp2_with fail
      refine g.mono ?_
      rintro e w' ⟨p, rfl, htr, hb⟩
      have g2 := HG.out p w' hb htr
      have HB : Hid _ := hb
      clear g hb htr HG
      go_wp2_with fail
      refine g2.mono ?_
      rintro e w2 ⟨rfl, hb2⟩
      have HB2 : Hid (Below w.heap.size w w2) := HB.out.trans (hb2.mono HB.out.size)
      clear g2 hb2
      go_wp2_with fail
      go_ret2
      exact ⟨rfl, HB2.out⟩
    · obtain ⟨e1, e2⟩ := textB_long hk hr h8
      rw [e1, e2]
      clear hr hk hA h hfl hok hwd e1 e2
      generalize trText r = D at *
      go_enter Tryz.func7, Tryz.ntmps7
      go_wp2_with fail
      refine g.mono ?_
      rintro e w' ⟨p, rfl, htr, hb⟩
      have g2 := HG.out p w' hb htr
      have HB : Hid _ := hb
      clear g hb htr HG
      go_wp2_with fail
      refine g2.mono ?_
      rintro e w2 ⟨rfl, hb2⟩
      have HB2 : Hid (Below w.heap.size w w2) := HB.out.trans (hb2.mono HB.out.size)
      clear g2 hb2
      go_wp2_with fail
      go_ret2
      exact ⟨rfl, HB2.out⟩
  · obtain ⟨e1, e2⟩ := textB_no hk
    have g := rootOf_no wide vars v t w hA.masks h hk
    rw [e1, e2]
    clear hk hA h e1 e2
    go_enter Tryz.func7, Tryz.ntmps7
    go_wp2_with fail
    refine g.mono ?_
    rintro e w' ⟨rfl, hb⟩
    have HB : Hid _ := hb
    clear g hb
    go_wp2_with fail
    go_ret2
    exact ⟨rfl, HB.out⟩
end Go.Proofs.YtkfplichekebdaaGreatDoor

namespace Go.Proofs.YtkfplichekebdaaGreatDoor
open Go Go.RowKit
open M
set_option linter.unusedVariables false

/-- the greatest depth of trees side by side -/
def depL : List Tr → Nat
  | [] => 0
  | q :: l => max (trDepth q) (depL l)
theorem depL_snoc : ∀ (l : List Tr) (q : Tr), depL (l ++ [q]) = max (depL l) (trDepth q)
  | [], q => by simp [depL]
  | a :: l, q => by
    rw [List.cons_append]
    simp only [depL]
    rw [depL_snoc l q, Nat.max_assoc]
theorem trDepth_parts (r : Tr) : trDepth r = 1 + depL r.parts := by
  cases r <;> simp only [trDepth, Tr.parts, depL] <;> omega
theorem depL_le {l : List Tr} {n : Nat} (h : ∀ q ∈ l, trDepth q ≤ n) : depL l ≤ n := by
  induction l with
  | nil => simp [depL]
  | cons a l ih =>
    have h1 := h a (by simp)
    have h2 := ih (fun q hq => h q (by simp [hq]))
    simp only [depL]
    omega
/-- what depth does with a tree -/
def DepP (r : Tr) : Prop := ∀ (b : Nat) (w : World), TrAt w (Old w) r b → r.size ≤ 1048576 →
  Calls Tryz.prog 31 #[ptr b] w fun e w' => e = .returned (.int .i64 (trDepth r : Int)) ∧ Below w.heap.size w w'
set_option maxRecDepth 100000 in
set_option maxHeartbeats 4000000 in
theorem depth_step (r : Tr) (ih : ∀ q ∈ r.parts, DepP q) : DepP r := by
  intro b w htr hsz
  have HD : Hid (trDepth r = 1 + depL r.parts ∧ trDepth r ≤ 1048576) := ⟨trDepth_parts r, Nat.le_trans (trDepth_le r) hsz⟩
  obtain ⟨ps, ⟨hb, _, _, _, _, pvl, n4, hpv⟩, hpt⟩ := trAt_open htr
  obtain ⟨pa, pc, hpsh⟩ := hpv.shape
  have hpl2 : ps.length ≤ 2 := by
    have h2 : r.parts.length ≤ 2 := by cases r <;> simp [Tr.parts]
    have := hpt.1
    omega
  have HSZ : Hid (∀ q ∈ r.parts, q.size ≤ 1048576 ∧ trDepth q ≤ 1048576) := by
    intro q hq
    have h1 : q.size ≤ r.size := by
      rw [Tr.size_eq r]
      have : ∀ l : List Tr, q ∈ l → q.size ≤ sizes l := by
        intro l
        induction l with
        | nil => intro h; cases h
        | cons a l ih =>
          intro h
          simp only [sizes]
          rcases List.mem_cons.1 h with rfl | h
          · omega
          · have := ih h
            omega
      have := this _ hq
      omega
    have h2 := trDepth_le q
    exact ⟨by omega, by omega⟩
  have HIH : Hid (∀ (j q' : Nat) (q : Tr) (w1 : World), r.parts[j]? = some q → ps[j]? = some q' → Below w.heap.size w w1 → Calls Tryz.prog 31 #[ptr q'] w1 fun e w' => e = .returned (.int .i64 (trDepth q : Int)) ∧ Below w1.heap.size w1 w') := by
    intro j q' q w1 hq hq' hb1
    have hmem := List.mem_of_getElem? hq
    exact ih q hmem q' w1 ((hpt.2 j q q' hq hq').below hb1) (HSZ.out q hmem).1
  have HPV : Hid _ := hpv
  have HL : Hid (r.parts.length = ps.length) := hpt.1
  clear ih hpt hpv htr hsz hb
  subst hpsh
  go_enter Tryz.func31, Tryz.ntmps31
  go_wp2_with fail
  go_loopw [3, 11] (fun v i wr => ∃ j : Nat, j ≤ ps.length ∧ i = .int .i64 j ∧ v = .int .i64 (depL (r.parts.take j) : Int) ∧ Hid (Below w.heap.size w wr)) (fun _ i _ => ps.length - (intOf i).toNat)
  case atStart => exact ⟨0, by omega, rfl, rfl, Below.refl _ _⟩
  case round =>
    obtain ⟨j, hj, rfl, rfl, HB⟩ := hrel
    by_cases hlt' : j < ps.length
    · obtain ⟨p, hp⟩ : ∃ p, ps[j]? = some p := ⟨ps[j], List.getElem?_eq_getElem hlt'⟩
      obtain ⟨q, hq⟩ : ∃ q, r.parts[j]? = some q := ⟨r.parts[j]'(by have := HL.out; omega), List.getElem?_eq_getElem _⟩
      obtain ⟨g, off, rfl, hg, c0⟩ := PtrsAt.at HPV.out hp
      rw [← HB.out.cell (p := ⟨g, off + j, none⟩) hg] at c0
      have gI := HIH.out j p q wr hq hp HB.out
      have HE : Hid (depL (r.parts.take (j + 1)) = max (depL (r.parts.take j)) (trDepth q)) := by
        show depL (r.parts.take (j + 1)) = _
        rw [List.take_add_one, hq, ← depL_snoc]
        rfl
      clear hp hq hg
      generalize trDepth q = dq at *
      generalize depL (r.parts.take j) = dj at *
      go_wp2_with fail
      refine gI.mono ?_
      rintro e w2 ⟨rfl, hb2⟩
      have HB2 : Hid (Below w.heap.size w w2) := HB.out.trans (hb2.mono HB.out.size)
      clear gI hb2
      go_wp2_with fail
      go_roundw
      case rel => exact ⟨j + 1, by omega, by go_num, by rw [HE.out]; congr 1; first | omega | (split <;> omega), HB2⟩
      case measure => simp [intOf]; omega
    · obtain rfl : j = ps.length := by omega
      have HE : Hid (trDepth r = 1 + depL (r.parts.take ps.length) ∧ depL (r.parts.take ps.length) ≤ 1048576) := by
        have h1 := HD.out
        have h2 : r.parts.take ps.length = r.parts := List.take_of_length_le (by rw [HL.out]; exact Nat.le_refl _)
        rw [h2]
        exact ⟨h1.1, by omega⟩
      have hm := HE.out.2
      generalize depL (r.parts.take ps.length) = D at *
      clear HD
      go_wp2_with fail
      go_ret
      exact ⟨by rw [HE.out.1]; rfl, HB.out⟩
theorem depth_any : ∀ r : Tr, DepP r := Tr.ind depth_step
/-- what the program's DepthOf is to do -/
theorem impl_DepthOf (wide vars : Int) (v : Value) (t : List Nd) (w : World) (hT : Tab w) (h : NodesAt w v t) :
    Calls Tryz.prog 9 #[.int .i64 wide, .int .i64 vars, v] w fun e w' => e = .returned (.tuple #[.int .i64 (depthL wide vars t), .bool (decide (0 < kindL wide vars t))]) ∧ Below w.heap.size w w' := by
  by_cases hk : 0 < kindL wide vars t
  · obtain ⟨_, _, _, _, h5, r, hr, _, hfl, _⟩ := root_tree hk
    have g := rootOf_yes wide vars v t w hT h r hk hr
    have hsz : r.size ≤ 1048576 := by
      rw [← Tr.flat_len, hfl]
      omega
    rw [decide_eq_true hk, depthL_yes hk hr]
    have HG : Hid (∀ (b : Nat) (w1 : World), TrAt w1 (Old w1) r b → Calls Tryz.prog 31 #[ptr b] w1 fun e w' => e = .returned (.int .i64 (trDepth r : Int)) ∧ Below w1.heap.size w1 w') := fun b w1 htr => depth_any r b w1 htr hsz
    clear hr hk hT h hfl
    go_enter Tryz.func9, Tryz.ntmps9
    go_wp2_with fail
    refine g.mono ?_
    rintro e w' ⟨p, rfl, htr, hb⟩
    have g2 := HG.out p w' htr
    have HB : Hid _ := hb
    clear g hb htr HG
    go_wp2_with fail
    refine g2.mono ?_
    rintro e w2 ⟨rfl, hb2⟩
    have HB2 : Hid (Below w.heap.size w w2) := HB.out.trans (hb2.mono HB.out.size)
    clear g2 hb2
    go_wp2_with fail
    go_ret2
    exact ⟨rfl, HB2.out⟩
  · have g := rootOf_no wide vars v t w hT h hk
    rw [decide_eq_false hk, depthL_no hk]
    clear hk hT h
    go_enter Tryz.func9, Tryz.ntmps9
    go_wp2_with fail
    refine g.mono ?_
    rintro e w' ⟨rfl, hb⟩
    have HB : Hid _ := hb
    clear g hb
    go_wp2_with fail
    go_ret2
    exact ⟨rfl, HB.out⟩
end Go.Proofs.YtkfplichekebdaaGreatDoor

namespace Go.Proofs.YtkfplichekebdaaGreatDoor
open Go Go.RowKit
open M
set_option linter.unusedVariables false

set_option maxRecDepth 100000 in
theorem readBack_big (a0 a1 : Option Addr) (l0 c0 l1 c1 : Nat) (h0 : l0 ≤ 9223372036854775807) (h1 : l1 ≤ 9223372036854775807) (h : 1048576 < l0 + l1) (w : World) :
    Calls Tryz.prog 3 #[.slice a0 l0 c0, .slice a1 l1 c1] w fun e w' => e = .returned (.bool true) ∧ Below w.heap.size w w' := by
  have g0 := big_yes a0 a1 l0 c0 l1 c1 h0 h1 h w
  go_enter Tryz.func3, Tryz.ntmps3
  go_wp2_with fail
  refine g0.mono ?_
  rintro e w' ⟨rfl, rfl⟩
  clear g0
  go_wp2_with fail
  go_ret
  exact ⟨rfl, Below.refl _ _⟩
theorem depthL_le {wide vars : Int} {t : List Nd} : 0 ≤ depthL wide vars t ∧ depthL wide vars t ≤ t.length := by
  unfold depthL
  by_cases hk : 0 < kindL wide vars t
  · rw [if_pos hk]
    obtain ⟨_, _, _, _, _, r, hr, _, hfl, _⟩ := root_tree hk
    rw [hr]
    have := trDepth_le r
    have h2 := Tr.flat_len r
    rw [hfl] at h2
    simp only
    omega
  · rw [if_neg hk]
    omega
theorem text_fine {wide vars : Int} {t : List Nd} (h : textB wide vars t = true) : 0 < kindL wide vars t := by
  by_cases hk : 0 < kindL wide vars t
  · exact hk
  · rw [(textB_no hk).1] at h
    cases h
theorem textL_len (wide vars : Int) (t : List Nd) : (textL wide vars t).length ≤ 800 := by
  by_cases hk : 0 < kindL wide vars t
  · obtain ⟨_, _, _, _, _, r, hr, _⟩ := root_tree hk
    by_cases h8 : (trText r).length ≤ 800
    · rw [(textB_yes hk hr h8).2]
      exact h8
    · rw [(textB_long hk hr h8).2]
      simp
  · rw [(textB_no hk).2]
    simp
theorem All5.three {w : World} (h : All5 w) : All3 w := ⟨h.masks, h.signs, h.pow⟩
set_option maxRecDepth 100000 in
set_option maxHeartbeats 16000000 in
theorem readBack_walk (a0 a1 : Option Addr) (l0 c0 l1 c1 : Nat) (h0 : l0 ≤ 9223372036854775807) (h1 : l1 ≤ 9223372036854775807) (w : World) (hT : All5 w)
    (hc0 : CodeOk w.heap.size w (.slice a0 l0 c0)) (hc1 : CodeOk w.heap.size w (.slice a1 l1 c1)) :
    Calls Tryz.prog 3 #[.slice a0 l0 c0, .slice a1 l1 c1] w fun e w' => e = .returned (.bool true) ∧ Below w.heap.size w w' := by
  by_cases h : 1048576 < l0 + l1
  · exact readBack_big a0 a1 l0 c0 l1 c1 h0 h1 h w
  have g0 := big_no a0 a1 l0 c0 l1 c1 h0 h1 (by omega) w
  have g1 := drawTermText_any (.slice a0 l0 c0) w hc0
  have HT : Hid (∀ w', Below w.heap.size w w' → All5 w') := fun w' hb => hT.below hb
  have HC1 : Hid (∀ w', Below w.heap.size w w' → CodeOk w'.heap.size w' (.slice a1 l1 c1)) := fun w' hb => (hc1.below hb).upX hb.size
  clear hT hc0 hc1 h
  go_enter Tryz.func3, Tryz.ntmps3
  go_wp2_with fail
  refine g0.mono ?_
  rintro e w' ⟨rfl, rfl⟩
  clear g0
  obtain ⟨w, rfl⟩ : ∃ w, w = w' := ⟨_, rfl⟩
  go_wp2_with fail
  refine g1.mono ?_
  rintro e w1 ⟨k, vars, v, t, rfl, ⟨hk1, hk⟩, ⟨hv0, hv5⟩, hnd, hb1⟩
  clear g1
  have H1 : Hid (Below w.heap.size w w1) := hb1
  have HND : Hid (∀ w', Below w1.heap.size w1 w' → NodesAt w' v t) := fun w' hb => (hnd.below hb).at
  have HTL : Hid (t.length ≤ 31) := hnd.2.2
  have hNK : ∀ x ∈ t, NdOk x := hnd.2.1
  obtain ⟨va, vc, hvs⟩ := own_shape hnd.1
  have HBACK : Hid (textB k vars t = true → readTermL k vars (textL k vars t) = ⟨t, 0, 0, true⟩) := fun h => readTerm_back hNK h
  have HKT : Hid (textB k vars t = true → decide (0 < kindL k vars t) = true) := fun h => decide_eq_true (text_fine h)
  have hdl := depthL_le (wide := k) (vars := vars) (t := t)
  have hXL := textL_len k vars t
  have G2 := impl_TermText k vars v t w1 (HT.out w1 hb1).three (HND.out w1 (Below.refl _ _))
  have G3 : Hid (∀ w', Below w1.heap.size w1 w' → Calls Tryz.prog 8 #[.int .i64 (k : Int), .int .i64 vars, v] w' fun e w'' => e = .returned (.tuple #[tx (textL k vars t), .bool (textB k vars t)]) ∧ Below w'.heap.size w' w'') := fun w' hb => termText_any k vars v t w' (HND.out w' hb)
  have G4 : Hid (∀ w', Below w1.heap.size w1 w' → Calls Tryz.prog 9 #[.int .i64 (k : Int), .int .i64 vars, v] w' fun e w'' => e = .returned (.tuple #[.int .i64 (depthL k vars t), .bool (decide (0 < kindL k vars t))]) ∧ Below w'.heap.size w' w'') := fun w' hb => impl_DepthOf k vars v t w' (HT.out w' (H1.out.trans (hb.mono H1.out.size))).masks (HND.out w' hb)
  have G5 : Hid (∀ w', Below w1.heap.size w1 w' → Calls Tryz.prog 10 #[.int .i64 (k : Int), .int .i64 vars, v] w' fun e w'' => e = .returned (.tuple #[.int .i64 (depthL k vars t), .bool (decide (0 < kindL k vars t))]) ∧ Below w'.heap.size w' w'') := fun w' hb => depthOf_any k vars v t w' (HND.out w' hb)
  have G6 : Hid (textB k vars t = true → ∀ w', Below w1.heap.size w1 w' → Calls Tryz.prog 11 #[.int .i64 (k : Int), .int .i64 vars, tx (textL k vars t)] w' fun e w'' => ∃ v', e = .returned (.tuple #[v', .int .i64 0, .int .i64 0, .bool true]) ∧ NodesAt w'' v' t ∧ Below w'.heap.size w' w'') := fun h w' hb => by
    have g := iReadTerm_any k vars (textL k vars t) (by omega) w' (HT.out w' (H1.out.trans (hb.mono H1.out.size)))
    rw [HBACK.out h] at g
    refine g.mono ?_
    rintro e w'' ⟨v', he, ho, hb'⟩
    exact ⟨v', he, nodes_of_own hNK (by have := HTL.out; omega) ho, hb'⟩
  have htl : t.length ≤ 31 := HTL.out
  clear hnd hb1 hNK HBACK HTL
  subst hvs
  generalize t.length = tn at *
  generalize textL k vars t = X at *
  generalize textB k vars t = XB at *
  generalize depthL k vars t = DL at *
  generalize decide (0 < kindL k vars t) = KB at *
  go_wp2_with fail
  refine G2.mono ?_
  rintro e w2 ⟨rfl, hb2⟩
  have g3 := G3.out w2 hb2
  have HB2 : Hid (Below w1.heap.size w1 w2) := hb2
  clear G2 G3 hb2
  go_wp2_with fail
  refine g3.mono ?_
  rintro e w3 ⟨rfl, hb3⟩
  have HB3 : Hid (Below w1.heap.size w1 w3) := HB2.out.trans (hb3.mono HB2.out.size)
  have g4 := G4.out w3 HB3.out
  clear g3 G4 hb3 HB2
  go_wp2_with fail
  refine g4.mono ?_
  rintro e w4 ⟨rfl, hb4⟩
  have HB4 : Hid (Below w1.heap.size w1 w4) := HB3.out.trans (hb4.mono HB3.out.size)
  have g5 := G5.out w4 HB4.out
  clear g4 G5 hb4 HB3
  go_wp2_with fail
  refine g5.mono ?_
  rintro e w5 ⟨rfl, hb5⟩
  have HB5 : Hid (Below w1.heap.size w1 w5) := HB4.out.trans (hb5.mono HB4.out.size)
  clear g5 hb5 HB4
  have HTAIL : Hid (∀ w', Below w1.heap.size w1 w' → Below w.heap.size w w') := fun w' hb => H1.out.trans (hb.mono H1.out.size)
  cases XB with
  | true =>
    have g6 := G6.out rfl w5 HB5.out
    obtain rfl : KB = true := HKT.out rfl
    go_wp2_with fail
    refine g6.mono ?_
    rintro e w6 ⟨v6, rfl, hn6, hb6⟩
    have HB6 : Hid (Below w1.heap.size w1 w6) := HB5.out.trans (hb6.mono HB5.out.size)
    have g7 := sameNodes_any v6 _ t w6 hn6 (HND.out w6 HB6.out)
    obtain ⟨ua, uc, hus⟩ := hn6.shape
    clear g6 hb6 hn6 G6 HB5
    have hdd : decide ((tn : Int) < DL) = false := decide_eq_false (by omega)
    subst hus
    generalize t.length = tn2 at *
    go_wp2_with fail
    refine g7.mono ?_
    rintro e w7 ⟨rfl, hb7⟩
    have HB7 : Hid (Below w1.heap.size w1 w7) := HB6.out.trans (hb7.mono HB6.out.size)
    clear g7 hb7 HB6
    have g20 := drawNumText_any (.slice a1 l1 c1) w7 (HC1.out w7 (HTAIL.out w7 HB7.out))
    go_wp2_with fail
    refine g20.mono ?_
    rintro e w20 ⟨n, hn, rfl, hb20⟩
    have HB20 : Hid (Below w1.heap.size w1 w20) := HB7.out.trans (hb20.mono HB7.out.size)
    clear g20 hb20
    have g21 := iNumText_any n hn w20 (HT.out w20 (HTAIL.out w20 HB20.out)).pow
    have GS : Hid (∀ w', Calls Tryz.prog 19 #[.int .u64 (n : Int)] w' fun e w'' => e = .returned (tx (numL n)) ∧ Below w'.heap.size w' w'') := fun w' => sNumText_any n hn w'
    have GR : Hid (∀ w', Below w1.heap.size w1 w' → Calls Tryz.prog 15 #[tx (numL n)] w' fun e w'' => e = .returned (.tuple #[.int .u64 (n : Int), .bool true]) ∧ Below w'.heap.size w' w'') := fun w' hb => by
      have g := iReadNum_any (numL n) (by have := numL_len20 hn; omega) w' (HT.out w' (HTAIL.out w' hb)).pow (HT.out w' (HTAIL.out w' hb)).range (HT.out w' (HTAIL.out w' hb)).syn
      rw [readN_num hn, isNum_num hn] at g
      exact g
    have hnl := numL_len20 hn
    generalize numL n = NX at *
    go_wp2_with fail
    refine g21.mono ?_
    rintro e w21 ⟨rfl, hb21⟩
    have HB21 : Hid (Below w1.heap.size w1 w21) := HB20.out.trans (hb21.mono HB20.out.size)
    clear g21 hb21
    have g22 := GR.out w21 HB21.out
    go_wp2_with fail
    refine g22.mono ?_
    rintro e w22 ⟨rfl, hb22⟩
    have HB22 : Hid (Below w1.heap.size w1 w22) := HB21.out.trans (hb22.mono HB21.out.size)
    clear g22 hb22 GR
    have g23 := drawNameOf_any (.slice a1 l1 c1) w22 (HC1.out w22 (HTAIL.out w22 HB22.out))
    go_wp2_with fail
    refine g23.mono ?_
    rintro e w23 ⟨m, ⟨hm0, hm1⟩, rfl, hb23⟩
    have HB23 : Hid (Below w1.heap.size w1 w23) := HB22.out.trans (hb23.mono HB22.out.size)
    clear g23 hb23
    have g24 := iNameOf_any m w23
    have GN : Hid (∀ w', Calls Tryz.prog 18 #[.int .i64 m] w' fun e w'' => e = .returned (.tuple #[tx (nameT m), .bool (decide (0 ≤ m ∧ m ≤ 3))]) ∧ Below w'.heap.size w' w'') := fun w' => sNameOf_any m w'
    generalize nameT m = NM at *
    generalize decide (0 ≤ m ∧ m ≤ 3) = NB at *
    go_wp2_with fail
    refine g24.mono ?_
    rintro e w24 ⟨rfl, rfl⟩
    clear g24
    have g25 := GN.out w24
    go_wp2_with fail
    refine g25.mono ?_
    rintro e w25 ⟨rfl, hb25⟩
    have HB25 : Hid (Below w1.heap.size w1 w25) := HB23.out.trans (hb25.mono HB23.out.size)
    clear g25 hb25 GN
    have g26 := GS.out w25
    go_wp2_with fail
    refine g26.mono ?_
    rintro e w26 ⟨rfl, hb26⟩
    have HE : Hid (Below w.heap.size w w26) := HTAIL.out w26 (HB25.out.trans (hb26.mono HB25.out.size))
    clear g26 hb26 GS
    go_wp2_with fail
    go_ret
    exact ⟨rfl, HE.out⟩
  | false =>
    have g20 := drawNumText_any (.slice a1 l1 c1) w5 (HC1.out w5 (HTAIL.out w5 HB5.out))
    go_wp2_with fail
    refine g20.mono ?_
    rintro e w20 ⟨n, hn, rfl, hb20⟩
    have HB20 : Hid (Below w1.heap.size w1 w20) := HB5.out.trans (hb20.mono HB5.out.size)
    clear g20 hb20
    have g21 := iNumText_any n hn w20 (HT.out w20 (HTAIL.out w20 HB20.out)).pow
    have GS : Hid (∀ w', Calls Tryz.prog 19 #[.int .u64 (n : Int)] w' fun e w'' => e = .returned (tx (numL n)) ∧ Below w'.heap.size w' w'') := fun w' => sNumText_any n hn w'
    have GR : Hid (∀ w', Below w1.heap.size w1 w' → Calls Tryz.prog 15 #[tx (numL n)] w' fun e w'' => e = .returned (.tuple #[.int .u64 (n : Int), .bool true]) ∧ Below w'.heap.size w' w'') := fun w' hb => by
      have g := iReadNum_any (numL n) (by have := numL_len20 hn; omega) w' (HT.out w' (HTAIL.out w' hb)).pow (HT.out w' (HTAIL.out w' hb)).range (HT.out w' (HTAIL.out w' hb)).syn
      rw [readN_num hn, isNum_num hn] at g
      exact g
    have hnl := numL_len20 hn
    generalize numL n = NX at *
    go_wp2_with fail
    refine g21.mono ?_
    rintro e w21 ⟨rfl, hb21⟩
    have HB21 : Hid (Below w1.heap.size w1 w21) := HB20.out.trans (hb21.mono HB20.out.size)
    clear g21 hb21
    have g22 := GR.out w21 HB21.out
    go_wp2_with fail
    refine g22.mono ?_
    rintro e w22 ⟨rfl, hb22⟩
    have HB22 : Hid (Below w1.heap.size w1 w22) := HB21.out.trans (hb22.mono HB21.out.size)
    clear g22 hb22 GR
    have g23 := drawNameOf_any (.slice a1 l1 c1) w22 (HC1.out w22 (HTAIL.out w22 HB22.out))
    go_wp2_with fail
    refine g23.mono ?_
    rintro e w23 ⟨m, ⟨hm0, hm1⟩, rfl, hb23⟩
    have HB23 : Hid (Below w1.heap.size w1 w23) := HB22.out.trans (hb23.mono HB22.out.size)
    clear g23 hb23
    have g24 := iNameOf_any m w23
    have GN : Hid (∀ w', Calls Tryz.prog 18 #[.int .i64 m] w' fun e w'' => e = .returned (.tuple #[tx (nameT m), .bool (decide (0 ≤ m ∧ m ≤ 3))]) ∧ Below w'.heap.size w' w'') := fun w' => sNameOf_any m w'
    generalize nameT m = NM at *
    generalize decide (0 ≤ m ∧ m ≤ 3) = NB at *
    go_wp2_with fail
    refine g24.mono ?_
    rintro e w24 ⟨rfl, rfl⟩
    clear g24
    have g25 := GN.out w24
    go_wp2_with fail
    refine g25.mono ?_
    rintro e w25 ⟨rfl, hb25⟩
    have HB25 : Hid (Below w1.heap.size w1 w25) := HB23.out.trans (hb25.mono HB23.out.size)
    clear g25 hb25 GN
    have g26 := GS.out w25
    go_wp2_with fail
    refine g26.mono ?_
    rintro e w26 ⟨rfl, hb26⟩
    have HE : Hid (Below w.heap.size w w26) := HTAIL.out w26 (HB25.out.trans (hb26.mono HB25.out.size))
    clear g26 hb26 GS
    go_wp2_with fail
    go_ret
    exact ⟨rfl, HE.out⟩
end Go.Proofs.YtkfplichekebdaaGreatDoor

namespace Go.Proofs.YtkfplichekebdaaGreatDoor
open Go Go.RowKit
open M
set_option linter.unusedVariables false

set_option maxRecDepth 100000 in
theorem of_any (B b m : Nat) (sv : Value) (lb len cap N : Nat) (hlen : 1 ≤ len) (hlen1 : len ≤ 1000000) (w : World) (h : Cur B b m sv w) (hm : m ≤ 4611686018427387900) (hb : lb ≠ b) (hl : lb < w.heap.size)
    (hc : ∀ i : Nat, i < len → ∃ x : Tx, w.cell? ⟨lb, i, none⟩ = some (tx x) ∧ x.length ≤ N) :
    Calls Tryz.prog 46 #[.pointer (some ⟨b, 0, none⟩), .slice (some ⟨lb, 0, none⟩) len cap] w fun e w' => ∃ x : Tx, x.length ≤ N ∧ e = .returned (tx x) ∧ Only b w w' ∧ Cur B b (m + 2) sv w' := by
  have g1 := pick_any B b m sv len (by omega) (by omega) w h hm
  go_enter Tryz.func46, Tryz.ntmps46
  go_wp2_with fail
  refine g1.mono ?_
  rintro e w1 ⟨x, ⟨hx0, hx1⟩, rfl, ho1, hc1⟩
  clear g1
  obtain ⟨i, rfl⟩ := Int.eq_ofNat_of_zero_le hx0
  obtain ⟨y, hy, hy1⟩ := hc i (by omega)
  have hy' : w1.cell? ⟨lb, i, none⟩ = some (tx y) := by rw [ho1.cell (p := ⟨lb, i, none⟩) hb hl]; exact hy
  clear hc hy
  go_wp2_with fail
  go_ret
  exact ⟨_, hy1, rfl, ho1, hc1⟩
set_option maxRecDepth 100000 in
set_option maxHeartbeats 4000000 in
theorem spoilt_any (B b m : Nat) (sv : Value) (t s : Tx) (L : Nat) (hl : t.length ≤ L) (hL : L ≤ 1000) (hs1 : 1 ≤ s.length) (hs2 : s.length ≤ 100) (w : World) (h : Cur B b m sv w) (hm : m ≤ 4611686018427387700) :
    Calls Tryz.prog 45 #[.pointer (some ⟨b, 0, none⟩), tx t, tx s] w fun e w' => ∃ t' : Tx, t'.length ≤ L + 2 ∧ e = .returned (tx t') ∧ Only b w w' ∧ Cur B b (m + 14) sv w' := by
  have g1 := pick_any B b m sv 2 (by omega) (by omega) w h (by omega)
  clear h
  go_enter Tryz.func45, Tryz.ntmps45
  go_wp2_with fail
  refine g1.mono ?_
  rintro e w1 ⟨x, ⟨hx0, hx1⟩, rfl, ho1, hc1⟩
  clear g1
  go_wp2_with fail
  obtain ⟨n0, rfl⟩ := Int.eq_ofNat_of_zero_le hx0
  go_loopw [1, 7] (fun tv nv wr => ∃ (q : Tx) (n : Nat), n ≤ 2 ∧ tv = tx q ∧ nv = .int .i64 n ∧ q.length + n ≤ L + 2 ∧ Hid (Only b w wr ∧ Cur B b (m + 14 - 6 * n) sv wr)) (fun _ nv _ => (intOf nv).toNat)
  case atStart => exact ⟨t, 1 + n0, by omega, rfl, by go_num, by omega, ho1, hc1.more (by omega)⟩
  case round =>
    obtain ⟨q, n, hn, rfl, rfl, hq, HC⟩ := hrel
    clear ho1 hc1
    by_cases hn0 : n = 0
    · subst hn0
      go_wp2_with fail
      go_ret
      exact ⟨q, by omega, rfl, HC.out.1, HC.out.2.more (by omega)⟩
    · by_cases hq0 : q = []
      · subst hq0
        have hnp : (0 : Int) < (n : Int) := by omega
        go_wp2_with fail
        go_ret
        exact ⟨[], by simp, rfl, HC.out.1, HC.out.2.more (by omega)⟩
      · have hnp : (0 : Int) < (n : Int) := by omega
        have hql : 0 < q.length := List.length_pos_iff.2 hq0
        have hqp : (0 : Int) < (q.length : Int) := by omega
        have g2 := pick_any B b _ sv (q.length : Int) (by omega) (by omega) wr HC.out.2 (by omega)
        clear hq0
        go_wp2_with fail
        refine g2.mono ?_
        rintro e w2 ⟨x2, ⟨hx20, hx21⟩, rfl, ho2, hc2⟩
        have HC2 : Hid (Only b w w2 ∧ Cur B b (m + 14 - 6 * n + 2) sv w2) := ⟨HC.out.1.trans ho2, hc2⟩
        clear g2 ho2 hc2 HC
        obtain ⟨i, rfl⟩ := Int.eq_ofNat_of_zero_le hx20
        have g3 := pick_any B b _ sv (s.length : Int) (by omega) (by omega) w2 HC2.out.2 (by omega)
        go_wp2_with fail
        refine g3.mono ?_
        rintro e w3 ⟨x3, ⟨hx30, hx31⟩, rfl, ho3, hc3⟩
        have HC3 : Hid (Only b w w3 ∧ Cur B b (m + 14 - 6 * n + 4) sv w3) := ⟨HC2.out.1.trans ho3, hc3⟩
        clear g3 ho3 hc3 HC2
        obtain ⟨j, rfl⟩ := Int.eq_ofNat_of_zero_le hx30
        obtain ⟨ch, hch⟩ : ∃ ch, s[j]? = some ch := ⟨s[j]'(by omega), List.getElem?_eq_getElem _⟩
        have he := tx_at hch (by rw [tx_size]; omega)
        have hcv := conv_one w3 (ch.toNat : Int) ch rfl
        have HC4 : Hid (Only b w (w3.alloc (.cells #[.int .u8 (ch.toNat : Int)] 5)) ∧ Cur B b (m + 14 - 6 * n + 4) sv (w3.alloc (.cells #[.int .u8 (ch.toNat : Int)] 5))) := ⟨HC3.out.1.alloc _, HC3.out.2.alloc _⟩
        have g4 := pick_any B b _ sv 3 (by omega) (by omega) _ HC4.out.2 (by omega)
        clear hch
        go_wp2_with fail
        refine g4.mono ?_
        rintro e w4 ⟨x4, ⟨hx40, hx41⟩, rfl, ho4, hc4⟩
        have HC5 : Hid (Only b w w4 ∧ Cur B b (m + 14 - 6 * n + 6) sv w4) := ⟨HC4.out.1.trans ho4, hc4⟩
        clear g4 ho4 hc4 HC3 HC4 he hcv
        have e1 : (ByteArray.mk q.toArray).extract 0 i = ⟨(q.take i).toArray⟩ := tx_take q i
        have e2 : (ByteArray.mk q.toArray).extract i q.length = ⟨(q.drop i).toArray⟩ := by rw [tx_slice, List.take_of_length_le (by simp)]
        have e3 : (ByteArray.mk q.toArray).extract (i + 1) q.length = ⟨(q.drop (i + 1)).toArray⟩ := by rw [tx_slice, List.take_of_length_le (by simp)]
        have hl1 : (q.take i).length = i := by rw [List.length_take]; omega
        have hl2 : (q.drop i).length = q.length - i := List.length_drop
        have hl3 : (q.drop (i + 1)).length = q.length - (i + 1) := List.length_drop
        have a1 := fun W : World => add_tx (q.take i) [ch] (by rw [hl1]; simp; omega) W
        have a2 := fun W : World => add_tx (q.take i ++ [ch]) (q.drop i) (by simp; omega) W
        have a3 := fun W : World => add_tx (q.take i ++ [ch]) (q.drop (i + 1)) (by simp; omega) W
        have a4 := fun W : World => add_tx (q.take i) (q.drop (i + 1)) (by rw [hl1]; simp; omega) W
        have HN2 : Hid ((q.take i ++ [ch] ++ q.drop i).length + (n - 1) ≤ L + 2 ∧ (q.take i ++ [ch] ++ q.drop (i + 1)).length + (n - 1) ≤ L + 2 ∧ (q.take i ++ q.drop (i + 1)).length + (n - 1) ≤ L + 2) := by
          refine ⟨?_, ?_, ?_⟩ <;> (simp only [List.length_append, List.length_singleton, hl1, hl2, hl3]; omega)
        clear hl1 hl2 hl3
        generalize q.take i ++ [ch] ++ q.drop i = R1 at *
        generalize q.take i ++ [ch] ++ q.drop (i + 1) = R2 at *
        generalize q.take i ++ q.drop (i + 1) = R3 at *
        generalize q.take i ++ [ch] = R0 at *
        generalize q.take i = Q1 at *
        generalize q.drop i = Q2 at *
        generalize q.drop (i + 1) = Q3 at *
        have hx4 : x4 = 0 ∨ x4 = 1 ∨ x4 = 2 := by omega
        rcases hx4 with rfl | rfl | rfl
        · go_wp2_with fail
          go_region
          all_goals
            go_wp2_with fail
            go_roundw
            case rel => exact ⟨R1, n - 1, by omega, rfl, by go_num, HN2.out.1, HC5.out.1.drew, (HC5.out.2.drew).more (by omega)⟩
            case measure => simp [intOf]; omega
        · go_wp2_with fail
          go_region
          all_goals
            go_wp2_with fail
            go_roundw
            case rel => exact ⟨R2, n - 1, by omega, rfl, by go_num, HN2.out.2.1, HC5.out.1.drew, (HC5.out.2.drew).more (by omega)⟩
            case measure => simp [intOf]; omega
        · go_wp2_with fail
          go_region
          all_goals
            go_wp2_with fail
            go_roundw
            case rel => exact ⟨R3, n - 1, by omega, rfl, by go_num, HN2.out.2.2, HC5.out.1.drew, (HC5.out.2.drew).more (by omega)⟩
            case measure => simp [intOf]; omega
theorem only_below {b : Nat} {w w' : World} (h : Below w.heap.size w w') : Only b w w' := ⟨h.os, h.tape, h.output, h.size, fun k _ hk => h.block k hk⟩
theorem Cur.later {B b m : Nat} {sv : Value} {w w' : World} (h : Cur B b m sv w) (hb : Below w.heap.size w w') : Cur B b m sv w' := h.below (hb.mono h.lies)
set_option maxRecDepth 100000 in
set_option maxHeartbeats 4000000 in
theorem drawReadNum_any (sv : Value) (w : World) (h : CodeOk w.heap.size w sv) :
    Calls Tryz.prog 24 #[sv] w fun e w' => ∃ u : Tx, u.length ≤ 30 ∧ e = .returned (tx u) ∧ Below w.heap.size w w' := by
  have hc := cur_new w sv h
  have g := word_any _ _ _ sv 64 (by omega) _ hc (by omega)
  have HB0 : Hid (Below w.heap.size w (w.alloc (.cells #[sv, .int .i64 0, .int .u64 0] 66))) := (Below.refl _ _).alloc (Nat.le_refl _) _
  obtain ⟨sa, sl, sc, rfl⟩ := slice_of_codeX h
  clear h hc
  go_enter Tryz.func24, Tryz.ntmps24
  go_wp2_with fail
  refine g.mono ?_
  rintro e w1 ⟨x, ⟨hx0, hx1⟩, rfl, ho1, hc1⟩
  obtain ⟨n, rfl⟩ := Int.eq_ofNat_of_zero_le hx0
  have g2 := sNumText_any n (by omega) w1
  have hnl := numL_len20 (n := n) (by omega)
  generalize numL n = NX at *
  have HO1 : Hid (Only w.heap.size (w.alloc (.cells #[.slice sa sl sc, .int .i64 0, .int .u64 0] 66)) w1) := ho1
  have HC1 : Hid (Cur w.heap.size w.heap.size 14 (.slice sa sl sc) w1) := hc1.more (by omega)
  clear g ho1 hc1
  go_wp2_with fail
  refine g2.mono ?_
  rintro e w2 ⟨rfl, hb2⟩
  have HO2 : Hid (Only w.heap.size (w.alloc (.cells #[.slice sa sl sc, .int .i64 0, .int .u64 0] 66)) w2) := HO1.out.trans (only_below hb2)
  have HC2 : Hid (Cur w.heap.size w.heap.size 14 (.slice sa sl sc) w2) := HC1.out.later hb2
  clear g2 hb2 HO1 HC1
  have g3 := one_any _ _ _ _ 3 (by omega) (by omega) w2 HC2.out (by omega)
  go_wp2_with fail
  refine g3.mono ?_
  rintro e w3 ⟨y, rfl, ho3, hc3⟩
  have HO3 : Hid (Only w.heap.size (w.alloc (.cells #[.slice sa sl sc, .int .i64 0, .int .u64 0] 66)) w3) := HO2.out.trans ho3
  have HC3 : Hid (Cur w.heap.size w.heap.size 16 (.slice sa sl sc) w3) := hc3
  clear g3 ho3 hc3 HO2 HC2
  have HEND : Hid (∀ w', Only w.heap.size (w.alloc (.cells #[.slice sa sl sc, .int .i64 0, .int .u64 0] 66)) w' → Below w.heap.size w w') := fun w' ho => HB0.out.trans (ho.below (Nat.le_refl _) HB0.out.size)
  cases y with
  | true =>
    have g4 := spoilt_any _ _ _ _ NX [48, 49, 97] 20 (by omega) (by omega) (by simp) (by simp) w3 HC3.out (by omega)
    go_wp2_with fail
    refine g4.mono ?_
    rintro e w4 ⟨u, hu, rfl, ho4, hc4⟩
    have HO4 : Hid (Only w.heap.size (w.alloc (.cells #[.slice sa sl sc, .int .i64 0, .int .u64 0] 66)) w4) := HO3.out.trans ho4
    have HC4 : Hid (Cur w.heap.size w.heap.size 30 (.slice sa sl sc) w4) := hc4
    clear g4 ho4 hc4 HO3 HC3
    have g5 := one_any _ _ _ _ 20 (by omega) (by omega) w4 HC4.out (by omega)
    go_wp2_with fail
    refine g5.mono ?_
    rintro e w5 ⟨z, rfl, ho5, hc5⟩
    have HB5 : Hid (Below w.heap.size w w5) := HEND.out w5 (HO4.out.trans ho5)
    clear g5 ho5 hc5 HO4 HC4 HEND
    cases z with
    | true =>
      go_wp2_with fail
      go_ret
      exact ⟨[49, 56, 52, 52, 54, 55, 52, 52, 48, 55, 51, 55, 48, 57, 53, 53, 49, 54, 49, 54], by simp, rfl, HB5.out⟩
    | false =>
      go_wp2_with fail
      go_ret
      exact ⟨u, by omega, rfl, HB5.out⟩
  | false =>
    have g5 := one_any _ _ _ _ 20 (by omega) (by omega) w3 HC3.out (by omega)
    go_wp2_with fail
    refine g5.mono ?_
    rintro e w5 ⟨z, rfl, ho5, hc5⟩
    have HB5 : Hid (Below w.heap.size w w5) := HEND.out w5 (HO3.out.trans ho5)
    clear g5 ho5 hc5 HO3 HC3 HEND
    cases z with
    | true =>
      go_wp2_with fail
      go_ret
      exact ⟨[49, 56, 52, 52, 54, 55, 52, 52, 48, 55, 51, 55, 48, 57, 53, 53, 49, 54, 49, 54], by simp, rfl, HB5.out⟩
    | false =>
      go_wp2_with fail
      go_ret
      exact ⟨NX, by omega, rfl, HB5.out⟩
def lines : List Tx := [[40, 97, 32, 43, 32, 98, 41], [], [32, 40, 32, 97, 60, 45, 49, 41, 32], [33, 40, 97, 60, 49, 41], [33, 97], [126, 40, 97, 60, 49, 41], [40, 40, 97, 60, 49, 41, 43, 98, 41], [40, 97, 60, 49], [40, 97, 61, 49, 41], [40, 97, 60, 49, 41, 32, 50], [126, 126, 97], [101], [121, 101, 115], [40, 110, 111, 124, 124, 121, 101, 115, 41], [48, 49, 50], [40, 97, 38, 38, 98, 41]]
abbrev linesA : Array Value := #[tx [40, 97, 32, 43, 32, 98, 41], tx [], tx [32, 40, 32, 97, 60, 45, 49, 41, 32], tx [33, 40, 97, 60, 49, 41], tx [33, 97], tx [126, 40, 97, 60, 49, 41], tx [40, 40, 97, 60, 49, 41, 43, 98, 41], tx [40, 97, 60, 49], tx [40, 97, 61, 49, 41], tx [40, 97, 60, 49, 41, 32, 50], tx [126, 126, 97], tx [101], tx [121, 101, 115], tx [40, 110, 111, 124, 124, 121, 101, 115, 41], tx [48, 49, 50], tx [40, 97, 38, 38, 98, 41]]
theorem lines_at (w : World) : ∀ i : Nat, i < 16 → ∃ x : Tx, (w.alloc (.cells linesA 9)).cell? ⟨w.heap.size, i, none⟩ = some (tx x) ∧ x.length ≤ 800 := by
  intro i hi
  have h : ∀ i : Nat, i < 16 → ∃ x : Tx, linesA[i]? = some (tx x) ∧ x.length ≤ 800 := by
    intro i hi
    match i, hi with
    | 0, _ => exact ⟨_, rfl, by simp⟩
    | 1, _ => exact ⟨_, rfl, by simp⟩
    | 2, _ => exact ⟨_, rfl, by simp⟩
    | 3, _ => exact ⟨_, rfl, by simp⟩
    | 4, _ => exact ⟨_, rfl, by simp⟩
    | 5, _ => exact ⟨_, rfl, by simp⟩
    | 6, _ => exact ⟨_, rfl, by simp⟩
    | 7, _ => exact ⟨_, rfl, by simp⟩
    | 8, _ => exact ⟨_, rfl, by simp⟩
    | 9, _ => exact ⟨_, rfl, by simp⟩
    | 10, _ => exact ⟨_, rfl, by simp⟩
    | 11, _ => exact ⟨_, rfl, by simp⟩
    | 12, _ => exact ⟨_, rfl, by simp⟩
    | 13, _ => exact ⟨_, rfl, by simp⟩
    | 14, _ => exact ⟨_, rfl, by simp⟩
    | 15, _ => exact ⟨_, rfl, by simp⟩
    | n + 16, h => omega
  obtain ⟨x, h1, h2⟩ := h i hi
  exact ⟨x, by rw [World.cell?_alloc_new]; exact h1, h2⟩
set_option maxRecDepth 100000 in
set_option maxHeartbeats 4000000 in
theorem drawReadTerm_any (sv : Value) (w : World) (h : CodeOk w.heap.size w sv) :
    Calls Tryz.prog 20 #[sv] w fun e w' => ∃ (k : Nat) (vars : Int) (s : Tx), e = .returned (.tuple #[.int .i64 (k : Int), .int .i64 vars, tx s]) ∧ (1 ≤ k ∧ k ≤ 64) ∧ (0 ≤ vars ∧ vars ≤ 5) ∧ s.length ≤ 802 ∧ Below w.heap.size w w' := by
  have hc := cur_new w sv h
  have g := term_any _ _ _ sv _ hc (by omega)
  have HB0 : Hid (Below w.heap.size w (w.alloc (.cells #[sv, .int .i64 0, .int .u64 0] 66))) := (Below.refl _ _).alloc (Nat.le_refl _) _
  obtain ⟨sa, sl, sc, rfl⟩ := slice_of_codeX h
  clear h hc
  go_enter Tryz.func20, Tryz.ntmps20
  go_wp2_with fail
  refine g.mono ?_
  rintro e w1 ⟨k, vars, v, t, rfl, hd⟩
  have hcur := hd.2.2.2.2.2.2.2.2
  obtain ⟨hnd, hb1⟩ := TermD.out hd HB0.out
  have g2 := termText_any k vars v t w1 hnd.at
  have hXL := textL_len k vars t
  have HKV : Hid ((1 ≤ k ∧ k ≤ 64) ∧ (0 ≤ vars ∧ vars ≤ 5)) := ⟨⟨hd.1, hd.2.1⟩, hd.2.2.1, hd.2.2.2.1⟩
  obtain ⟨va, vc, hvs⟩ := own_shape hnd.1
  have HB1 : Hid (Below w.heap.size w w1) := hb1
  obtain ⟨mm, hcm, hmm⟩ : ∃ mm, Cur w.heap.size w.heap.size mm (.slice sa sl sc) w1 ∧ mm ≤ 5000000 := ⟨_, hcur, by omega⟩
  have HC1 : Hid (Cur w.heap.size w.heap.size mm (.slice sa sl sc) w1) := hcm
  clear g hd hcur hnd hb1 hcm
  generalize textL k vars t = X at *
  generalize textB k vars t = XB at *
  subst hvs
  generalize t.length = tn at *
  go_wp2_with fail
  refine g2.mono ?_
  rintro e w2 ⟨rfl, hb2⟩
  have HB2 : Hid (Below w.heap.size w w2) := HB1.out.trans (hb2.mono HB1.out.size)
  have HC2 : Hid (Cur w.heap.size w.heap.size mm (.slice sa sl sc) w2) := HC1.out.later hb2
  clear g2 hb2 HB1 HC1
  have g3 := pick_any _ _ _ _ 6 (by omega) (by omega) w2 HC2.out (by omega)
  go_wp2_with fail
  refine g3.mono ?_
  rintro e w3 ⟨x, ⟨hx0, hx1⟩, rfl, ho3, hc3⟩
  have HB3 : Hid (Below w.heap.size w w3) := HB2.out.trans (ho3.below (Nat.le_refl _) HB2.out.size)
  have HC3 : Hid (Cur w.heap.size w.heap.size (mm + 2) (.slice sa sl sc) w3) := hc3
  have hlies := hc3.lies
  clear g3 ho3 hc3 HB2 HC2
  by_cases h0 : x = 0
  · subst h0
    have g4 := spoilt_any _ _ _ _ X [40, 97, 49, 60, 43, 38, 61] 800 hXL (by omega) (by simp) (by simp) w3 HC3.out (by omega)
    go_wp2_with fail
    refine g4.mono ?_
    rintro e w4 ⟨u, hu, rfl, ho4, hc4⟩
    have HB4 : Hid (Below w.heap.size w w4) := HB3.out.trans (ho4.below (Nat.le_refl _) HB3.out.size)
    clear g4 ho4 hc4 HB3 HC3
    go_wp2_with fail
    go_ret3
    exact ⟨k, vars, u, rfl, HKV.out.1, HKV.out.2, hu, HB4.out⟩
  · by_cases h1 : x = 1
    · subst h1
      have g4 := of_any _ _ _ _ w3.heap.size 16 16 800 (by omega) (by omega) (w3.alloc (.cells linesA 9)) (HC3.out.alloc _) (by omega) (by omega) (by simp) (lines_at w3)
      go_wp2_with fail
      refine g4.mono ?_
      rintro e w4 ⟨u, hu, rfl, ho4, hc4⟩
      have HB4 : Hid (Below w.heap.size w w4) := HB3.out.trans ((((Only.refl w.heap.size w3).alloc _).trans ho4).below (Nat.le_refl _) HB3.out.size)
      clear g4 ho4 hc4 HB3 HC3
      go_wp2_with fail
      go_ret3
      exact ⟨k, vars, u, rfl, HKV.out.1, HKV.out.2, by omega, HB4.out⟩
    · have b0 : (x == 0) = false := beq_eq_false_iff_ne.2 h0
      have b1 : (x == 1) = false := beq_eq_false_iff_ne.2 h1
      clear h0 h1
      go_wp2_with fail
      go_ret3
      exact ⟨k, vars, X, rfl, HKV.out.1, HKV.out.2, by omega, HB3.out⟩
end Go.Proofs.YtkfplichekebdaaGreatDoor

namespace Go.Proofs.YtkfplichekebdaaGreatDoor
open Go Go.RowKit
open M
set_option linter.unusedVariables false

def marksT (k : Nat) : Nat → List Value
  | 0 => []
  | n + 1 => marksT k n ++ [.int .i64 ((k : Int) + 2 * (n : Int)), tx (markL (k + 2 * n + 1))]
theorem marksT_len (k : Nat) : ∀ n : Nat, (marksT k n).length = n * 2
  | 0 => rfl
  | n + 1 => by
    simp only [marksT, List.length_append, marksT_len k n, List.length_cons, List.length_nil]
    omega
theorem marksT_set (k n j : Nat) (xs : List Value) (hx : xs.length = n * 2) (hj : j < n) :
    ((marksT k j ++ xs.drop (j * 2)).set (j * 2) (.int .i64 ((k : Int) + 2 * (j : Int)))).set (j * 2 + 1) (tx (markL (k + 2 * j + 1))) = marksT k (j + 1) ++ xs.drop ((j + 1) * 2) := by
  have hl := marksT_len k j
  obtain ⟨a, b, r, hr⟩ : ∃ a b r, xs.drop (j * 2) = a :: b :: r := by
    rw [List.drop_eq_getElem_cons (show j * 2 < xs.length by omega), List.drop_eq_getElem_cons (show j * 2 + 1 < xs.length by omega)]
    exact ⟨_, _, _, rfl⟩
  have hr2 : xs.drop ((j + 1) * 2) = r := by
    have h := congrArg (List.drop 2) hr
    rw [List.drop_drop] at h
    rw [show (j + 1) * 2 = j * 2 + 2 from by omega, h]
    rfl
  rw [hr, hr2, List.set_append_right _ _ (by omega), hl, Nat.sub_self, List.set_append_right _ _ (by omega), hl, show j * 2 + 1 - j * 2 = 1 from by omega]
  simp [marksT]
theorem marksT_at (k : Nat) : ∀ (n i : Nat), i < n → (marksT k n)[i * 2]? = some (.int .i64 ((k : Int) + 2 * (i : Int))) ∧ (marksT k n)[i * 2 + 1]? = some (tx (markL (k + 2 * i + 1)))
  | 0, i, h => by omega
  | n + 1, i, h => by
    have hl := marksT_len k n
    by_cases e : i = n
    · subst e
      simp only [marksT]
      rw [List.getElem?_append_right (by omega), List.getElem?_append_right (by omega), hl, Nat.sub_self, show i * 2 + 1 - i * 2 = 1 from by omega]
      exact ⟨rfl, rfl⟩
    · have ih := marksT_at k n i (by omega)
      simp only [marksT]
      rw [List.getElem?_append_left (by omega), List.getElem?_append_left (by omega)]
      exact ih
theorem grown_below {a w w' : World} {row : Option Nat} (h : a.grownBy w row) (hb : Below w.heap.size w w') : a.grownBy w' row :=
  ⟨hb.os.trans h.os, hb.tape.trans h.tape, hb.output.trans h.output, Nat.le_trans h.size hb.size, fun i hi hr => (hb.block i (Nat.lt_of_lt_of_le hi h.size)).trans (h.block i hi hr)⟩
end Go.Proofs.YtkfplichekebdaaGreatDoor

namespace Go.Proofs.YtkfplichekebdaaGreatDoor
open Go Go.RowKit
open M
set_option linter.unusedVariables false

theorem toksL_many : ∀ (f p : Nat) (s : Tx) (l : List M.Tok), toksL f p s = .ok l → l.length ≤ s.length
  | 0, _, _, l, h => by
    simp only [toksL, Except.ok.injEq] at h
    subst h
    simp
  | _ + 1, _, [], l, h => by
    simp only [toksL, Except.ok.injEq] at h
    subst h
    simp
  | f + 1, p, c :: r, l, h => by
    simp only [toksL] at h
    split at h
    · have := toksL_many f _ _ _ h
      simp only [List.length_cons]
      omega
    · split at h
      · cases h
      · rename_i h0
        split at h
        · cases h
        · rename_i l' e
          simp only [Except.ok.injEq] at h
          subst h
          have := toksL_many f _ _ _ e
          simp only [List.length_drop, List.length_cons] at *
          omega
theorem tokL_len (s : Tx) : (tokL s).length ≤ 800 := by
  unfold tokL
  split
  · split
    · rename_i l e
      have := toksL_many _ _ _ _ e
      omega
    · simp
  · simp
end Go.Proofs.YtkfplichekebdaaGreatDoor

namespace Go.Proofs.YtkfplichekebdaaGreatDoor
open Go Go.RowKit
open M
set_option linter.unusedVariables false

theorem tok_long {s : Tx} (h8 : ¬ s.length ≤ 800) : tokL s = [] ∧ tokP s = 0 ∧ tokB s = false := by
  refine ⟨?_, ?_, ?_⟩
  · unfold tokL; rw [if_neg h8]
  · unfold tokP; rw [if_neg h8]
  · unfold tokB; rw [if_neg h8]
theorem sTokensOf_any (s : Tx) (hl : s.length ≤ 9223372036854775807) (w : World) : Calls Tryz.prog 23 #[tx s] w fun e w' => ∃ v, e = .returned (.tuple #[v, .int .i64 (tokP s : Int), .bool (tokB s)]) ∧ OwnToks w' w.heap.size v (tokL s) ∧ Below w.heap.size w w' := by
  by_cases h8 : s.length ≤ 800
  · exact sTokensOf_in s h8 w
  · obtain ⟨e1, e2, e3⟩ := tok_long h8
    rw [e1, e2, e3]
    refine (sTokensOf_long s (by omega) hl w).mono ?_
    rintro e w' ⟨he, rfl⟩
    exact ⟨_, he, World.ownsRow_nil _ _ _ _, Below.refl _ _⟩
theorem iTokensOf_any (s : Tx) (hl : s.length ≤ 9223372036854775807) (w : World) (hS : Signs w) : Calls Tryz.prog 22 #[tx s] w fun e w' => ∃ v, e = .returned (.tuple #[v, .int .i64 (tokP s : Int), .bool (tokB s)]) ∧ OwnToks w' w.heap.size v (tokL s) ∧ Below w.heap.size w w' := by
  by_cases h8 : s.length ≤ 800
  · exact iTokensOf_in s h8 w hS
  · obtain ⟨e1, e2, e3⟩ := tok_long h8
    rw [e1, e2, e3]
    refine (iTokensOf_long s (by omega) hl w).mono ?_
    rintro e w' ⟨he, rfl⟩
    exact ⟨_, he, World.ownsRow_nil _ _ _ _, Below.refl _ _⟩
theorem toks_order (s : Tx) : (tokL s).length ≤ 802 ∧ (∀ (i : Nat) (x y : M.Tok), (tokL s)[i]? = some x → (tokL s)[i + 1]? = some y → x.1 + x.2.length ≤ y.1) ∧ (∀ x ∈ tokL s, x.1 ≤ 1000 ∧ x.2.length ≤ 1000) ∧ (joinT (tokL s)).length ≤ 802 := by
  by_cases h8 : s.length ≤ 800
  · cases ht : tokens s with
    | error p =>
      have e : tokL s = [] := by unfold tokL; rw [if_pos h8, ht]
      rw [e]
      exact ⟨by simp, fun i x y hx => by simp at hx, fun x hx => by simp at hx, by simp [joinT]⟩
    | ok l =>
      have e : tokL s = l := by unfold tokL; rw [if_pos h8, ht]
      rw [e]
      obtain ⟨h1, h2, h3⟩ := toksL_order _ _ _ _ ht
      refine ⟨by have := (tokens_many ht).1; omega, fun i x y hx hy => ?_, fun x hx => ?_, by omega⟩
      · have hi : i < l.length := (List.getElem?_eq_some_iff.1 hx).1
        have hj : i + 1 < l.length := (List.getElem?_eq_some_iff.1 hy).1
        have := List.pairwise_iff_getElem.1 h2 i (i + 1) hi hj (by omega)
        rw [(List.getElem?_eq_some_iff.1 hx).2, (List.getElem?_eq_some_iff.1 hy).2] at this
        exact this
      · have := h1 x hx
        omega
  · rw [(tok_long h8).1]
    exact ⟨by simp, fun i x y hx => by simp at hx, fun x hx => by simp at hx, by simp [joinT]⟩
end Go.Proofs.YtkfplichekebdaaGreatDoor

namespace Go.Proofs.YtkfplichekebdaaGreatDoor
open Go Go.RowKit
open M
set_option linter.unusedVariables false

set_option maxRecDepth 100000 in
theorem printed_big (a0 a1 : Option Addr) (l0 c0 l1 c1 : Nat) (h0 : l0 ≤ 9223372036854775807) (h1 : l1 ≤ 9223372036854775807) (h : 1048576 < l0 + l1) (w : World) :
    Calls Tryz.prog 4 #[.slice a0 l0 c0, .slice a1 l1 c1] w fun e w' => e = .returned (.bool true) ∧ Below w.heap.size w w' := by
  have g0 := big_yes a0 a1 l0 c0 l1 c1 h0 h1 h w
  go_enter Tryz.func4, Tryz.ntmps4
  go_wp2_with fail
  refine g0.mono ?_
  rintro e w' ⟨rfl, rfl⟩
  clear g0
  go_wp2_with fail
  go_ret
  exact ⟨rfl, Below.refl _ _⟩
theorem ToksAt.elem {w : World} {a : Option Addr} {n c : Nat} {l : List M.Tok} (h : ToksAt w (.slice a n c) l) {i : Nat} {x : M.Tok} (hx : l[i]? = some x) :
    ∃ g off : Nat, a = some ⟨g, off, none⟩ ∧ g < w.heap.size ∧ ∀ (i : Nat) (x : M.Tok), l[i]? = some x → w.cell? ⟨g, off + i * 2, none⟩ = some (.int .i64 (x.1 : Int)) ∧ w.cell? ⟨g, off + i * 2 + 1, none⟩ = some (tx x.2) := by
  rcases h.2 with ⟨h0, _⟩ | ⟨g, off, cap, hv, hg, hc⟩
  · rw [h0] at hx
    simp at hx
  · simp only [Value.slice.injEq] at hv
    exact ⟨g, off, hv.1, hg, hc⟩
theorem join_take {l : List M.Tok} {i : Nat} {x : M.Tok} (hx : l[i]? = some x) : joinT (l.take (i + 1)) = joinT (l.take i) ++ x.2 := by
  rw [List.take_add_one, hx, joinT_append]
  simp [joinT]
theorem isNum_text {u : Tx} (h : isNum u = true) : numL (readN u) = u := by
  obtain ⟨n, hn, rfl⟩ := isNum_iff.1 h
  rw [readN_num hn]
theorem join_le (l : List M.Tok) (i : Nat) : (joinT (l.take i)).length ≤ (joinT l).length := by
  have h := joinT_append (l.take i) (l.drop i)
  rw [List.take_append_drop] at h
  rw [h]
  simp
set_option maxRecDepth 100000 in
set_option maxHeartbeats 16000000 in
theorem printed_walk (a0 a1 : Option Addr) (l0 c0 l1 c1 : Nat) (h0 : l0 ≤ 9223372036854775807) (h1 : l1 ≤ 9223372036854775807) (w : World) (hT : All5 w)
    (hc0 : CodeOk w.heap.size w (.slice a0 l0 c0)) (hc1 : CodeOk w.heap.size w (.slice a1 l1 c1)) :
    Calls Tryz.prog 4 #[.slice a0 l0 c0, .slice a1 l1 c1] w fun e w' => e = .returned (.bool true) ∧ Below w.heap.size w w' := by
  by_cases h : 1048576 < l0 + l1
  · exact printed_big a0 a1 l0 c0 l1 c1 h0 h1 h w
  have g0 := big_no a0 a1 l0 c0 l1 c1 h0 h1 (by omega) w
  have g1 := drawReadTerm_any (.slice a0 l0 c0) w hc0
  have HT : Hid (∀ w', Below w.heap.size w w' → All5 w') := fun w' hb => hT.below hb
  have HC1 : Hid (∀ w', Below w.heap.size w w' → CodeOk w'.heap.size w' (.slice a1 l1 c1)) := fun w' hb => (hc1.below hb).upX hb.size
  clear hT hc0 hc1 h
  go_enter Tryz.func4, Tryz.ntmps4
  go_wp2_with fail
  refine g0.mono ?_
  rintro e w' ⟨rfl, rfl⟩
  clear g0
  obtain ⟨w, rfl⟩ : ∃ w, w = w' := ⟨_, rfl⟩
  go_wp2_with fail
  refine g1.mono ?_
  rintro e w1 ⟨k, vars, s, rfl, ⟨hk1, hk⟩, ⟨hv0, hv5⟩, hsl, hb1⟩
  clear g1
  have HB1 : Hid (Below w.heap.size w w1) := hb1
  have HW : Hid (∀ w', Below w1.heap.size w1 w' → Below w.heap.size w w') := fun w' hb => HB1.out.trans (hb.mono HB1.out.size)
  have g2 := iReadTerm_any k vars s (by omega) w1 (HT.out w1 hb1)
  have G3 : Hid (∀ w', Calls Tryz.prog 21 #[.int .i64 (k : Int), .int .i64 vars, tx s] w' fun e w'' => ∃ v, e = .returned (.tuple #[v, .int .i64 ((readTermL k vars s).code : Int), .int .i64 ((readTermL k vars s).place : Int), .bool (readTermL k vars s).fine]) ∧ OwnNodes w'' w'.heap.size v (readTermL k vars s).nodes ∧ Below w'.heap.size w' w'') := fun w' => sReadTerm_any k vars s (by omega) w'
  have G4 : Hid (∀ w', Below w1.heap.size w1 w' → Calls Tryz.prog 22 #[tx s] w' fun e w'' => ∃ v, e = .returned (.tuple #[v, .int .i64 (tokP s : Int), .bool (tokB s)]) ∧ OwnToks w'' w'.heap.size v (tokL s) ∧ Below w'.heap.size w' w'') := fun w' hb => iTokensOf_any s (by omega) w' (HT.out w' (HW.out w' hb)).signs
  have G5 : Hid (∀ w', Calls Tryz.prog 23 #[tx s] w' fun e w'' => ∃ v, e = .returned (.tuple #[v, .int .i64 (tokP s : Int), .bool (tokB s)]) ∧ OwnToks w'' w'.heap.size v (tokL s) ∧ Below w'.heap.size w' w'') := fun w' => sTokensOf_any s (by omega) w'
  have HOKN : Hid (∀ x ∈ (readTermL k vars s).nodes, NdOk x) := readTermL_ok k vars s
  have hNL := readTermL_len k vars s
  obtain ⟨hcode, hplace⟩ := readTerm_small k vars s (by omega)
  have HF1 : Hid ((readTermL k vars s).fine = true → tokB s = true ∧ textB k vars (readTermL k vars s).nodes = true ∧ textL k vars (readTermL k vars s).nodes = joinT (tokL s)) := fun h => by
    obtain ⟨l, h1, h2, h3⟩ := readTerm_printed h
    have h8 : s.length ≤ 800 := by
      by_cases h8 : s.length ≤ 800
      · exact h8
      · rw [readTermL_bad (fun g => h8 g.2.2.2)] at h
        cases h
    obtain ⟨e1, e2, e3⟩ := (tok_vals h8).2 l h1
    exact ⟨e3, h2, by rw [h3, e1]⟩
  have HF0 : Hid ((readTermL k vars s).fine = false → 0 < (readTermL k vars s).code ∧ (readTermL k vars s).place ≤ s.length) := fun h => readTerm_fault h
  have HTO := toks_order s
  have HTOR : Hid ((tokL s).length ≤ 802 ∧ (∀ (i : Nat) (x y : M.Tok), (tokL s)[i]? = some x → (tokL s)[i + 1]? = some y → x.1 + x.2.length ≤ y.1) ∧ (∀ x ∈ tokL s, x.1 ≤ 1000 ∧ x.2.length ≤ 1000) ∧ (joinT (tokL s)).length ≤ 802) := HTO
  have hTL : (tokL s).length ≤ 802 := HTO.1
  clear hb1 HTO
  generalize (readTermL k vars s).nodes = ND at *
  generalize (readTermL k vars s).code = CO at *
  generalize (readTermL k vars s).place = PL at *
  generalize (readTermL k vars s).fine = FI at *
  generalize tokL s = R at *
  generalize tokP s = TP at *
  generalize tokB s = TB at *
  go_wp2_with fail
  refine g2.mono ?_
  rintro e w2 ⟨v2, rfl, ho2, hb2⟩
  have HB2 : Hid (Below w1.heap.size w1 w2) := hb2
  have HN2 : Hid (∀ w', Below w2.heap.size w2 w' → NodesAt w' v2 ND) := fun w' hb => (nodes_of_own HOKN.out (by omega) ho2).below hb
  obtain ⟨a2, c2, hvs2⟩ := own_shape ho2
  have g3 := G3.out w2
  clear g2 hb2 ho2 G3
  subst hvs2
  go_wp2_with fail
  refine g3.mono ?_
  rintro e w3 ⟨v3, rfl, ho3, hb3⟩
  have HB23 : Hid (Below w2.heap.size w2 w3) := hb3
  have HB3 : Hid (Below w1.heap.size w1 w3) := HB2.out.trans (hb3.mono HB2.out.size)
  have HN3 : Hid (∀ w', Below w3.heap.size w3 w' → NodesAt w' v3 ND) := fun w' hb => (nodes_of_own HOKN.out (by omega) ho3).below hb
  obtain ⟨a3, c3, hvs3⟩ := own_shape ho3
  have g4 := G4.out w3 HB3.out
  clear g3 hb3 ho3 G4
  subst hvs3
  go_wp2_with fail
  refine g4.mono ?_
  rintro e w4 ⟨v4, rfl, ho4, hb4⟩
  have HB34 : Hid (Below w3.heap.size w3 w4) := hb4
  have HB4 : Hid (Below w1.heap.size w1 w4) := HB3.out.trans (hb4.mono HB3.out.size)
  have HL4 : Hid (∀ w', Below w4.heap.size w4 w' → ToksAt w' v4 R) := fun w' hb => (toks_of_own (by omega) ho4).below hb
  obtain ⟨a4, c4, hvs4⟩ := own_shape ho4
  have g5 := G5.out w4
  clear g4 hb4 ho4 G5
  subst hvs4
  go_wp2_with fail
  refine g5.mono ?_
  rintro e w5 ⟨v5, rfl, ho5, hb5⟩
  have HB45 : Hid (Below w4.heap.size w4 w5) := hb5
  have HB5 : Hid (Below w1.heap.size w1 w5) := HB4.out.trans (hb5.mono HB4.out.size)
  have HL5 : Hid (∀ w', Below w5.heap.size w5 w' → ToksAt w' v5 R) := fun w' hb => (toks_of_own (by omega) ho5).below hb
  obtain ⟨a5, c5, hvs5⟩ := own_shape ho5
  have HB35 : Hid (Below w3.heap.size w3 w5) := HB34.out.trans (hb5.mono HB34.out.size)
  have HB25 : Hid (Below w2.heap.size w2 w5) := HB23.out.trans (HB35.out.mono HB23.out.size)
  have g6 := sameNodes_any _ _ ND w5 (HN2.out w5 HB25.out) (HN3.out w5 HB35.out)
  clear g5 hb5 ho5
  subst hvs5
  go_wp2_with fail
  refine g6.mono ?_
  rintro e w6 ⟨rfl, hb6⟩
  have HB56 : Hid (Below w5.heap.size w5 w6) := hb6
  clear g6 hb6
  generalize hRn : R.length = Rn at *
  have HRN : Hid (R.length = Rn) := hRn
  clear hRn
  go_wp2_with fail
  go_loopw [22, 109] (fun jv iv wr => ∃ i : Nat, i ≤ Rn ∧ iv = .int .i64 i ∧ jv = tx (joinT (R.take i)) ∧ Hid (Below w6.heap.size w6 wr)) (fun _ iv _ => Rn - (intOf iv).toNat)
  case atStart => exact ⟨0, by omega, rfl, rfl, Below.refl _ _⟩
  case round =>
    obtain ⟨i, hi, rfl, rfl, HBR⟩ := hrel
    have HB5R : Hid (Below w5.heap.size w5 wr) := HB56.out.trans (HBR.out.mono HB56.out.size)
    have HB4R : Hid (Below w4.heap.size w4 wr) := HB45.out.trans (HB5R.out.mono HB45.out.size)
    by_cases hlt' : i < Rn
    · obtain ⟨x, hx⟩ : ∃ x, R[i]? = some x := ⟨R[i]'(by rw [HRN.out]; exact hlt'), List.getElem?_eq_getElem _⟩
      obtain ⟨g4', o4, rfl, hg4, hcell4⟩ := (HL4.out wr HB4R.out).elem hx
      obtain ⟨g5', o5, rfl, hg5, hcell5⟩ := (HL5.out wr HB5R.out).elem hx
      obtain ⟨p0, p1⟩ := hcell4 i x hx
      obtain ⟨q0, q1⟩ := hcell5 i x hx
      have HJ : Hid (joinT (R.take (i + 1)) = joinT (R.take i) ++ x.2) := join_take hx
      have hjl := join_le R i
      have hjl2 := join_le R (i + 1)
      rw [HJ.out, List.length_append] at hjl2
      have hj802 := HTOR.out.2.2.2
      have hadd := fun W : World => add_tx (joinT (R.take i)) x.2 (by omega) W
      have hxb := HTOR.out.2.2.1 x (List.mem_of_getElem? hx)
      obtain ⟨xp, xs⟩ := x
      simp only at p0 p1 q0 q1 HJ hadd hxb hjl2
      have HORD : Hid (∀ (i' : Nat) (y : M.Tok), i = i' + 1 → R[i']? = some y → decide ((xp : Int) < (y.1 : Int) + (y.2.length : Int)) = false) := fun i' y e hy => by
        subst e
        have := HTOR.out.2.1 i' y (xp, xs) hy hx
        simp only at this
        exact decide_eq_false (by omega)
      generalize joinT (R.take i) = J0 at *
      generalize hJ01 : J0 ++ xs = J01 at *
      have HJ1 : Hid (joinT (R.take (i + 1)) = J01) := HJ.out
      clear HJ hJ01 hjl hjl2 hj802
      by_cases hi0 : i = 0
      · subst hi0
        simp only [Nat.zero_mul, Nat.add_zero] at p0 p1 q0 q1
        clear hcell4 hcell5 hx HORD
        go_wp2_with fail
        go_quiet (fail)
        all_goals
          go_wp2_with fail
          go_roundw
          case rel => exact ⟨1, by omega, by go_num, by rw [HJ1.out], HBR.out.trans (below_drewN ((Below.refl _ _).alloc (Nat.le_refl _) _) _ |>.mono HBR.out.size)⟩
          case measure => simp [intOf]; omega
      · obtain ⟨ip, hip⟩ : ∃ ip, i = ip + 1 := ⟨i - 1, by omega⟩
        obtain ⟨y, hy⟩ : ∃ y, R[ip]? = some y := ⟨R[ip]'(by rw [HRN.out]; omega), List.getElem?_eq_getElem _⟩
        have hord := HORD.out ip y hip hy
        obtain ⟨r0, r1⟩ := hcell4 ip y hy
        have hyb := HTOR.out.2.2.1 y (List.mem_of_getElem? hy)
        obtain ⟨yp, ys⟩ := y
        simp only at r0 r1 hord hyb
        have hid : (0 : Int) < (i : Int) := by omega
        have hidN : 0 < i := by omega
        have hidd : decide (0 < i) = true := decide_eq_true hidN
        have hide : decide ((0 : Int) < (i : Int)) = true := decide_eq_true hid
        have hw1 : (i : Int) - 1 = (ip : Int) := by omega
        have hw2 : IntKind.i64.wrap ((i : Int) - 1) = (ip : Int) := by rw [hw1]; exact IntWalk.i64_in _ ⟨by omega, by omega⟩
        have hlt3 : ip < Rn := by omega
        clear hcell4 hcell5 hx HORD hi0 hip hy
        go_wp2_with fail
        go_quiet (fail)
        all_goals
          go_wp2_with fail
          go_roundw
          case rel => exact ⟨i + 1, by omega, by go_num, by rw [HJ1.out], HBR.out.trans (below_drewN ((Below.refl _ _).alloc (Nat.le_refl _) _) _ |>.mono HBR.out.size)⟩
          case measure => simp [intOf]; omega
    · obtain rfl : i = Rn := by omega
      have HJA : Hid (R.take i = R) := by
        show R.take i = R
        rw [← HRN.out, List.take_length]
      rw [HJA.out]
      have HB1R : Hid (Below w1.heap.size w1 wr) := HB4.out.trans (HB4R.out.mono HB4.out.size)
      have HB2R : Hid (Below w2.heap.size w2 wr) := HB25.out.trans (HB5R.out.mono HB25.out.size)
      cases FI with
      | true =>
        obtain ⟨rfl, hTB2, hTX⟩ := HF1.out rfl
        have g7 := impl_TermText k vars _ ND wr (HT.out wr (HW.out wr HB1R.out)).three (HN2.out wr HB2R.out)
        rw [hTB2, hTX] at g7
        clear hTB2 hTX HF1 HF0
        generalize joinT R = J at *
        go_wp2_with fail
        refine g7.mono ?_
        rintro e w7 ⟨rfl, hb7⟩
        have HE : Hid (Below w.heap.size w w7) := HW.out w7 (HB1R.out.trans (hb7.mono HB1R.out.size))
        clear g7 hb7
        go_wp2_with fail
        go_ret
        exact ⟨rfl, HE.out⟩
      | false =>
        obtain ⟨hc0, hp0⟩ := HF0.out rfl
        have g7 := drawReadNum_any (.slice a1 l1 c1) wr (HC1.out wr (HW.out wr HB1R.out))
        clear HF1 HF0
        generalize joinT R = J at *
        go_wp2_with fail
        refine g7.mono ?_
        rintro e w7 ⟨u, hu, rfl, hb7⟩
        have HB7 : Hid (Below w1.heap.size w1 w7) := HB1R.out.trans (hb7.mono HB1R.out.size)
        clear g7 hb7
        have g8 := iReadNum_any u (by omega) w7 (HT.out w7 (HW.out w7 HB7.out)).pow (HT.out w7 (HW.out w7 HB7.out)).range (HT.out w7 (HW.out w7 HB7.out)).syn
        have G9 : Hid (∀ w', Calls Tryz.prog 25 #[tx u] w' fun e w'' => e = .returned (.tuple #[.int .u64 (readN u : Int), .bool (isNum u)]) ∧ Below w'.heap.size w' w'') := fun w' => sReadNum_any u (by omega) w'
        have G10 : Hid (isNum u = true → ∀ w', Below w1.heap.size w1 w' → Calls Tryz.prog 14 #[.int .u64 (readN u : Int)] w' fun e w'' => e = .returned (tx u) ∧ Below w'.heap.size w' w'') := fun hn w' hb => by
          have g := iNumText_any (readN u) (readN_lt u) w' (HT.out w' (HW.out w' hb)).pow
          rw [isNum_text hn] at g
          exact g
        generalize readN u = rn at *
        generalize isNum u = inb at *
        go_wp2_with fail
        refine g8.mono ?_
        rintro e w8 ⟨rfl, hb8⟩
        have HB8 : Hid (Below w1.heap.size w1 w8) := HB7.out.trans (hb8.mono HB7.out.size)
        have g9 := G9.out w8
        clear g8 hb8
        go_wp2_with fail
        refine g9.mono ?_
        rintro e w9 ⟨rfl, hb9⟩
        have HB9 : Hid (Below w1.heap.size w1 w9) := HB8.out.trans (hb9.mono HB8.out.size)
        clear g9 hb9
        have d1 : (0 : Int) < (CO : Int) := by omega
        have d2 : (0 : Int) ≤ (PL : Int) := by omega
        have d3 : (PL : Int) ≤ (s.length : Int) := by omega
        have d4 : decide (PL ≤ s.length) = true := decide_eq_true hp0
        cases inb with
        | true =>
          have g10 := G10.out rfl w9 HB9.out
          go_wp2_with fail
          refine g10.mono ?_
          rintro e w10 ⟨rfl, hb10⟩
          have HE : Hid (Below w.heap.size w w10) := HW.out w10 (HB9.out.trans (hb10.mono HB9.out.size))
          clear g10 hb10
          go_wp2_with fail
          go_ret
          exact ⟨rfl, HE.out⟩
        | false =>
          have HE : Hid (Below w.heap.size w w9) := HW.out w9 HB9.out
          go_wp2_with fail
          go_ret
          exact ⟨rfl, HE.out⟩
end Go.Proofs.YtkfplichekebdaaGreatDoor
