/-
  Plain mathematics: what ReadTerm answers, that it gives a term back from its text, and that what it reads has this text.
  The model's ReadTerm.
  The program's ReadTerm.
  The walk of the exact law of ReadTerm.
-/
import Derived.Test.YtkfplichekebdaaDoorTextB
import Derived.Test.YtkfplichekebdaaDoorFrontM
import Derived.Test.YtkfplichekebdaaDoorKEReadTerm1
import Derived.Test.YtkfplichekebdaaDoorMarks
import Derived.Test.YtkfplichekebdaaDoorLTurn
namespace Go.Proofs.YtkfplichekebdaaDoor
open Go
open M
set_option linter.unusedVariables false

theorem Tr.kind_of_ok {wide vars : Int} {t : Tr} (h : t.Ok wide vars) : t.kind ≠ 0 := by
  cases t with
  | leaf x => exact h.1
  | one x a => exact h.1
  | two x a b => exact h.1
structure RdAns where
  nodes : List Nd
  code : Nat
  place : Nat
  fine : Bool
/-- what is answered out of what is read -/
def ansOf : Except (Nat × Nat) (Tr × List M.Tok) → RdAns
  | .error e => ⟨[], e.1, e.2, false⟩
  | .ok (t, []) => if t.size ≤ 48 then ⟨t.flat, 0, 0, true⟩ else ⟨[], 7, 0, false⟩
  | .ok (_, x :: _) => ⟨[], 3, x.1, false⟩
/-- what ReadTerm answers -/
def readTermL (wide vars : Int) (s : Tx) : RdAns :=
  if ¬ (wideB wide = true ∧ 1 ≤ vars ∧ vars ≤ 4 ∧ s.length ≤ 800) then ⟨[], 1, 0, false⟩
  else match tokens s with
    | .error p => ⟨[], 2, p, false⟩
    | .ok l => ansOf (readT wide vars s.length (l.length + 1) l)
theorem readTermL_bad {wide vars : Int} {s : Tx} (h : ¬ (wideB wide = true ∧ 1 ≤ vars ∧ vars ≤ 4 ∧ s.length ≤ 800)) : readTermL wide vars s = ⟨[], 1, 0, false⟩ := by
  unfold readTermL
  rw [if_pos h]
theorem readTermL_byte {wide vars : Int} {s : Tx} {p : Nat} (h : wideB wide = true ∧ 1 ≤ vars ∧ vars ≤ 4 ∧ s.length ≤ 800) (ht : tokens s = .error p) : readTermL wide vars s = ⟨[], 2, p, false⟩ := by
  unfold readTermL
  rw [if_neg (fun g => g h), ht]
theorem readTermL_toks {wide vars : Int} {s : Tx} {l : List M.Tok} (h : wideB wide = true ∧ 1 ≤ vars ∧ vars ≤ 4 ∧ s.length ≤ 800) (ht : tokens s = .ok l) : readTermL wide vars s = ansOf (readT wide vars s.length (l.length + 1) l) := by
  unfold readTermL
  rw [if_neg (fun g => g h), ht]
theorem tokens_many {s : Tx} {l : List M.Tok} (h : tokens s = .ok l) : l.length ≤ s.length ∧ ∀ x ∈ l, 1 ≤ x.2.length ∧ x.2.length ≤ s.length ∧ x.1 ≤ s.length := by
  obtain ⟨h1, _, h3⟩ := toksL_order _ _ _ _ h
  constructor
  · refine Nat.le_trans ?_ h3
    have key : ∀ m : List M.Tok, (∀ x ∈ m, 1 ≤ x.2.length) → m.length ≤ (joinT m).length := by
      intro m
      induction m with
      | nil => intro _; simp
      | cons a m ih =>
        intro hm
        have h1 := hm a (by simp)
        have h2 := ih (fun x hx => hm x (by simp [hx]))
        simp only [joinT, List.length_cons, List.length_append]
        omega
    exact key l (fun x hx => (h1 x hx).2.2)
  · intro x hx
    have := h1 x hx
    omega
/-- the answer's nodes are few -/
theorem readTermL_len (wide vars : Int) (s : Tx) : (readTermL wide vars s).nodes.length ≤ 48 := by
  unfold readTermL
  split
  · simp
  · split
    · simp
    · unfold ansOf
      split
      · simp
      · split
        · rename_i t h
          simp only [Tr.flat_len]
          exact h
        · simp
      · simp
/-- the answer's nodes are nodes of words -/
theorem wd_flat : ∀ (t : Tr) (wide vars : Int), t.Ok wide vars → Wd t → ∀ x ∈ t.flat, NdOk x
  | .leaf x, wide, vars, h, hw => by
    intro y hy
    simp only [Tr.flat, List.mem_singleton] at hy
    subst hy
    have h1 := h.1
    have : 1 ≤ y.1 ∧ y.1 ≤ 20 := by
      unfold ownOf at h1
      split at h1
      · omega
      · split at h1
        · omega
        · exact absurd rfl h1
    exact ⟨by omega, by omega, hw.1, by have := hw.2; omega⟩
  | .one x a, wide, vars, h, hw => by
    obtain ⟨h1, h2, h3, h4, h5⟩ := h
    intro y hy
    simp only [Tr.flat, List.mem_append, List.mem_singleton] at hy
    rcases hy with hy | rfl
    · exact wd_flat a wide vars h5 hw y hy
    · have := op_one h3
      have h0 : y.2 = 0 := okN_none h2 (by omega) (by omega) (by omega)
      exact ⟨by omega, by omega, by omega, by omega⟩
  | .two x a b, wide, vars, h, hw => by
    obtain ⟨h1, h2, h3, h4, h4', h5, h6⟩ := h
    intro y hy
    simp only [Tr.flat, List.mem_append, List.mem_singleton] at hy
    rcases hy with (hy | hy) | rfl
    · exact wd_flat a wide vars h5 hw.1 y hy
    · exact wd_flat b wide vars h6 hw.2 y hy
    · have := op_two_range h3
      have h0 : y.2 = 0 := okN_none h2 (by omega) (by omega) (by omega)
      exact ⟨by omega, by omega, by omega, by omega⟩
theorem readTermL_ok (wide vars : Int) (s : Tx) : ∀ x ∈ (readTermL wide vars s).nodes, NdOk x := by
  by_cases hg : wideB wide = true ∧ 1 ≤ vars ∧ vars ≤ 4 ∧ s.length ≤ 800
  · cases ht : tokens s with
    | error p =>
      rw [readTermL_byte hg ht]
      intro x hx
      cases hx
    | ok l =>
      rw [readTermL_toks hg ht]
      cases hr : readT wide vars s.length (l.length + 1) l with
      | error e =>
        intro x hx
        cases hx
      | ok tr =>
        obtain ⟨t, r⟩ := tr
        obtain ⟨_, h2, h3⟩ := readT_ok hg.2.2.1 _ _ _ _ hr
        match r with
        | [] =>
          simp only [ansOf]
          split
          · exact wd_flat t wide vars h2 h3
          · intro x hx
            cases hx
        | x :: r =>
          intro x hx
          cases hx
  · rw [readTermL_bad hg]
    intro x hx
    cases hx
/-- a term is read back from its text -/
theorem readTerm_back {wide vars : Int} {t : List Nd} (ht : ∀ x ∈ t, NdOk x) (h : textB wide vars t = true) : readTermL wide vars (textL wide vars t) = ⟨t, 0, 0, true⟩ := by
  by_cases hk : 0 < kindL wide vars t
  · obtain ⟨h1, h2, h3, _, h5, r, hr, hok, hfl, _⟩ := root_tree hk
    by_cases h8 : (trText r).length ≤ 800
    · obtain ⟨_, e2⟩ := textB_yes hk hr h8
      have hwd : Wd r := by
        have key : ∀ r : Tr, (∀ x ∈ r.flat, NdOk x) → Wd r := by
          intro r
          induction r with
          | leaf x => intro h; have := h x (by simp [Tr.flat]); exact ⟨this.2.2.1, by have := this.2.2.2; omega⟩
          | one x a ih => intro h; exact ih (fun y hy => h y (by simp [Tr.flat, hy]))
          | two x a c iha ihc => intro h; exact ⟨iha (fun y hy => h y (by simp [Tr.flat, hy])), ihc (fun y hy => h y (by simp [Tr.flat, hy]))⟩
        exact key r (by rw [hfl]; exact ht)
      have hT := tokens_text h3 r hok hwd
      rw [e2, readTermL_toks ⟨h1, h2, h3, h8⟩ hT]
      have hb := readT_back (long := (trText r).length) h3 r ((trToks 0 r).length + 1) 0 [] hok hwd (by have := trToks_len r 0; omega)
      rw [List.append_nil] at hb
      rw [hb]
      simp only [ansOf]
      rw [if_pos (by rw [← Tr.flat_len, hfl]; exact h5), hfl]
    · rw [(textB_long hk hr h8).1] at h
      cases h
  · rw [(textB_no hk).1] at h
    cases h
/-- a text that is read is, but for its blanks, the text of what is read -/
theorem readTerm_printed {wide vars : Int} {s : Tx} (h : (readTermL wide vars s).fine = true) : ∃ l, tokens s = .ok l ∧ textB wide vars (readTermL wide vars s).nodes = true ∧ textL wide vars (readTermL wide vars s).nodes = joinT l := by
  by_cases hg : wideB wide = true ∧ 1 ≤ vars ∧ vars ≤ 4 ∧ s.length ≤ 800
  · cases ht : tokens s with
    | error p =>
      rw [readTermL_byte hg ht] at h
      cases h
    | ok l =>
      rw [readTermL_toks hg ht] at h ⊢
      cases hr : readT wide vars s.length (l.length + 1) l with
      | error e =>
        rw [hr] at h
        cases h
      | ok tr =>
        rw [hr] at h
        obtain ⟨t, r⟩ := tr
        obtain ⟨j1, h2, h3⟩ := readT_ok hg.2.2.1 _ _ _ _ hr
        match r, h, j1 with
        | [], h, j1 =>
          simp only [ansOf] at h ⊢
          split at h
          · rename_i hs
            rw [if_pos hs]
            obtain ⟨k1, k2⟩ := root_of_flat h2 hg.1 hg.2.1 hg.2.2.1 hs
            have hj : trText t = joinT l := by simpa [joinT] using j1
            have hlen := (toksL_order _ _ _ _ ht).2.2
            have := textB_yes k1 k2 (by rw [hj]; have := hg.2.2.2; omega)
            exact ⟨l, rfl, this.1, by rw [this.2, hj]⟩
          · cases h
        | x :: r, h, _ => cases h
  · rw [readTermL_bad hg] at h
    cases h
/-- a fault has a code and a place in the text -/
theorem readTerm_fault {wide vars : Int} {s : Tx} (h : (readTermL wide vars s).fine = false) : 0 < (readTermL wide vars s).code ∧ (readTermL wide vars s).place ≤ s.length := by
  by_cases hg : wideB wide = true ∧ 1 ≤ vars ∧ vars ≤ 4 ∧ s.length ≤ 800
  · cases ht : tokens s with
    | error p =>
      rw [readTermL_byte hg ht]
      have := toksL_fault _ _ _ _ ht
      exact ⟨by show 0 < 2; omega, by show p ≤ _; omega⟩
    | ok l =>
      rw [readTermL_toks hg ht] at h ⊢
      have hm := (tokens_many ht).2
      cases hr : readT wide vars s.length (l.length + 1) l with
      | error e =>
        have := readT_fault _ _ _ (fun x hx => (hm x hx).2.2) hr
        exact ⟨by show 0 < e.1; omega, this.2⟩
      | ok tr =>
        rw [hr] at h
        obtain ⟨t, r⟩ := tr
        match r, h, hr with
        | [], h, hr =>
          simp only [ansOf] at h ⊢
          split at h
          · cases h
          · rename_i hs
            rw [if_neg hs]
            exact ⟨by decide, Nat.zero_le _⟩
        | x :: r, h, hr =>
          obtain ⟨m, e, _⟩ := readT_front wide vars _ _ _ _ _ hr
          exact ⟨by show 0 < 3; omega, (hm x (by rw [e]; simp)).2.2⟩
  · rw [readTermL_bad hg]
    exact ⟨by decide, Nat.zero_le _⟩
theorem readTerm_small (wide vars : Int) (s : Tx) (h8 : s.length ≤ 1000) : (readTermL wide vars s).code ≤ 7 ∧ (readTermL wide vars s).place ≤ 1000 := by
  by_cases hg : wideB wide = true ∧ 1 ≤ vars ∧ vars ≤ 4 ∧ s.length ≤ 800
  · cases ht : tokens s with
    | error p =>
      rw [readTermL_byte hg ht]
      have := toksL_fault _ _ _ _ ht
      exact ⟨by show 2 ≤ 7; omega, by show p ≤ _; omega⟩
    | ok l =>
      rw [readTermL_toks hg ht]
      have hm := (tokens_many ht).2
      cases hr : readT wide vars s.length (l.length + 1) l with
      | error e =>
        have := readT_fault _ _ _ (fun x hx => (hm x hx).2.2) hr
        exact ⟨by show e.1 ≤ 7; omega, by show e.2 ≤ _; omega⟩
      | ok tr =>
        obtain ⟨t, r⟩ := tr
        match r, hr with
        | [], hr =>
          simp only [ansOf]
          split <;> exact ⟨by simp, Nat.zero_le _⟩
        | x :: r, hr =>
          obtain ⟨m, e, _⟩ := readT_front wide vars _ _ _ _ _ hr
          exact ⟨by show 3 ≤ 7; omega, by have := (hm x (by rw [e]; simp)).2.2; show x.1 ≤ _; omega⟩
  · rw [readTermL_bad hg]
    exact ⟨by decide, Nat.zero_le _⟩
end Go.Proofs.YtkfplichekebdaaDoor

namespace Go.Proofs.YtkfplichekebdaaDoor
open Go Go.RowKit
open M
set_option linter.unusedVariables false

theorem results_four {fn : Func} {t u v x : Tmp} (h : fn.results = #[.tmp t, .tmp u, .tmp v, .tmp x]) (tmps : Array Value) (P : Program) (w : World) :
    (results fn tmps).run P w = .ok (.tuple #[tmps.getD t undef, tmps.getD u undef, tmps.getD v undef, tmps.getD x undef]) w := by
  simp [results, h]
theorem rdTerm_any {wide vars : Int} (hv : vars ≤ 4) (long : Nat) : ∀ f, TermP wide vars long f
  | 0 => fun w b Bo vt vo l o h hol hok hf => by omega
  | f + 1 => fun w b Bo vt vo l o h hol hok hf => by
    match l, h, hol, hok, hf with
    | [], h, hol, hok, hf => exact term_nil h
    | (p, []) :: l, h, hol, hok, hf =>
      have := (hok (p, []) (by simp)).1
      simp at this
    | (p, ch :: q) :: l, h, hol, hok, hf =>
      have hs := (hok (p, ch :: q) (by simp)).2
      have hok2 : ∀ x ∈ l, 1 ≤ x.2.length ∧ x.2.length ≤ 800 := fun x hx => hok x (by simp [hx])
      have hol2 : o.length + (l.length + 1) ≤ 900 := by simpa using hol
      have hf2 : l.length < f := by simpa using hf
      cases hlf : isLeaf (ch :: q) with
      | true => exact term_leaf h hol2 hs hlf
      | false =>
        by_cases h2 : ch :: q = [126] ∨ ch :: q = [33]
        · exact term_turn hv (rdTerm_any hv long f) h h2 hol2 hok2 hf2
        · by_cases h3 : ch :: q = [40]
          · rw [h3] at h ⊢
            exact term_pair hv (rdTerm_any hv long f) h hol2 hok2 hf2
          · exact term_none h hlf h2 h3 hs
/-- the reader as it is made -/
theorem rd_new {w w1 : World} {tv : Value} {l : List M.Tok} (wide vars : Int) (long : Nat) (ho : OwnToks w1 w.heap.size tv l) (hl : l.length ≤ 1000) :
    RdAt (w1.alloc (.cells (rdCells wide vars tv long (.slice none 0 0) 0 0) 72)) w1.heap.size (w1.heap.size + 1) wide vars long tv (.slice none 0 0) l [] 0 0 := by
  have hA : Below w1.heap.size w1 (w1.alloc (.cells (rdCells wide vars tv long (.slice none 0 0) 0 0) 72)) := (Below.refl _ _).alloc (Nat.le_refl _) _
  refine ⟨heap_alloc_new _ _, ?_, World.ownsRow_nil _ _ _ _, by omega, by simp, hl, by simp⟩
  obtain ⟨_, h⟩ := (toks_of_own (by omega) ho).below hA
  rcases h with h | ⟨g, off, cap, hv, hg, hc⟩
  · exact Or.inl h
  · have hg1 : g < w1.heap.size := by
      have h1 := toks_of_own (by omega) ho
      rcases h1.2 with ⟨h2, a, cap', h3⟩ | ⟨g', off', cap', h3, h4, _⟩
      · rw [h3] at hv
        simp only [Value.slice.injEq] at hv
        by_cases hb : g < w1.heap.size
        · exact hb
        · exfalso
          rcases ho.2 with ⟨h5, _⟩ | ⟨g5, cap5, cur5, h5, _, h6, _⟩
          · rw [h5] at h3
            simp only [Value.slice.injEq] at h3
            rw [← h3.1] at hv
            cases hv.1
          · rw [h5] at h3
            simp only [Value.slice.injEq] at h3
            rw [← h3.1] at hv
            have e := hv.1
            simp only [Option.some.injEq, Addr.mk.injEq] at e
            have := (Array.getElem?_eq_some_iff.1 h6).1
            omega
      · rw [h3] at hv
        simp only [Value.slice.injEq, Option.some.injEq, Addr.mk.injEq] at hv
        omega
    exact Or.inr ⟨g, off, max cap l.length, by
      rcases ho.2 with ⟨h5, h6⟩ | ⟨g5, cap5, cur5, h5, _, _, h7, _⟩
      · rw [h5] at hv
        cases hv
      · rw [h5] at hv ⊢
        simp only [Value.slice.injEq, Option.some.injEq, Addr.mk.injEq] at hv ⊢
        refine ⟨hv.1, trivial, ?_⟩
        omega, ⟨hg1, by omega⟩, hc⟩
theorem keep_end {w w1 w3 : World} {b : Nat} {x y : Value} (hb : Below w.heap.size w w1) (hk : Keep b w1 w3 x y) (h1 : w.heap.size ≤ b) (hx : x.ownBlock = none) : Below w.heap.size w w3 :=
  hb.trans ⟨hk.os, hk.tape, hk.output, hk.size, fun k hk' => hk.block k (Nat.lt_of_lt_of_le hk' hb.size) (by omega) (by rw [hx]; simp)⟩

set_option maxRecDepth 100000 in
set_option maxHeartbeats 2000000 in
theorem sReadTerm_bad (wide vars : Int) (s : Tx) (hl : s.length ≤ 9223372036854775807) (h : ¬ (wideB wide = true ∧ 1 ≤ vars ∧ vars ≤ 4 ∧ s.length ≤ 800)) (w : World) :
    Calls Tryd.prog 23 #[.int .i64 wide, .int .i64 vars, tx s] w fun e w' => e = .returned (.tuple #[.slice none 0 0, .int .i64 1, .int .i64 0, .bool false]) ∧ w' = w := by
  have g1 := l1Wide_any wide w
  cases hw : wideB wide with
  | false =>
    rw [hw] at g1
    go_enter Tryd.func23, Tryd.ntmps23
    go_wp2_with fail
    refine g1.mono ?_
    rintro e w1 ⟨rfl, rfl⟩
    go_wp2_with fail
    refine bodyPost_ret (results_four rfl _ _ _) rfl ?_
    exact ⟨rfl, rfl⟩
  | true =>
    rw [hw] at g1
    by_cases hv : 1 ≤ vars ∧ vars ≤ 4
    · have g2 := l1In_yes vars 1 4 hv w
      have h8 : 800 < s.length := by
        by_cases h8 : s.length ≤ 800
        · exact absurd ⟨hw, hv.1, hv.2, h8⟩ h
        · omega
      have hlt : (800 : Int) < (s.length : Int) := by omega
      clear h
      go_enter Tryd.func23, Tryd.ntmps23
      go_wp2_with fail
      refine g1.mono ?_
      rintro e w1 ⟨rfl, rfl⟩
      go_wp2_with fail
      refine g2.mono ?_
      rintro e w1 ⟨rfl, rfl⟩
      go_wp2_with fail
      refine bodyPost_ret (results_four rfl _ _ _) rfl ?_
      exact ⟨rfl, rfl⟩
    · have g2 := l1In_no vars 1 4 hv w
      clear h
      go_enter Tryd.func23, Tryd.ntmps23
      go_wp2_with fail
      refine g1.mono ?_
      rintro e w1 ⟨rfl, rfl⟩
      go_wp2_with fail
      refine g2.mono ?_
      rintro e w1 ⟨rfl, rfl⟩
      go_wp2_with fail
      refine bodyPost_ret (results_four rfl _ _ _) rfl ?_
      exact ⟨rfl, rfl⟩
theorem tok_vals {s : Tx} (h : s.length ≤ 800) : (∀ p, tokens s = .error p → tokL s = [] ∧ tokP s = p ∧ tokB s = false) ∧ (∀ l, tokens s = .ok l → tokL s = l ∧ tokP s = 0 ∧ tokB s = true) := by
  constructor <;>
  · intro x e
    unfold tokL tokP tokB
    rw [if_pos h, if_pos h, if_pos h, e]
    exact ⟨rfl, rfl, rfl⟩
set_option maxRecDepth 100000 in
set_option maxHeartbeats 4000000 in
theorem sReadTerm_in (wide vars : Int) (s : Tx) (h : wideB wide = true ∧ 1 ≤ vars ∧ vars ≤ 4 ∧ s.length ≤ 800) (w : World) :
    Calls Tryd.prog 23 #[.int .i64 wide, .int .i64 vars, tx s] w fun e w' => ∃ v, e = .returned (.tuple #[v, .int .i64 ((readTermL wide vars s).code : Int), .int .i64 ((readTermL wide vars s).place : Int), .bool (readTermL wide vars s).fine]) ∧ OwnNodes w' w.heap.size v (readTermL wide vars s).nodes ∧ Below w.heap.size w w' := by
  have g1 := l1Wide_any wide w
  rw [h.1] at g1
  have g2 := l1In_yes vars 1 4 ⟨h.2.1, h.2.2.1⟩ w
  have g3 := sTokensOf_in s h.2.2.2 w
  have h8 : (s.length : Int) ≤ 800 := by have := h.2.2.2; omega
  have h8d : decide ((800 : Int) < (s.length : Int)) = false := decide_eq_false (by omega)
  obtain ⟨hve, hvo⟩ := tok_vals h.2.2.2
  cases ht : tokens s with
  | error p =>
    obtain ⟨e1, e2, e3⟩ := hve p ht
    rw [e1, e2, e3] at g3
    rw [readTermL_byte h ht]
    simp only
    clear h hve hvo ht e1 e2 e3
    go_enter Tryd.func23, Tryd.ntmps23
    go_wp2_with fail
    refine g1.mono ?_
    rintro e w1 ⟨rfl, rfl⟩
    go_wp2_with fail
    refine g2.mono ?_
    rintro e w1 ⟨rfl, rfl⟩
    go_wp2_with fail
    refine g3.mono ?_
    rintro e w2 ⟨v, rfl, _, hb⟩
    have HB : Hid (Below w1.heap.size w1 w2) := hb
    clear g1 g2 g3 hb
    go_wp2_with fail
    refine bodyPost_ret (results_four rfl _ _ _) rfl ?_
    exact ⟨_, rfl, World.ownsRow_nil _ _ _ _, HB.out⟩
  | ok l =>
    obtain ⟨e1, e2, e3⟩ := hvo l ht
    rw [e1, e2, e3] at g3
    have hA := readTermL_toks h ht
    have hm := tokens_many ht
    have HM : Hid (l.length ≤ s.length ∧ s.length ≤ 800 ∧ vars ≤ 4 ∧ ∀ x ∈ l, 1 ≤ x.2.length ∧ x.2.length ≤ s.length ∧ x.1 ≤ s.length) := ⟨hm.1, h.2.2.2, h.2.2.1, hm.2⟩
    rw [hA]
    clear h hve hvo ht e1 e2 e3 hA hm
    generalize hAA : ansOf (readT wide vars s.length (l.length + 1) l) = A at *
    have HA : Hid (ansOf (readT wide vars s.length (l.length + 1) l) = A) := hAA
    clear hAA
    have HT : Hid (∀ (w1 : World) (tv : Value), OwnToks w1 w.heap.size tv l → Calls Tryd.prog 45 #[ptr w1.heap.size] (w1.alloc (.cells (rdCells wide vars tv s.length (.slice none 0 0) 0 0) 72)) (TermQ wide vars s.length (l.length + 1) w1.heap.size (w1.heap.size + 1) (.slice none 0 0) l [] (w1.alloc (.cells (rdCells wide vars tv s.length (.slice none 0 0) 0 0) 72)))) := fun w1 tv ho =>
      rdTerm_any HM.out.2.2.1 s.length (l.length + 1) _ _ _ _ _ l [] (rd_new wide vars s.length ho (by have := HM.out.1; have := HM.out.2.1; omega)) (by have := HM.out.1; have := HM.out.2.1; simp; omega) (fun x hx => ⟨(HM.out.2.2.2 x hx).1, by have := (HM.out.2.2.2 x hx).2.1; have := HM.out.2.1; omega⟩) (by omega)
    have HC : Hid (∀ e, readT wide vars s.length (l.length + 1) l = .error e → 3 ≤ e.1 ∧ e.1 ≤ 6) := fun e he => (readT_fault _ _ _ (fun x hx => (HM.out.2.2.2 x hx).2.2) he).1
    have HP : Hid (∀ (t : Tr) r1, readT wide vars s.length (l.length + 1) l = .ok (t, r1) → 1 ≤ t.kind ∧ t.kind ≤ 2) := fun t r1 hr => kind_pos_of (readT_ok HM.out.2.2.1 _ _ _ _ hr).2.1
    go_enter Tryd.func23, Tryd.ntmps23
    go_wp2_with fail
    refine g1.mono ?_
    rintro e w1 ⟨rfl, rfl⟩
    go_wp2_with fail
    refine g2.mono ?_
    rintro e w1 ⟨rfl, rfl⟩
    go_wp2_with fail
    refine g3.mono ?_
    rintro e w2 ⟨tv, rfl, hot, hb⟩
    have HB : Hid (Below w1.heap.size w1 w2) := hb
    have gt := HT.out w2 tv hot
    obtain ⟨ta, tc, hsh⟩ := own_shape hot
    clear g1 g2 g3 hb HT hot
    subst hsh
    go_wp2_with fail
    refine gt.mono ?_
    rintro e w3 (⟨t, r1, hr, rfl, hto⟩ | ⟨c', q, l', o', hr, rfl, hto⟩)
    · have hkp := HP.out t r1 hr
      have hk0 : decide ((0 : Int) < t.kind) = true := decide_eq_true (by omega)
      have hv : ansOf (.ok (t, r1)) = A := by rw [← hr]; exact HA.out
      obtain ⟨vt3, vo3, h3, hk3⟩ := hto
      have hbe := keep_end (w := w1) (HB.out.trans (((Below.refl _ _).alloc (Nat.le_refl _) _).mono HB.out.size)) hk3 HB.out.size rfl
      have HBE : Hid (Below w1.heap.size w1 w3) := hbe
      have hsz3 : w1.heap.size ≤ w2.heap.size + 1 := by have := HB.out.size; omega
      have hown : OwnNodes w3 w1.heap.size vo3 t.flat := OwnNodes.low (by simpa using h3.own) hsz3
      have HOW : Hid (OwnNodes w3 w1.heap.size vo3 t.flat) := hown
      obtain ⟨x0, x1, x2, x3, x4, x5, x6⟩ := h3.cell
      obtain ⟨va, vc, hvs⟩ := own_shape hown
      have hfl : t.flat.length = t.size := Tr.flat_len t
      rw [hfl] at hvs
      match r1, h3, hv with
      | [], h3, hv =>
        obtain ⟨tb, td, hsh⟩ := h3.toks.shape
        simp only [List.length_nil] at hsh
        have hts : t.size ≤ 1000 := by have := h3.some; simp only [List.nil_append, hfl] at this; exact this
        simp only [ansOf] at hv
        by_cases hs48 : t.size ≤ 48
        · rw [if_pos hs48] at hv
          subst hv
          have h48 : decide ((48 : Int) < (t.size : Int)) = false := decide_eq_false (by omega)
          subst hsh hvs
          clear gt hr h3 hk3 hbe hown HM HP HC hfl HA
          generalize t.kind = kk at *
          generalize t.size = ts at *
          go_wp2_with fail
          refine bodyPost_ret (results_four rfl _ _ _) rfl ?_
          exact ⟨_, rfl, HOW.out, HBE.out⟩
        · rw [if_neg hs48] at hv
          subst hv
          have h48 : (48 : Int) < (t.size : Int) := by omega
          subst hsh hvs
          clear gt hr h3 hk3 hbe hown HM HP HC hfl HA
          generalize t.kind = kk at *
          generalize t.size = ts at *
          go_wp2_with fail
          refine bodyPost_ret (results_four rfl _ _ _) rfl ?_
          exact ⟨_, rfl, World.ownsRow_nil _ _ _ _, HBE.out⟩
      | (xp, xs) :: r2, h3, hv =>
        obtain ⟨tb, td, hsh⟩ := h3.toks.shape
        have gf := fault_any h3 3
        have hr2 : r2.length + 1 ≤ 1000 := by have := h3.many; simpa using this
        have hlen : (((xp, xs) :: r2).length : Int) = (r2.length : Int) + 1 := by simp
        simp only [ansOf] at hv
        subst hv
        simp only [List.length_cons] at hsh
        have HBF : Hid (∀ w4, RdTo w3 w4 w2.heap.size (w2.heap.size + 1) vo3 wide vars s.length ((xp, xs) :: r2) ([] ++ t.flat) 3 (xp : Int) → Below w1.heap.size w1 w4 ∧ w4.cell? ⟨w2.heap.size, 5, none⟩ = some (.int .i64 3) ∧ w4.cell? ⟨w2.heap.size, 6, none⟩ = some (.int .i64 (xp : Int))) := by
          intro w4 hr4
          obtain ⟨vt4, vo4, h4, hk4⟩ := hr4
          exact ⟨keep_end (w := w1) (HB.out.trans (((Below.refl _ _).alloc (Nat.le_refl _) _).mono HB.out.size)) (hk3.trans hk4) HB.out.size rfl, h4.cell.2.2.2.2.2.1, h4.cell.2.2.2.2.2.2⟩
        subst hsh
        clear hr h3 hk3 hbe hown HM HP HC hfl HOW HBE hvs gt HA
        generalize t.kind = kk at *
        go_wp2_with fail
        refine gf.mono ?_
        rintro e w4 ⟨rfl, hr4⟩
        obtain ⟨hb4, z5, z6⟩ := HBF.out w4 hr4
        have HB4 : Hid (Below w1.heap.size w1 w4) := hb4
        clear gf hr4 hb4 HBF
        go_wp2_with fail
        go_region
        all_goals
          go_wp2_with fail
          refine bodyPost_ret (results_four rfl _ _ _) rfl ?_
          exact ⟨_, rfl, World.ownsRow_nil _ _ _ _, below_drewN HB4.out _⟩
    · have hc := HC.out _ hr
      have hv : ansOf (.error (c', q)) = A := by rw [← hr]; exact HA.out
      simp only [ansOf] at hv
      subst hv
      obtain ⟨vt3, vo3, h3, hk3⟩ := hto
      have HBE : Hid (Below w1.heap.size w1 w3) := keep_end (w := w1) (HB.out.trans (((Below.refl _ _).alloc (Nat.le_refl _) _).mono HB.out.size)) hk3 HB.out.size rfl
      obtain ⟨x0, x1, x2, x3, x4, x5, x6⟩ := h3.cell
      have hc0 : (0 : Int) < (c' : Int) := by simp only at hc; omega
      clear gt hr h3 hk3 HM HP HC HA
      go_wp2_with fail
      go_region
      all_goals
        go_wp2_with fail
        refine bodyPost_ret (results_four rfl _ _ _) rfl ?_
        exact ⟨_, rfl, World.ownsRow_nil _ _ _ _, below_drewN HBE.out _⟩
/-- what the model's ReadTerm answers -/
theorem sReadTerm_any (wide vars : Int) (s : Tx) (hl : s.length ≤ 9223372036854775807) (w : World) :
    Calls Tryd.prog 23 #[.int .i64 wide, .int .i64 vars, tx s] w fun e w' => ∃ v, e = .returned (.tuple #[v, .int .i64 ((readTermL wide vars s).code : Int), .int .i64 ((readTermL wide vars s).place : Int), .bool (readTermL wide vars s).fine]) ∧ OwnNodes w' w.heap.size v (readTermL wide vars s).nodes ∧ Below w.heap.size w w' := by
  by_cases h : wideB wide = true ∧ 1 ≤ vars ∧ vars ≤ 4 ∧ s.length ≤ 800
  · exact sReadTerm_in wide vars s h w
  · rw [readTermL_bad h]
    refine (sReadTerm_bad wide vars s hl h w).mono ?_
    rintro e w' ⟨rfl, rfl⟩
    exact ⟨_, rfl, World.ownsRow_nil _ _ _ _, Below.refl _ _⟩
end Go.Proofs.YtkfplichekebdaaDoor

namespace Go.Proofs.YtkfplichekebdaaDoor
open Go Go.RowKit
open M
set_option linter.unusedVariables false

theorem pTerm_any {wide vars : Int} (hv : vars ≤ 4) (hv0 : 0 ≤ vars) (long : Nat) : ∀ f, PTermP wide vars long f
  | 0 => fun w b vt l h hok hf => by omega
  | f + 1 => fun w b vt l h hok hf => by
    match l, h, hok, hf with
    | [], h, hok, hf =>
      exact pterm_other (vt := vt) hv hv0 long [] (take_nil h) (by simp) (by simp) (by simp) (by simp) (fun g => by cases g) (fun _ => rfl)
    | (p, s) :: l, h, hok, hf =>
      have hs := hok (p, s) (by simp)
      have hok2 : ∀ x ∈ l, 1 ≤ x.2.length ∧ x.2.length ≤ 800 := fun x hx => hok x (by simp [hx])
      have hf2 : l.length < f := by simpa using hf
      by_cases h1 : s = [40]
      · subst h1
        exact pterm_pair hv (pTerm_any hv hv0 long f) h hok2 hf2
      · by_cases h2 : s = [126] ∨ s = [33]
        · exact pterm_turn hv (pTerm_any hv hv0 long f) h h2 hok2 hf2
        · refine pterm_other (vt := vt) hv hv0 p s (take_cons h) hs.2 h1 (fun e => h2 (Or.inl e)) (fun e => h2 (Or.inr e)) (fun g => ?_) (fun g => ?_)
          · simp only [readT]
            rw [if_pos g]
            rfl
          · simp only [readT]
            rw [if_neg (by rw [g]; decide), if_neg h2, if_pos h1]
/-- how whole ends -/
def WholeQ (wide vars : Int) (long f b : Nat) (l : List M.Tok) (w : World) (e : Ending) (w' : World) : Prop :=
  (∃ t k, readT wide vars long f l = .ok (t, []) ∧ e = .returned (ptr k) ∧ TrAt w' (ButB b w') t k ∧ PrTo w w' b wide vars long [] 0 0) ∨
  (∃ c p l', ansOf (readT wide vars long f l) = ⟨[], c, p, false⟩ ∧ e = .returned (.pointer none) ∧ PrTo w w' b wide vars long l' (c : Int) (p : Int))
set_option maxRecDepth 100000 in
set_option maxHeartbeats 2000000 in
theorem whole_any {wide vars : Int} (hv : vars ≤ 4) (hv0 : 0 ≤ vars) {long f : Nat} {w : World} {b : Nat} {vt : Value} {l : List M.Tok} (h : PrAt w b wide vars long vt l 0 0) (hok : ∀ x ∈ l, 1 ≤ x.2.length ∧ x.2.length ≤ 800) (hf : l.length < f) :
    Calls Tryd.prog 49 #[ptr b] w (WholeQ wide vars long f b l w) := by
  have gt := pTerm_any hv hv0 long f w b vt l h hok hf
  clear h hok hf
  go_enter Tryd.func49, Tryd.ntmps49
  go_wp2_with fail
  refine gt.mono ?_
  rintro e w2 (⟨t, r, k, hr, rfl, htr, hto⟩ | ⟨c, q, l', hr, rfl, hto⟩)
  · clear gt
    obtain ⟨⟨vt2, h2⟩, hk2⟩ := hto
    obtain ⟨c0, c1, c2, c3, c4, c5⟩ := h2.cell
    match r, hr, h2 with
    | [], hr, h2 =>
      obtain ⟨ta, tc, hsh⟩ := h2.toks.shape
      have HQ : Hid (WholeQ wide vars long f b l w (.returned (ptr k)) w2) := Or.inl ⟨t, k, hr, rfl, htr, ⟨vt2, h2⟩, hk2⟩
      simp only [List.length_nil] at hsh
      subst hsh
      clear hr h2 htr hk2
      go_wp2_with fail
      go_ret
      exact HQ.out
    | (xp, xs) :: r2, hr, h2 =>
      have gf := fail_any h2 3 (xp : Int)
      obtain ⟨g, off, cap, a, c, rfl, hg, t0, t1, hcut, hr2, hl1⟩ := h2.pop
      have HQ : Hid (∀ w3, PrTo w2 w3 b wide vars long ((xp, xs) :: r2) 3 (xp : Int) → WholeQ wide vars long f b l w (.returned (.pointer none)) w3) := fun w3 hto3 => Or.inr ⟨3, xp, _, by rw [hr]; rfl, rfl, hto3.trans hk2⟩
      clear hr h2 htr hk2 hr2 hcut
      generalize r2.length = ln at *
      go_wp2_with fail
      refine gf.mono ?_
      rintro e w3 ⟨rfl, hto3⟩
      have H3 : Hid (WholeQ wide vars long f b l w (.returned (.pointer none)) w3) := HQ.out w3 hto3
      clear gf HQ hto3
      go_wp2_with fail
      go_ret
      exact H3.out
  · have HQ : Hid (WholeQ wide vars long f b l w (.returned (.pointer none)) w2) := Or.inr ⟨c, q, l', by rw [hr]; rfl, rfl, hto⟩
    obtain ⟨⟨vt2, h2⟩, hk2⟩ := hto
    obtain ⟨c0, c1, c2, c3, c4, c5⟩ := h2.cell
    clear gt hr h2 hk2
    go_wp2_with fail
    go_ret
    exact HQ.out
/-- tokens that are owned lie below what comes next -/
theorem toksIn_of_own {w w1 : World} {tv : Value} {l : List M.Tok} (ho : OwnToks w1 w.heap.size tv l) (hl : l.length ≤ 1000) : ToksIn w1 w1.heap.size tv l :=
  (rd_new 0 0 0 ho hl).toks.same (fun k hk => by rw [Below.heap_alloc _ _ _ hk])
theorem pr_new {w w1 : World} {tv : Value} {l : List M.Tok} (wide vars : Int) (long : Nat) (ho : OwnToks w1 w.heap.size tv l) (hl : l.length ≤ 1000) (h5 : All5 w1) :
    PrAt (w1.alloc (.cells (prCells wide vars tv long 0 0) 76)) w1.heap.size wide vars long tv l 0 0 := by
  have hA : Below w1.heap.size w1 (w1.alloc (.cells (prCells wide vars tv long 0 0) 76)) := (Below.refl _ _).alloc (Nat.le_refl _) _
  exact ⟨heap_alloc_new _ _, (toksIn_of_own ho hl).same (fun k hk => hA.block k hk), hl, h5.below hA, h5.low⟩
set_option maxRecDepth 100000 in
set_option maxHeartbeats 2000000 in
theorem iReadTerm_bad (wide vars : Int) (s : Tx) (hl : s.length ≤ 9223372036854775807) (h : ¬ (wideB wide = true ∧ 1 ≤ vars ∧ vars ≤ 4 ∧ s.length ≤ 800)) (w : World) :
    Calls Tryd.prog 24 #[.int .i64 wide, .int .i64 vars, tx s] w fun e w' => e = .returned (.tuple #[.slice none 0 0, .int .i64 1, .int .i64 0, .bool false]) ∧ Below w.heap.size w w' := by
  have g1 := goodWide_any wide w
  cases hw : wideB wide with
  | false =>
    rw [hw] at g1
    go_enter Tryd.func24, Tryd.ntmps24
    go_wp2_with fail
    refine g1.mono ?_
    rintro e w1 ⟨rfl, rfl⟩
    go_wp2_with fail
    refine bodyPost_ret (results_four rfl _ _ _) rfl ?_
    exact ⟨rfl, Below.refl _ _⟩
  | true =>
    rw [hw] at g1
    by_cases hv : 1 ≤ vars ∧ vars ≤ 4
    · have g2 := goodVars_yes vars hv w
      have h8 : 800 < s.length := by
        by_cases h8 : s.length ≤ 800
        · exact absurd ⟨hw, hv.1, hv.2, h8⟩ h
        · omega
      have hlt : (800 : Int) < (s.length : Int) := by omega
      clear h
      go_enter Tryd.func24, Tryd.ntmps24
      go_wp2_with fail
      refine g1.mono ?_
      rintro e w1 ⟨rfl, rfl⟩
      go_wp2_with fail
      refine g2.mono ?_
      rintro e w1 ⟨rfl, rfl⟩
      go_wp2_with fail
      refine bodyPost_ret (results_four rfl _ _ _) rfl ?_
      exact ⟨rfl, Below.refl _ _⟩
    · have g2 := goodVars_no vars hv w
      clear h
      go_enter Tryd.func24, Tryd.ntmps24
      go_wp2_with fail
      refine g1.mono ?_
      rintro e w1 ⟨rfl, rfl⟩
      go_wp2_with fail
      refine g2.mono ?_
      rintro e w1 ⟨rfl, rfl⟩
      go_wp2_with fail
      refine bodyPost_ret (results_four rfl _ _ _) rfl ?_
      exact ⟨rfl, Below.refl _ _⟩
set_option maxRecDepth 100000 in
set_option maxHeartbeats 4000000 in
theorem iReadTerm_in (wide vars : Int) (s : Tx) (h : wideB wide = true ∧ 1 ≤ vars ∧ vars ≤ 4 ∧ s.length ≤ 800) (w : World) (h5 : All5 w) :
    Calls Tryd.prog 24 #[.int .i64 wide, .int .i64 vars, tx s] w fun e w' => ∃ v, e = .returned (.tuple #[v, .int .i64 ((readTermL wide vars s).code : Int), .int .i64 ((readTermL wide vars s).place : Int), .bool (readTermL wide vars s).fine]) ∧ OwnNodes w' w.heap.size v (readTermL wide vars s).nodes ∧ Below w.heap.size w w' := by
  have g1 := goodWide_any wide w
  rw [h.1] at g1
  have g2 := goodVars_yes vars ⟨h.2.1, h.2.2.1⟩ w
  have g3 := iTokensOf_in s h.2.2.2 w h5.signs
  have h8 : (s.length : Int) ≤ 800 := by have := h.2.2.2; omega
  have h8d : decide ((800 : Int) < (s.length : Int)) = false := decide_eq_false (by omega)
  obtain ⟨hve, hvo⟩ := tok_vals h.2.2.2
  cases ht : tokens s with
  | error p =>
    obtain ⟨e1, e2, e3⟩ := hve p ht
    rw [e1, e2, e3] at g3
    rw [readTermL_byte h ht]
    simp only
    clear h hve hvo ht e1 e2 e3 h5
    go_enter Tryd.func24, Tryd.ntmps24
    go_wp2_with fail
    refine g1.mono ?_
    rintro e w1 ⟨rfl, rfl⟩
    go_wp2_with fail
    refine g2.mono ?_
    rintro e w1 ⟨rfl, rfl⟩
    go_wp2_with fail
    refine g3.mono ?_
    rintro e w2 ⟨v, rfl, _, hb⟩
    have HB : Hid (Below w1.heap.size w1 w2) := hb
    clear g1 g2 g3 hb
    go_wp2_with fail
    refine bodyPost_ret (results_four rfl _ _ _) rfl ?_
    exact ⟨_, rfl, World.ownsRow_nil _ _ _ _, HB.out⟩
  | ok l =>
    obtain ⟨e1, e2, e3⟩ := hvo l ht
    rw [e1, e2, e3] at g3
    have hA := readTermL_toks h ht
    have hm := tokens_many ht
    have HM : Hid (l.length ≤ s.length ∧ s.length ≤ 800 ∧ vars ≤ 4 ∧ 0 ≤ vars ∧ ∀ x ∈ l, 1 ≤ x.2.length ∧ x.2.length ≤ s.length ∧ x.1 ≤ s.length) := ⟨hm.1, h.2.2.2, h.2.2.1, by have := h.2.1; omega, hm.2⟩
    rw [hA]
    clear h hve hvo ht e1 e2 e3 hA hm
    generalize hAA : ansOf (readT wide vars s.length (l.length + 1) l) = A at *
    have HA : Hid (ansOf (readT wide vars s.length (l.length + 1) l) = A) := hAA
    clear hAA
    have HT : Hid (∀ (w1 : World) (tv : Value), Below w.heap.size w w1 → OwnToks w1 w.heap.size tv l → Calls Tryd.prog 49 #[ptr w1.heap.size] (w1.alloc (.cells (prCells wide vars tv s.length 0 0) 76)) (WholeQ wide vars s.length (l.length + 1) w1.heap.size l (w1.alloc (.cells (prCells wide vars tv s.length 0 0) 76)))) := fun w1 tv hb ho =>
      whole_any HM.out.2.2.1 HM.out.2.2.2.1 (pr_new wide vars s.length ho (by have := HM.out.1; have := HM.out.2.1; omega) (h5.below hb)) (fun x hx => ⟨(HM.out.2.2.2.2 x hx).1, by have := (HM.out.2.2.2.2 x hx).2.1; have := HM.out.2.1; omega⟩) (by omega)
    clear h5
    go_enter Tryd.func24, Tryd.ntmps24
    go_wp2_with fail
    refine g1.mono ?_
    rintro e w1 ⟨rfl, rfl⟩
    go_wp2_with fail
    refine g2.mono ?_
    rintro e w1 ⟨rfl, rfl⟩
    go_wp2_with fail
    refine g3.mono ?_
    rintro e w2 ⟨tv, rfl, hot, hb⟩
    have HB : Hid (Below w1.heap.size w1 w2) := hb
    have gt := HT.out w2 tv hb hot
    obtain ⟨ta, tc, hsh⟩ := own_shape hot
    clear g1 g2 g3 hb HT hot
    subst hsh
    go_wp2_with fail
    refine gt.mono ?_
    rintro e w3 (⟨t, k, hr, rfl, htr, hto⟩ | ⟨c', q, l', hr, rfl, hto⟩)
    · have hv : ansOf (.ok (t, [])) = A := by rw [← hr]; exact HA.out
      obtain ⟨⟨vt3, h3⟩, hk3⟩ := hto
      have HBE : Hid (Below w1.heap.size w1 w3) := keep_end (w := w1) (HB.out.trans (((Below.refl _ _).alloc (Nat.le_refl _) _).mono HB.out.size)) hk3 HB.out.size rfl
      have htr2 : TrAt w3 (Old w3) t k := TrAt.frame (fun k hk => hk.1) (fun _ _ => rfl) htr
      simp only [ansOf] at hv
      by_cases hs48 : t.size ≤ 48
      · rw [if_pos hs48] at hv
        subst hv
        have gn := nodesOf_yes t k w3 htr2 hs48
        clear gt hr h3 hk3 htr htr2 HM HA
        go_wp2_with fail
        refine gn.mono ?_
        rintro e w4 ⟨v', rfl, ho4, hb4⟩
        have HO4 : Hid (OwnNodes w4 w1.heap.size v' t.flat) := OwnNodes.low ho4 HBE.out.size
        have HB4 : Hid (Below w1.heap.size w1 w4) := HBE.out.trans (hb4.mono HBE.out.size)
        obtain ⟨va, vc, hvs⟩ := own_shape ho4
        clear gn ho4 hb4
        subst hvs
        go_wp2_with fail
        refine bodyPost_ret (results_four rfl _ _ _) rfl ?_
        exact ⟨_, rfl, HO4.out, HB4.out⟩
      · rw [if_neg hs48] at hv
        subst hv
        have gn := nodesOf_long t k w3 _ htr2 (by omega)
        clear gt hr h3 hk3 htr htr2 HM HA
        go_wp2_with fail
        refine gn.mono ?_
        rintro e w4 ⟨rfl, rfl⟩
        clear gn
        go_wp2_with fail
        refine bodyPost_ret (results_four rfl _ _ _) rfl ?_
        exact ⟨_, rfl, World.ownsRow_nil _ _ _ _, HBE.out⟩
    · have hv : (⟨[], c', q, false⟩ : RdAns) = A := by rw [← hr]; exact HA.out
      subst hv
      obtain ⟨⟨vt3, h3⟩, hk3⟩ := hto
      have HBE : Hid (Below w1.heap.size w1 w3) := keep_end (w := w1) (HB.out.trans (((Below.refl _ _).alloc (Nat.le_refl _) _).mono HB.out.size)) hk3 HB.out.size rfl
      obtain ⟨x0, x1, x2, x3, x4, x5⟩ := h3.cell
      clear gt hr h3 hk3 HM HA
      go_wp2_with fail
      first
        | (refine bodyPost_ret (results_four rfl _ _ _) rfl ?_
           exact ⟨_, rfl, World.ownsRow_nil _ _ _ _, HBE.out⟩)
        | (go_region
           all_goals
             go_wp2_with fail
             refine bodyPost_ret (results_four rfl _ _ _) rfl ?_
             exact ⟨_, rfl, World.ownsRow_nil _ _ _ _, below_drewN HBE.out _⟩)
/-- what the program's ReadTerm answers -/
theorem iReadTerm_any (wide vars : Int) (s : Tx) (hl : s.length ≤ 9223372036854775807) (w : World) (h5 : All5 w) :
    Calls Tryd.prog 24 #[.int .i64 wide, .int .i64 vars, tx s] w fun e w' => ∃ v, e = .returned (.tuple #[v, .int .i64 ((readTermL wide vars s).code : Int), .int .i64 ((readTermL wide vars s).place : Int), .bool (readTermL wide vars s).fine]) ∧ OwnNodes w' w.heap.size v (readTermL wide vars s).nodes ∧ Below w.heap.size w w' := by
  by_cases h : wideB wide = true ∧ 1 ≤ vars ∧ vars ≤ 4 ∧ s.length ≤ 800
  · exact iReadTerm_in wide vars s h w h5
  · rw [readTermL_bad h]
    refine (iReadTerm_bad wide vars s hl h w).mono ?_
    rintro e w' ⟨rfl, hb⟩
    exact ⟨_, rfl, World.ownsRow_nil _ _ _ _, hb⟩
end Go.Proofs.YtkfplichekebdaaDoor

namespace Go.Proofs.YtkfplichekebdaaDoor
open Go Go.RowKit
open M
set_option linter.unusedVariables false

set_option maxRecDepth 100000 in
set_option maxHeartbeats 4000000 in
theorem readTm_small (wide : Int) (vars : Int) (s : Tx) (hl : s.length ≤ 1048576) (R0 : List Nd) (r1 : Int) (r2 : Int) (r3 : Bool) (hok : ∀ x ∈ R0, NdOk x) (hR : R0.length ≤ 1000000) (w : World) (GS : Hid (∀ w1 : World, Below w.heap.size w w1 → Calls Tryd.prog 23 #[.int .i64 wide, .int .i64 vars, tx s] w1 fun e w' => ∃ v, e = .returned (.tuple #[v, .int .i64 r1, .int .i64 r2, .bool r3]) ∧ OwnNodes w' w1.heap.size v R0 ∧ Below w1.heap.size w1 w')) (GI : Hid (∀ w1 : World, Below w.heap.size w w1 → Calls Tryd.prog 24 #[.int .i64 wide, .int .i64 vars, tx s] w1 fun e w' => ∃ v, e = .returned (.tuple #[v, .int .i64 r1, .int .i64 r2, .bool r3]) ∧ OwnNodes w' w1.heap.size v R0 ∧ Below w1.heap.size w1 w')) :
    Calls Tryd.prog 7 #[.int .i64 wide, .int .i64 vars, tx s] w fun e w' => e = .returned (.bool true) ∧ Below w.heap.size w w' := by
  have HR : Hid (∀ (w1 : World) (B : Nat) (v1 : Value), OwnNodes w1 B v1 R0 → NodesAt w1 v1 R0) := fun w1 B v1 ho => nodes_of_own hok (by omega) ho
  have g1 := GS.out w (Below.refl _ _)
  go_enter Tryd.func7, Tryd.ntmps7
  go_wp2_with fail
  refine g1.mono ?_
  rintro e w1 ⟨u0, rfl, hou, hb1⟩
  clear g1 GS
  have HU : Hid (∀ w_ : World, Below w1.heap.size w1 w_ → NodesAt w_ u0 R0) := fun w_ hb => (HR.out _ _ _ hou).below hb
  clear hou
  have g2 := GI.out w1 hb1
  go_wp2_with fail
  refine g2.mono ?_
  rintro e w2 ⟨y0, rfl, hoy, hA2⟩
  clear g2
  have hB2 : Below w.heap.size w w2 := hb1.trans (hA2.mono hb1.size)
  have hw01 := hb1.size
  clear hb1
  have hblk := fun k hk => own_block hoy (k := k) hk
  have g3 := eqNodeS_any y0 u0 R0 R0 _ (HR.out _ _ _ hoy) (HU.out _ hA2)
  rw [decide_eq_true rfl] at g3
  go_wp2_with fail
  refine g3.mono ?_
  rintro e w3 ⟨rfl, hstep⟩
  clear g3
  have hA3 := hA2.trans (hstep.mono hA2.size)
  have hB3 := hB2.trans (hstep.mono hB2.size)
  have hoy3 := owns_below hoy hstep
  clear hA2 hB2 hoy hstep
  have g4 := markNodeS_any y0 _ R0.length _ _ 1 (by omega) (by omega) (by omega) _ hoy3
  go_wp2_with fail
  refine g4.mono ?_
  rintro e w4 ⟨rfl, ho4, hgr⟩
  clear g4 hoy3
  have hA4 := Below.grown hA3 hgr hA3.size (fun k hk => (hblk k hk).1)
  have hsz0 := hB3.size
  have hB4 := Below.grown hB3 hgr hB3.size (fun k hk => Nat.le_trans hw01 (hblk k hk).1)
  clear hA3 hB3 hgr hsz0
  have gh4 := heldNodeS_any y0 _ R0.length _ 1 (by omega) (by omega) (by omega) _ ho4
  go_wp2_with fail
  refine gh4.mono ?_
  rintro e w_ ⟨rfl, rfl⟩
  clear gh4
  have hA5 := hA4
  have hB5 := hB4
  have ho5 := ho4
  clear hA4 hB4 ho4
  have g6 := GI.out _ hB5
  go_wp2_with fail
  refine g6.mono ?_
  rintro e w6 ⟨h0, rfl, hoh, hstep⟩
  clear g6
  have hA6 := hA5.trans (hstep.mono hA5.size)
  have hB6 := hB5.trans (hstep.mono hB5.size)
  have ho6 := owns_below ho5 hstep
  clear hA5 hB5 ho5 hstep
  have g7 := eqNodeS_any h0 u0 R0 R0 _ (HR.out _ _ _ hoh) (HU.out _ hA6)
  rw [decide_eq_true rfl] at g7
  go_wp2_with fail
  refine g7.mono ?_
  rintro e w7 ⟨rfl, hstep⟩
  clear g7 hoh
  have hA7 := hA6.trans (hstep.mono hA6.size)
  have hB7 := hB6.trans (hstep.mono hB6.size)
  have ho7 := owns_below ho6 hstep
  clear hA6 hB6 ho6 hstep
  have gh7 := heldNodeS_any y0 _ R0.length _ 1 (by omega) (by omega) (by omega) _ ho7
  go_wp2_with fail
  refine gh7.mono ?_
  rintro e w_ ⟨rfl, rfl⟩
  clear gh7
  have hA8 := hA7
  have hB8 := hB7
  have ho8 := ho7
  clear hA7 hB7 ho7
  have HB : Hid (Below w.heap.size w _) := hB8
  clear hA8 hB8 ho8 hblk
  go_wp2_with fail
  go_ret
  exact ⟨rfl, HB.out⟩
theorem readTm_big (wide : Int) (vars : Int) (s : Tx) (hb : 1048576 < s.length) (hl : s.length ≤ 9223372036854775807) (w : World) : Calls Tryd.prog 7 #[.int .i64 wide, .int .i64 vars, tx s] w fun e w' => e = .returned (.bool true) ∧ Below w.heap.size w w' := by
  go_enter Tryd.func7, Tryd.ntmps7
  go_wp2_with fail
  go_ret
  exact ⟨rfl, Below.refl _ _⟩
theorem readTerm_law (wide vars : Int) (s : Tx) (hl : s.length ≤ 9223372036854775807) (w : World) (h5 : All5 w) : Calls Tryd.prog 7 #[.int .i64 wide, .int .i64 vars, tx s] w fun e w' => e = .returned (.bool true) ∧ Below w.heap.size w w' := by
  by_cases hb : 1048576 < s.length
  · exact readTm_big wide vars s hb hl w
  · have hR := readTermL_len wide vars s
    refine readTm_small wide vars s (by omega) (readTermL wide vars s).nodes ((readTermL wide vars s).code : Int) ((readTermL wide vars s).place : Int) (readTermL wide vars s).fine (readTermL_ok wide vars s) (by omega) w ?_ ?_
    · intro w1 hb1
      exact sReadTerm_any wide vars s hl w1
    · intro w1 hb1
      exact iReadTerm_any wide vars s hl w1 (h5.below hb1)
end Go.Proofs.YtkfplichekebdaaDoor
