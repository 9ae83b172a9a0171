/-
  Plain mathematics for terms as texts: the tokens of a tree's text, and that the tree is read back from them. No program stands in it.
-/
import Derived.Test.YtkfplichekebdaaGreatDoorTextM
namespace Go.Proofs.YtkfplichekebdaaGreatDoor.M
open Go
set_option linter.unusedVariables false
set_option linter.unusedSimpArgs false

/-- a byte that begins a term's text -/
def Start (c : UInt8) : Prop := isDig c = true ∨ isLet c = true ∨ c = 126 ∨ c = 33 ∨ c = 40
/-- a text that goes on no word -/
def Stop : Tx → Prop
  | [] => True
  | c :: _ => isDig c = false ∧ isLet c = false
theorem leaf_op {wide vars : Int} {x : Nd} (h1 : ¬ ownOf x.1 = 0) (h2 : okN wide vars x.1 x.2 = true) (h3 : manyOf x.1 = 0) (h4 : 0 ≤ x.2) :
    (x.1 = 1 ∧ goodB wide x.2 = true) ∨ (x.1 = 2 ∧ x.2 < vars) ∨ (x.1 = 20 ∧ (x.2 = 0 ∨ x.2 = 1)) := by
  have hop : x.1 = 1 ∨ x.1 = 2 ∨ x.1 = 20 := by
    unfold ownOf at h1
    unfold manyOf at h3
    split at h3
    · cases h3
    · split at h3
      · cases h3
      · split at h1
        · omega
        · split at h1
          · omega
          · exact absurd rfl h1
  unfold okN at h2
  rcases hop with e | e | e
  · rw [if_pos e] at h2
    exact Or.inl ⟨e, h2⟩
  · rw [if_neg (by omega), if_pos e] at h2
    exact Or.inr (Or.inl ⟨e, of_decide_eq_true h2⟩)
  · rw [if_neg (by omega), if_neg (by omega), if_pos e] at h2
    have := of_decide_eq_true h2
    exact Or.inr (Or.inr ⟨e, by omega⟩)
theorem name_nat {k : Nat} (h : k < 4) : (UInt8.ofNat (97 + k)).toNat = 97 + k := by
  rw [UInt8.toNat_ofNat']
  omega
theorem name_let {k : Nat} (h : k < 4) : isLet (UInt8.ofNat (97 + k)) = true ∧ isDig (UInt8.ofNat (97 + k)) = false := by
  unfold isLet isDig
  rw [name_nat h]
  constructor
  · simp
    omega
  · simp
    omega
/-- a leaf's text: all digits, or all letters -/
theorem leaf_bytes {wide vars : Int} {x : Nd} (hv : vars ≤ 4) (h1 : ¬ ownOf x.1 = 0) (h2 : okN wide vars x.1 x.2 = true) (h3 : manyOf x.1 = 0) (h4 : 0 ≤ x.2) :
    ∃ c r, leafL x = c :: r ∧ ((∀ b ∈ leafL x, isDig b = true) ∨ ((∀ b ∈ leafL x, isLet b = true) ∧ isDig c = false)) := by
  rcases leaf_op h1 h2 h3 h4 with ⟨e, _⟩ | ⟨e, hlt⟩ | ⟨e, hn⟩
  · have hL : leafL x = numL x.2.toNat := by
      unfold leafL
      rw [if_neg (by omega), if_neg (by omega)]
    rw [hL]
    have hp := numL_pos x.2.toNat
    match hn : numL x.2.toNat, hp with
    | c :: r, _ => exact ⟨c, r, rfl, Or.inl (by rw [← hn]; exact numL_digits _)⟩
  · have hL : leafL x = nameL x.2.toNat := by
      unfold leafL
      rw [if_pos e]
    have hk := name_let (k := x.2.toNat) (by omega)
    rw [hL]
    refine ⟨_, [], rfl, Or.inr ⟨?_, hk.2⟩⟩
    intro b hb
    simp only [nameL, List.mem_singleton] at hb
    subst hb
    exact hk.1
  · rcases hn with hn | hn
    · have hL : leafL x = noL := by
        unfold leafL
        rw [if_neg (by omega), if_pos e, if_neg (by omega)]
      rw [hL]
      exact ⟨_, _, rfl, Or.inr ⟨by decide, by decide⟩⟩
    · have hL : leafL x = yesL := by
        unfold leafL
        rw [if_neg (by omega), if_pos e, if_pos hn]
      rw [hL]
      exact ⟨_, _, rfl, Or.inr ⟨by decide, by decide⟩⟩
theorem takeWhile_all {p : UInt8 → Bool} {l rest : Tx} (h : ∀ b ∈ l, p b = true) (hr : rest.takeWhile p = []) : (l ++ rest).takeWhile p = l := by
  rw [List.takeWhile_append_of_pos h, hr, List.append_nil]
theorem stop_dig {rest : Tx} (h : Stop rest) : rest.takeWhile isDig = [] := by
  match rest, h with
  | [], _ => rfl
  | c :: r, h => simp [List.takeWhile, h.1]
theorem stop_let {rest : Tx} (h : Stop rest) : rest.takeWhile isLet = [] := by
  match rest, h with
  | [], _ => rfl
  | c :: r, h => simp [List.takeWhile, h.2]
theorem long_leaf {l rest : Tx} {c : UInt8} {r : Tx} (e : l = c :: r) (h : (∀ b ∈ l, isDig b = true) ∨ ((∀ b ∈ l, isLet b = true) ∧ isDig c = false)) (hs : Stop rest) : longL (l ++ rest) = l.length := by
  have hp : 0 < l.length := by rw [e]; simp
  unfold longL
  rcases h with h | ⟨h, hc⟩
  · rw [takeWhile_all h (stop_dig hs), if_pos hp]
  · have h0 : (l ++ rest).takeWhile isDig = [] := by
      rw [e]
      simp [List.takeWhile, hc]
    rw [h0, if_neg (by simp), takeWhile_all h (stop_let hs), if_pos hp]
theorem long_sign {a : UInt8} {s : Tx} (h1 : isDig a = false) (h2 : isLet a = false) : longL (a :: s) = (if 2 ≤ (a :: s).length ∧ isSign ((a :: s).take 2) = true then 2 else if (a = 40 ∨ a = 41 ∨ isSign [a] = true) then 1 else 0) := by
  unfold longL
  have e1 : (a :: s).takeWhile isDig = [] := by simp [List.takeWhile, h1]
  have e2 : (a :: s).takeWhile isLet = [] := by simp [List.takeWhile, h2]
  rw [e1, e2, if_neg (by simp), if_neg (by simp)]
  split
  · rfl
  · simp
theorem isSign_iff {l : Tx} : isSign l = true ↔ ∃ k, 3 ≤ k ∧ k ≤ 19 ∧ signN k = l := by
  unfold isSign
  rw [List.any_eq_true]
  constructor
  · rintro ⟨i, hi, h⟩
    have := List.mem_range.1 hi
    exact ⟨i + 3, by omega, by omega, of_decide_eq_true h⟩
  · rintro ⟨k, h1, h2, h⟩
    refine ⟨k - 3, List.mem_range.2 (by omega), decide_eq_true ?_⟩
    rw [show k - 3 + 3 = k from by omega]
    exact h
theorem sign_two {a c : UInt8} (h : isSign [a, c] = true) : (a = 60 ∧ c = 60) ∨ (a = 62 ∧ c = 62) ∨ (a = 61 ∧ c = 61) ∨ (a = 60 ∧ c = 45) ∨ (a = 38 ∧ c = 38) ∨ (a = 124 ∧ c = 124) := by
  obtain ⟨k, h1, h2, h⟩ := isSign_iff.1 h
  have hk : k = 3 ∨ k = 4 ∨ k = 5 ∨ k = 6 ∨ k = 7 ∨ k = 8 ∨ k = 9 ∨ k = 10 ∨ k = 11 ∨ k = 12 ∨ k = 13 ∨ k = 14 ∨ k = 15 ∨ k = 16 ∨ k = 17 ∨ k = 18 ∨ k = 19 := by omega
  rcases hk with rfl | rfl | rfl | rfl | rfl | rfl | rfl | rfl | rfl | rfl | rfl | rfl | rfl | rfl | rfl | rfl | rfl <;> simp only [signN, List.cons.injEq, reduceCtorEq, and_false, and_true] at h
  all_goals (obtain ⟨rfl, rfl⟩ := h; decide)
theorem start_not {c : UInt8} (h : Start c) : ¬ (c = 60 ∨ c = 62 ∨ c = 61 ∨ c = 45 ∨ c = 38 ∨ c = 124) := by
  intro e
  rcases h with h | h | rfl | rfl | rfl
  · have := isDig_nat h
    rcases e with rfl | rfl | rfl | rfl | rfl | rfl <;> revert this <;> decide
  · have := isLet_nat h
    rcases e with rfl | rfl | rfl | rfl | rfl | rfl <;> revert this <;> decide
  · revert e; decide
  · revert e; decide
  · revert e; decide
theorem no_two {a c : UInt8} (h : Start c) : isSign [a, c] = false := by
  cases e : isSign [a, c] with
  | false => rfl
  | true =>
    refine absurd ?_ (start_not h)
    rcases sign_two e with ⟨_, rfl⟩ | ⟨_, rfl⟩ | ⟨_, rfl⟩ | ⟨_, rfl⟩ | ⟨_, rfl⟩ | ⟨_, rfl⟩ <;> decide
/-- a sign ahead of a term's text is one token -/
theorem long_op {k : Nat} {c : UInt8} {r : Tx} (h1 : 3 ≤ k) (h2 : k ≤ 19) (hc : Start c) : longL (signN k ++ c :: r) = (signN k).length := by
  have hk : k = 3 ∨ k = 4 ∨ k = 5 ∨ k = 6 ∨ k = 7 ∨ k = 8 ∨ k = 9 ∨ k = 10 ∨ k = 11 ∨ k = 12 ∨ k = 13 ∨ k = 14 ∨ k = 15 ∨ k = 16 ∨ k = 17 ∨ k = 18 ∨ k = 19 := by omega
  have one : ∀ a : UInt8, isDig a = false → isLet a = false → isSign [a] = true → longL ([a] ++ c :: r) = 1 := by
    intro a ha hb hs
    rw [List.singleton_append, long_sign ha hb, if_neg (by simp [no_two hc]), if_pos (Or.inr (Or.inr hs))]
  have two : ∀ a b : UInt8, isDig a = false → isLet a = false → isSign [a, b] = true → longL ([a, b] ++ c :: r) = 2 := by
    intro a b ha hb hs
    rw [show [a, b] ++ c :: r = a :: (b :: c :: r) from rfl, long_sign ha hb, if_pos ⟨by simp, by simpa using hs⟩]
  rcases hk with rfl | rfl | rfl | rfl | rfl | rfl | rfl | rfl | rfl | rfl | rfl | rfl | rfl | rfl | rfl | rfl | rfl
  all_goals first
    | exact one _ (by decide) (by decide) (by decide)
    | exact two _ _ (by decide) (by decide) (by decide)
theorem no_bracket {a c : UInt8} (h : a = 40 ∨ a = 41) : isSign [a, c] = false := by
  cases e : isSign [a, c] with
  | false => rfl
  | true =>
    exfalso
    rcases sign_two e with ⟨e1, _⟩ | ⟨e1, _⟩ | ⟨e1, _⟩ | ⟨e1, _⟩ | ⟨e1, _⟩ | ⟨e1, _⟩ <;> rcases h with rfl | rfl <;> revert e1 <;> decide
theorem long_bracket {a : UInt8} {r : Tx} (h : a = 40 ∨ a = 41) : longL ([a] ++ r) = 1 := by
  have h1 : isDig a = false := by rcases h with rfl | rfl <;> decide
  have h2 : isLet a = false := by rcases h with rfl | rfl <;> decide
  rw [List.singleton_append, long_sign h1 h2, if_neg ?_, if_pos (by rcases h with h | h <;> simp [h])]
  rintro ⟨g1, g2⟩
  match r, g1, g2 with
  | [], g1, _ => simp at g1
  | c :: q, _, g2 =>
    simp only [List.take_succ_cons, List.take_zero] at g2
    rw [no_bracket h] at g2
    cases g2
/-- tokens from a place on, of a text whole -/
def toks (p : Nat) (s : Tx) : Except Nat (List Tok) := toksL s.length p s
def appT (l : List Tok) : Except Nat (List Tok) → Except Nat (List Tok)
  | .error q => .error q
  | .ok m => .ok (l ++ m)
theorem appT_app (a b : List Tok) (e : Except Nat (List Tok)) : appT a (appT b e) = appT (a ++ b) e := by
  cases e with
  | error q => rfl
  | ok m => simp [appT]
theorem toks_step {p : Nat} {l rest : Tx} {c : UInt8} {r : Tx} (e : l = c :: r) (hc : c ≠ 32) (hn : longL (l ++ rest) = l.length) : toks p (l ++ rest) = appT [(p, l)] (toks (p + l.length) rest) := by
  subst e
  unfold toks
  rw [show ((c :: r) ++ rest).length = (r ++ rest).length + 1 from rfl]
  rw [show (c :: r) ++ rest = c :: (r ++ rest) from rfl] at hn ⊢
  simp only [toksL]
  rw [if_neg hc, hn, if_neg (by simp)]
  have e1 : (c :: (r ++ rest)).drop (c :: r).length = rest := by simp
  have e2 : (c :: (r ++ rest)).take (c :: r).length = c :: r := by simp
  rw [e1, e2, toksL_more _ rest.length _ rest (by simp) (Nat.le_refl _)]
  cases toksL rest.length (p + (c :: r).length) rest with
  | error q => rfl
  | ok m => rfl
/-- the tokens of a tree's text -/
def trToks : Nat → Tr → List Tok
  | p, .leaf x => [(p, leafL x)]
  | p, .one x a => (p, signL x.1) :: trToks (p + (signL x.1).length) a
  | p, .two x a b => (p, [40]) :: (trToks (p + 1) a ++ (p + 1 + (trText a).length, signL x.1) :: (trToks (p + 1 + (trText a).length + (signL x.1).length) b ++ [(p + 1 + (trText a).length + (signL x.1).length + (trText b).length, [41])]))
theorem op_one {op : Int} (h : manyOf op = 1) : op = 13 ∨ op = 19 := by
  unfold manyOf at h
  split at h
  · assumption
  · split at h <;> cases h
theorem op_two_range {op : Int} (h : manyOf op = 2) : (3 ≤ op ∧ op ≤ 18) ∧ op ≠ 13 := by
  unfold manyOf at h
  split at h
  · cases h
  · split at h
    · omega
    · cases h
theorem sign_start {k : Nat} (h1 : 3 ≤ k) (h2 : k ≤ 19) : ∃ c r, signN k = c :: r ∧ isDig c = false ∧ isLet c = false ∧ c ≠ 32 := by
  have hk : k = 3 ∨ k = 4 ∨ k = 5 ∨ k = 6 ∨ k = 7 ∨ k = 8 ∨ k = 9 ∨ k = 10 ∨ k = 11 ∨ k = 12 ∨ k = 13 ∨ k = 14 ∨ k = 15 ∨ k = 16 ∨ k = 17 ∨ k = 18 ∨ k = 19 := by omega
  rcases hk with rfl | rfl | rfl | rfl | rfl | rfl | rfl | rfl | rfl | rfl | rfl | rfl | rfl | rfl | rfl | rfl | rfl <;> exact ⟨_, _, rfl, by decide, by decide, by decide⟩
theorem text_start {wide vars : Int} (hv : vars ≤ 4) : ∀ t : Tr, t.Ok wide vars → Wd t → ∃ c r, trText t = c :: r ∧ Start c
  | .leaf x, h, hw => by
    obtain ⟨c, r, e, hb⟩ := leaf_bytes hv h.1 h.2.1 h.2.2 hw.1
    refine ⟨c, r, e, ?_⟩
    rw [e] at hb
    rcases hb with hb | ⟨hb, _⟩
    · exact Or.inl (hb c (by simp))
    · exact Or.inr (Or.inl (hb c (by simp)))
  | .one x a, h, hw => by
    obtain ⟨_, _, h3, _, _⟩ := h
    simp only [trText]
    rcases op_one h3 with e | e
    · rw [e]
      exact ⟨126, trText a, rfl, Or.inr (Or.inr (Or.inl rfl))⟩
    · rw [e]
      exact ⟨33, trText a, rfl, Or.inr (Or.inr (Or.inr (Or.inl rfl)))⟩
  | .two x a b, h, hw => ⟨40, _, by simp only [trText, List.append_assoc]; rfl, Or.inr (Or.inr (Or.inr (Or.inr rfl)))⟩
theorem start_blank {c : UInt8} (h : isDig c = true ∨ isLet c = true) : c ≠ 32 := by
  rintro rfl
  rcases h with h | h <;> revert h <;> decide
theorem stop_end (rest : Tx) : Stop ([41] ++ rest) := by
  show isDig 41 = false ∧ isLet 41 = false
  exact ⟨by decide, by decide⟩
/-- the tokens of a tree's text, whatever stands behind it that goes on no word -/
theorem toks_text {wide vars : Int} (hv : vars ≤ 4) : ∀ (t : Tr) (p : Nat) (rest : Tx), t.Ok wide vars → Wd t → Stop rest → toks p (trText t ++ rest) = appT (trToks p t) (toks (p + (trText t).length) rest)
  | .leaf x, p, rest, h, hw, hs => by
    obtain ⟨c, r, e, hb⟩ := leaf_bytes hv h.1 h.2.1 h.2.2 hw.1
    refine toks_step e (start_blank ?_) (long_leaf e hb hs)
    rcases hb with hb | ⟨hb, _⟩
    · exact Or.inl (hb c (by rw [e]; simp))
    · exact Or.inr (hb c (by rw [e]; simp))
  | .one x a, p, rest, h, hw, hs => by
    obtain ⟨_, _, h3, _, h5⟩ := h
    have ih := toks_text hv a (p + (signL x.1).length) rest h5 hw hs
    obtain ⟨c, r, e, hc⟩ := text_start hv a h5 hw
    have hk : 3 ≤ x.1.toNat ∧ x.1.toNat ≤ 19 := by
      have := op_one h3
      omega
    obtain ⟨c2, r2, e2, _, _, hb⟩ := sign_start hk.1 hk.2
    simp only [trText, trToks, List.append_assoc]
    rw [toks_step (c := c2) (r := r2) (l := signL x.1) e2 hb (by rw [e]; exact long_op hk.1 hk.2 hc), ih, appT_app, List.length_append, Nat.add_assoc]
    rfl
  | .two x a b, p, rest, h, hw, hs => by
    obtain ⟨_, _, h3, _, _, h5, h6⟩ := h
    have hrg := op_two_range h3
    have hk : 3 ≤ x.1.toNat ∧ x.1.toNat ≤ 19 := by omega
    obtain ⟨c2, r2, e2, hd, hl, hb⟩ := sign_start hk.1 hk.2
    obtain ⟨c, r, e, hc⟩ := text_start hv b h6 hw.2
    have ia := toks_text hv a (p + 1) (signL x.1 ++ (trText b ++ ([41] ++ rest))) h5 hw.1 (by rw [show signL x.1 = c2 :: r2 from e2]; exact ⟨hd, hl⟩)
    have ib := toks_text hv b (p + 1 + (trText a).length + (signL x.1).length) ([41] ++ rest) h6 hw.2 (stop_end rest)
    have s1 := toks_step (p := p) (l := [40]) (rest := trText a ++ (signL x.1 ++ (trText b ++ ([41] ++ rest)))) rfl (by decide) (long_bracket (Or.inl rfl))
    have s2 := toks_step (p := p + 1 + (trText a).length) (c := c2) (r := r2) (l := signL x.1) (rest := trText b ++ ([41] ++ rest)) e2 hb (by rw [e]; exact long_op hk.1 hk.2 hc)
    have s3 := toks_step (p := p + 1 + (trText a).length + (signL x.1).length + (trText b).length) (l := [41]) (rest := rest) rfl (by decide) (long_bracket (Or.inr rfl))
    simp only [trText, trToks, List.append_assoc] at ia ib s1 s2 s3 ⊢
    rw [s1]
    simp only [List.length_singleton]
    rw [ia, s2, ib, s3]
    have el : p + ([40] ++ (trText a ++ (signL x.1 ++ (trText b ++ [41])))).length = p + 1 + (trText a).length + (signL x.1).length + (trText b).length + 1 := by
      simp only [List.length_append, List.length_singleton]
      omega
    rw [el]
    simp only [appT_app, List.append_assoc, List.singleton_append, List.cons_append, List.nil_append]
    rfl
/-- a leaf is read from its text -/
theorem leafRd_back {wide vars : Int} {x : Nd} (hv : vars ≤ 4) (h1 : ¬ ownOf x.1 = 0) (h2 : okN wide vars x.1 x.2 = true) (h3 : manyOf x.1 = 0) (h4 : 0 ≤ x.2) (h5 : x.2 < 18446744073709551616) :
    isLeaf (leafL x) = true ∧ leafRd wide vars (leafL x) = .ok x := by
  obtain ⟨op, n⟩ := x
  simp only at h1 h2 h3 h4 h5
  rcases leaf_op (x := (op, n)) h1 h2 h3 h4 with ⟨e, hg⟩ | ⟨e, hlt⟩ | ⟨e, hn⟩
  · simp only at e hg
    subst e
    obtain ⟨k, rfl⟩ := Int.eq_ofNat_of_zero_le h4
    have hL : leafL ((1 : Int), (k : Int)) = numL k := by simp [leafL]
    have hk : k < 18446744073709551616 := by omega
    rw [hL]
    have hp := numL_pos k
    have hd := numL_digits k
    have hi := isNum_num hk
    have hr := readN_num hk
    generalize numL k = l at *
    match l, hp with
    | c :: r, _ =>
      have hc := hd c (by simp)
      refine ⟨by simp [isLeaf, hc], ?_⟩
      simp only [leafRd]
      rw [if_pos hc, if_pos ⟨hi, by rw [hr]; exact hg⟩, hr]
  · simp only at e hlt
    subst e
    obtain ⟨k, rfl⟩ := Int.eq_ofNat_of_zero_le h4
    have hk : k < 4 := by omega
    have hL : leafL ((2 : Int), (k : Int)) = [UInt8.ofNat (97 + k)] := by simp [leafL, nameL]
    have hb := name_let hk
    have hn := name_nat hk
    rw [hL]
    generalize UInt8.ofNat (97 + k) = c at *
    refine ⟨by simp [isLeaf, hb.1], ?_⟩
    simp only [leafRd]
    rw [if_neg (by rw [hb.2]; decide), if_neg (by simp [yesL]), if_neg (by simp [noL]), hn, show 97 + k - 97 = k from by omega, if_pos ⟨rfl, hlt⟩]
  · simp only at e hn
    subst e
    rcases hn with rfl | rfl
    · exact ⟨by decide, by rfl⟩
    · exact ⟨by decide, by rfl⟩
theorem sign_leaf {k : Nat} (h1 : 3 ≤ k) (h2 : k ≤ 19) : isLeaf (signN k) = false := by
  obtain ⟨c, r, e, hd, hl, _⟩ := sign_start h1 h2
  rw [e]
  simp [isLeaf, hd, hl]
theorem opOf_back {k : Nat} (h1 : 3 ≤ k) (h2 : k ≤ 18) (h3 : k ≠ 13) : opOf (signN k) = k := by
  have hk : k = 3 ∨ k = 4 ∨ k = 5 ∨ k = 6 ∨ k = 7 ∨ k = 8 ∨ k = 9 ∨ k = 10 ∨ k = 11 ∨ k = 12 ∨ k = 14 ∨ k = 15 ∨ k = 16 ∨ k = 17 ∨ k = 18 := by omega
  rcases hk with rfl | rfl | rfl | rfl | rfl | rfl | rfl | rfl | rfl | rfl | rfl | rfl | rfl | rfl | rfl <;> decide
theorem okN_none {wide vars op n : Int} (h : okN wide vars op n = true) (h1 : op ≠ 1) (h2 : op ≠ 2) (h3 : op ≠ 20) : n = 0 := by
  unfold okN at h
  rw [if_neg h1, if_neg h2, if_neg h3] at h
  simpa using h
/-- a tree is read back from its tokens -/
theorem readT_back {wide vars : Int} {long : Nat} (hv : vars ≤ 4) : ∀ (t : Tr) (f p : Nat) (rest : List Tok), t.Ok wide vars → Wd t → t.size ≤ f → readT wide vars long f (trToks p t ++ rest) = .ok (t, rest)
  | .leaf x, f, p, rest, h, hw, hf => by
    obtain ⟨g1, g2⟩ := leafRd_back hv h.1 h.2.1 h.2.2 hw.1 hw.2
    match f, hf with
    | 0, hf => simp [Tr.size] at hf
    | f + 1, _ =>
      simp only [trToks, List.singleton_append, readT]
      rw [if_pos g1, g2]
  | .one x a, f, p, rest, h, hw, hf => by
    obtain ⟨h1, h2, h3, h4, h5⟩ := h
    obtain ⟨op, n⟩ := x
    simp only at h1 h2 h3 h4
    have hop := op_one h3
    obtain rfl : n = 0 := okN_none h2 (by omega) (by omega) (by omega)
    match f, hf with
    | 0, hf => simp [Tr.size] at hf
    | f + 1, hf =>
      have ih := readT_back (long := long) hv a f (p + (signL op).length) rest h5 hw (by simp only [Tr.size] at hf; omega)
      simp only [trToks, List.cons_append, readT]
      rw [ih]
      rcases hop with rfl | rfl
      · rw [if_neg (by decide), if_pos (Or.inl (by decide))]
        simp only
        simp only [show opOne (signL 13) = 13 from by decide]
        exact if_pos h4
      · rw [if_neg (by decide), if_pos (Or.inr (by decide))]
        simp only
        simp only [show opOne (signL 19) = 19 from by decide]
        exact if_pos h4
  | .two x a b, f, p, rest, h, hw, hf => by
    obtain ⟨h1, h2, h3, h4, h4', h5, h6⟩ := h
    obtain ⟨op, n⟩ := x
    simp only at h1 h2 h3 h4 h4'
    have hrg := op_two_range h3
    obtain rfl : n = 0 := okN_none h2 (by omega) (by omega) (by omega)
    obtain ⟨k, rfl⟩ := Int.eq_ofNat_of_zero_le (show 0 ≤ op by omega)
    have hb := opOf_back (k := k) (by omega) (by omega) (by omega)
    match f, hf with
    | 0, hf => simp [Tr.size] at hf
    | f + 1, hf =>
      simp only [Tr.size] at hf
      have ia := fun q r => readT_back (long := long) hv a f q r h5 hw.1 (by omega)
      have ib := fun q r => readT_back (long := long) hv b f q r h6 hw.2 (by omega)
      simp only [trToks, List.cons_append, List.append_assoc, readT, List.nil_append]
      rw [if_neg (by decide), if_neg (by decide), if_neg (by simp), ia]
      simp only [signL, Int.toNat_natCast, hb]
      rw [if_neg (by omega), ib]
      simp only
      rw [if_neg (by simp), if_pos ⟨h4, h4'⟩]
theorem trToks_len : ∀ (t : Tr) (p : Nat), t.size ≤ (trToks p t).length
  | .leaf x, p => by simp [Tr.size, trToks]
  | .one x a, p => by
    have := trToks_len a (p + (signL x.1).length)
    simp only [Tr.size, trToks, List.length_cons]
    omega
  | .two x a b, p => by
    have := trToks_len a (p + 1)
    have := trToks_len b (p + 1 + (trText a).length + (signL x.1).length)
    simp only [Tr.size, trToks, List.length_cons, List.length_append]
    omega
/-- the tokens of a tree's text alone -/
theorem tokens_text {wide vars : Int} (hv : vars ≤ 4) (t : Tr) (h : t.Ok wide vars) (hw : Wd t) : tokens (trText t) = .ok (trToks 0 t) := by
  have g := toks_text hv t 0 [] h hw trivial
  rw [List.append_nil] at g
  unfold tokens
  unfold toks at g
  rw [g]
  simp [toksL, appT]
end Go.Proofs.YtkfplichekebdaaGreatDoor.M
