/-
  Plain mathematics for terms as texts: signs, the text and the depth of a tree, tokens, and how a term is read from tokens. No program stands in it.
-/
import Derived.Test.YtkfplichekebdaaGreatDoorNum
namespace Go.Proofs.YtkfplichekebdaaGreatDoor.M
open Go
set_option linter.unusedVariables false

/-- the sign of an op, empty where it has none -/
def signN : Nat → Tx
  | 3 => [43]
  | 4 => [45]
  | 5 => [42]
  | 6 => [47]
  | 7 => [37]
  | 8 => [38]
  | 9 => [124]
  | 10 => [94]
  | 11 => [60, 60]
  | 12 => [62, 62]
  | 13 => [126]
  | 14 => [61, 61]
  | 15 => [60]
  | 16 => [60, 45]
  | 17 => [38, 38]
  | 18 => [124, 124]
  | 19 => [33]
  | _ => []
def signL (op : Int) : Tx := signN op.toNat
/-- the name of a variable -/
def nameL (k : Nat) : Tx := [UInt8.ofNat (97 + k)]
def yesL : Tx := [121, 101, 115]
def noL : Tx := [110, 111]
/-- the text of a leaf -/
def leafL (x : Nd) : Tx := if x.1 = 2 then nameL x.2.toNat else if x.1 = 20 then (if x.2 = 1 then yesL else noL) else numL x.2.toNat
/-- the text of a tree -/
def trText : Tr → Tx
  | .leaf x => leafL x
  | .one x a => signL x.1 ++ trText a
  | .two x a b => [40] ++ trText a ++ signL x.1 ++ trText b ++ [41]
/-- the depth of a tree -/
def trDepth : Tr → Nat
  | .leaf _ => 1
  | .one _ a => trDepth a + 1
  | .two _ a b => max (trDepth a) (trDepth b) + 1
theorem trDepth_le : ∀ t : Tr, trDepth t ≤ t.size
  | .leaf _ => Nat.le_refl _
  | .one _ a => by
    have := trDepth_le a
    simp only [trDepth, Tr.size]
    omega
  | .two _ a b => by
    have := trDepth_le a
    have := trDepth_le b
    simp only [trDepth, Tr.size]
    omega
theorem trDepth_pos : ∀ t : Tr, 1 ≤ trDepth t
  | .leaf _ => Nat.le_refl _
  | .one _ a => by simp only [trDepth]; omega
  | .two _ a b => by simp only [trDepth]; omega
theorem signN_len (n : Nat) : (signN n).length ≤ 2 := by
  unfold signN
  split <;> simp
theorem signL_len (op : Int) : (signL op).length ≤ 2 := signN_len _
/-- each number of a tree is a word -/
def Wd : Tr → Prop
  | .leaf x => 0 ≤ x.2 ∧ x.2 < 18446744073709551616
  | .one _ a => Wd a
  | .two _ a b => Wd a ∧ Wd b
theorem leafL_len {x : Nd} (h : 0 ≤ x.2 ∧ x.2 < 18446744073709551616) : (leafL x).length ≤ 20 := by
  unfold leafL
  split
  · simp [nameL]
  · split
    · split <;> simp [yesL, noL]
    · exact numL_len20 (by omega)
theorem trText_len : ∀ t : Tr, Wd t → (trText t).length ≤ 20 * t.size
  | .leaf x, h => by
    have := leafL_len h
    simp only [trText, Tr.size]
    omega
  | .one x a, h => by
    have := trText_len a h
    have := signL_len x.1
    simp only [trText, Tr.size, List.length_append]
    omega
  | .two x a b, h => by
    have := trText_len a h.1
    have := trText_len b h.2
    have := signL_len x.1
    simp only [trText, Tr.size, List.length_append, List.length_singleton]
    omega

/-- a token: its place and its text -/
abbrev Tok := Nat × Tx
/-- a text that is a sign -/
def isSign (l : Tx) : Bool := (List.range 17).any fun i => decide (signN (i + 3) = l)
/-- how long the token at the front of a text is, 0 where there is none -/
def longL (s : Tx) : Nat :=
  if 0 < (s.takeWhile isDig).length then (s.takeWhile isDig).length
  else if 0 < (s.takeWhile isLet).length then (s.takeWhile isLet).length
  else if 2 ≤ s.length ∧ isSign (s.take 2) = true then 2
  else if 1 ≤ s.length ∧ (s.take 1 = [40] ∨ s.take 1 = [41] ∨ isSign (s.take 1) = true) then 1
  else 0
theorem longL_le (s : Tx) : longL s ≤ s.length := by
  have h1 := (List.takeWhile_sublist isDig (l := s)).length_le
  have h2 := (List.takeWhile_sublist isLet (l := s)).length_le
  unfold longL
  split
  · exact h1
  · split
    · exact h2
    · split
      · rename_i h; exact h.1
      · split
        · rename_i h; exact h.1
        · omega
/-- the tokens of a text from a place on, or the place of the first byte that begins none -/
def toksL : Nat → Nat → Tx → Except Nat (List Tok)
  | 0, _, _ => .ok []
  | _ + 1, _, [] => .ok []
  | f + 1, p, c :: r =>
    if c = 32 then toksL f (p + 1) r
    else if longL (c :: r) = 0 then .error p
    else match toksL f (p + longL (c :: r)) ((c :: r).drop (longL (c :: r))) with
      | .error q => .error q
      | .ok l => .ok ((p, (c :: r).take (longL (c :: r))) :: l)
/-- enough rounds are enough -/
theorem toksL_more : ∀ (f g p : Nat) (s : Tx), s.length ≤ f → s.length ≤ g → toksL f p s = toksL g p s
  | 0, 0, _, _, _, _ => rfl
  | 0, g + 1, p, [], _, _ => rfl
  | 0, _ + 1, _, _ :: _, h, _ => by simp at h
  | f + 1, 0, p, [], _, _ => rfl
  | _ + 1, 0, _, _ :: _, _, h => by simp at h
  | f + 1, g + 1, p, [], _, _ => rfl
  | f + 1, g + 1, p, c :: r, hf, hg => by
    simp only [List.length_cons] at hf hg
    simp only [toksL]
    by_cases h : c = 32
    · rw [if_pos h, if_pos h]
      exact toksL_more f g _ _ (by omega) (by omega)
    · rw [if_neg h, if_neg h]
      by_cases h0 : longL (c :: r) = 0
      · rw [if_pos h0, if_pos h0]
      · rw [if_neg h0, if_neg h0, toksL_more f g _ _ (by simp; omega) (by simp; omega)]
/-- the tokens of a text, or a place -/
def tokens (s : Tx) : Except Nat (List Tok) := toksL s.length 0 s

/-- the place of the next token, or the text's length -/
def placeOf (long : Nat) : List Tok → Nat
  | [] => long
  | x :: _ => x.1
/-- an op of two parts by its sign -/
def opOf (l : Tx) : Nat := if l = [43] then 3 else if l = [45] then 4 else if l = [42] then 5 else if l = [47] then 6 else if l = [37] then 7 else if l = [38] then 8 else if l = [124] then 9 else if l = [94] then 10 else if l = [60, 60] then 11 else if l = [62, 62] then 12 else if l = [61, 61] then 14 else if l = [60] then 15 else if l = [60, 45] then 16 else if l = [38, 38] then 17 else if l = [124, 124] then 18 else 0
/-- an op of one part by its sign -/
def opOne (l : Tx) : Nat := if l = [126] then 13 else 19
/-- a leaf is read from a token's text: its node, or a code -/
def leafRd (wide vars : Int) (l : Tx) : Except Nat Nd :=
  match l with
  | [] => .error 3
  | c :: _ =>
    if isDig c = true then (if isNum l = true ∧ goodB wide (readN l) = true then .ok (1, (readN l : Int)) else .error 4)
    else if l = yesL then .ok (20, 1)
    else if l = noL then .ok (20, 0)
    else if l.length = 1 ∧ ((c.toNat - 97 : Nat) : Int) < vars then .ok (2, ((c.toNat - 97 : Nat) : Int))
    else .error 5
/-- a token's text begins a leaf -/
def isLeaf (l : Tx) : Bool :=
  match l with
  | [] => false
  | c :: _ => isDig c || isLet c
/-- how a term is read from tokens: a code and a place, or the tree and the tokens behind it -/
def readT (wide vars : Int) (long : Nat) : Nat → List Tok → Except (Nat × Nat) (Tr × List Tok)
  | 0, _ => .error (3, 0)
  | _ + 1, [] => .error (3, long)
  | f + 1, x :: r =>
    if isLeaf x.2 = true then
      match leafRd wide vars x.2 with
      | .error c => .error (c, x.1)
      | .ok nd => .ok (.leaf nd, r)
    else if x.2 = [126] ∨ x.2 = [33] then
      match readT wide vars long f r with
      | .error e => .error e
      | .ok (a, r1) => if a.kind = partOf (opOne x.2) then .ok (.one (opOne x.2, 0) a, r1) else .error (6, x.1)
    else if x.2 ≠ [40] then .error (3, x.1)
    else
      match readT wide vars long f r with
      | .error e => .error e
      | .ok (a, []) => .error (3, long)
      | .ok (a, y :: r1) =>
        if opOf y.2 = 0 then .error (3, y.1)
        else match readT wide vars long f r1 with
          | .error e => .error e
          | .ok (b, []) => .error (3, long)
          | .ok (b, z :: r2) =>
            if z.2 ≠ [41] then .error (3, z.1)
            else if a.kind = partOf (opOf y.2) ∧ b.kind = partOf (opOf y.2) then .ok (.two (opOf y.2, 0) a b, r2)
            else .error (6, y.1)
/-- what is left is less -/
theorem readT_rest (wide vars : Int) (long : Nat) : ∀ (f : Nat) (l : List Tok) (t : Tr) (r : List Tok), readT wide vars long f l = .ok (t, r) → r.length < l.length
  | 0, _, _, _, h => by cases h
  | _ + 1, [], _, _, h => by cases h
  | f + 1, x :: q, t, r, h => by
    simp only [readT] at h
    split at h
    · split at h
      · cases h
      · simp only [Except.ok.injEq, Prod.mk.injEq] at h
        rw [← h.2]
        simp
    · split at h
      · split at h
        · cases h
        · rename_i e
          have ih := readT_rest wide vars long f _ _ _ e
          split at h
          · simp only [Except.ok.injEq, Prod.mk.injEq] at h
            rw [← h.2]
            simp only [List.length_cons]
            omega
          · cases h
      · split at h
        · cases h
        · split at h
          · cases h
          · cases h
          · rename_i e
            have ih := readT_rest wide vars long f _ _ _ e
            split at h
            · cases h
            · split at h
              · cases h
              · cases h
              · rename_i e2
                have ih2 := readT_rest wide vars long f _ _ _ e2
                split at h
                · cases h
                · split at h
                  · simp only [Except.ok.injEq, Prod.mk.injEq] at h
                    rw [← h.2]
                    simp only [List.length_cons] at *
                    omega
                  · cases h
end Go.Proofs.YtkfplichekebdaaGreatDoor.M
