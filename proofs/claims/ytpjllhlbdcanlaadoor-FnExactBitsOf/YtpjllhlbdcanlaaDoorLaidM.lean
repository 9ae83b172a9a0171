/-
  Plain mathematics of terms that are laid out as gates: what a node lays, what a tree lays, what the pile lays; how many gates, and which wires. No program stands in it.
-/
import Derived.Test.YtpjllhlbdcanlaaDoorBuildM
import Derived.Test.YtpjllhlbdcanlaaDoorTree
namespace Go.Proofs.YtpjllhlbdcanlaaDoor
open Go
open M
set_option linter.unusedVariables false
set_option linter.unusedSimpArgs false

/-- bit j of a number -/
def bitI (n : Int) (j : Nat) : Int := n / pw j % 2
theorem bitI_range (n : Int) (j : Nat) : 0 ≤ bitI n j ∧ bitI n j ≤ 1 := by
  unfold bitI
  omega
def bitsG (n : Int) (k : Nat) : List Gt := (List.range k).map fun (j : Nat) => (1, bitI n j, 0)
def wiresF (s : Int) (k : Nat) : List Int := (List.range k).map fun (j : Nat) => s + (j : Int)
def notsG (a : List Int) : List Gt := a.map fun x => (2, x, 0)
def pairG (kind : Int) (a b : List Int) : List Gt := List.zipWith (fun x y => (kind, x, y)) a b
theorem bitsG_len (n : Int) (k : Nat) : (bitsG n k).length = k := by simp [bitsG]
theorem wiresF_len (s : Int) (k : Nat) : (wiresF s k).length = k := by simp [wiresF]
theorem notsG_len (a : List Int) : (notsG a).length = a.length := by simp [notsG]
theorem pairG_len (kind : Int) (a b : List Int) (h : a.length = b.length) : (pairG kind a b).length = a.length := by simp [pairG, h]
theorem bitsG_snoc (n : Int) (k : Nat) : bitsG n (k + 1) = bitsG n k ++ [(1, bitI n k, 0)] := by simp [bitsG, List.range_succ]
theorem wiresF_snoc (s : Int) (k : Nat) : wiresF s (k + 1) = wiresF s k ++ [s + (k : Int)] := by simp [wiresF, List.range_succ]
theorem notsG_snoc (a : List Int) (x : Int) : notsG (a ++ [x]) = notsG a ++ [(2, x, 0)] := by simp [notsG]
theorem pairG_snoc (kind : Int) (a b : List Int) (x y : Int) (h : a.length = b.length) : pairG kind (a ++ [x]) (b ++ [y]) = pairG kind a b ++ [(kind, x, y)] := by
  unfold pairG
  rw [List.zipWith_append h]
  rfl
theorem wiresF_mem {s : Int} {k : Nat} {x : Int} (h : x ∈ wiresF s k) : s ≤ x ∧ x < s + k := by
  simp only [wiresF, List.mem_map, List.mem_range] at h
  obtain ⟨j, hj, rfl⟩ := h
  omega
/-- the gates of one row of a product: place k of the second number -/
def mulRow (x : List Int) (y : Int) (k : Nat) : List Gt := List.replicate k (1, 0, 0) ++ (x.take (x.length - k)).map fun w => (3, w, y)
theorem mulRow_len (x : List Int) (y : Int) (k : Nat) (h : k ≤ x.length) : (mulRow x y k).length = x.length := by
  simp [mulRow]
  omega
/-- the rows of a product from place k on: the sum so far, the number of wires so far -/
def mulF (x : List Int) : List Int → Nat → List Int → Int → List Gt × List Int
  | [], _, sum, _ => ([], sum)
  | y :: ys, k, sum, S =>
    (mulRow x y k ++ [(1, 0, 0)] ++ (addG sum (wiresF S x.length) (S + x.length) (S + x.length + 1)).1 ++ (mulF x ys (k + 1) (addG sum (wiresF S x.length) (S + x.length) (S + x.length + 1)).2 (S + 6 * x.length + 1)).1,
      (mulF x ys (k + 1) (addG sum (wiresF S x.length) (S + x.length) (S + x.length + 1)).2 (S + 6 * x.length + 1)).2)
def mulG (x y : List Int) (S : Int) : List Gt × List Int := (bitsG 0 x.length ++ (mulF x y 0 (wiresF S x.length) (S + x.length)).1, (mulF x y 0 (wiresF S x.length) (S + x.length)).2)
theorem mulF_len (x : List Int) : ∀ (ys : List Int) (k : Nat) (sum : List Int) (S : Int), k + ys.length ≤ x.length → sum.length = x.length → (mulF x ys k sum S).1.length = (6 * x.length + 1) * ys.length ∧ (mulF x ys k sum S).2.length = x.length
  | [], _, sum, _, _, hs => by simp [mulF, hs]
  | y :: ys, k, sum, S, h, hs => by
    have hl := addG_len sum (wiresF S x.length) (S + x.length) (S + x.length + 1) (by rw [wiresF_len, hs])
    simp only [List.length_cons] at h
    have ih := mulF_len x ys (k + 1) (addG sum (wiresF S x.length) (S + x.length) (S + x.length + 1)).2 (S + 6 * x.length + 1) (by omega) (by omega)
    simp only [mulF, List.length_append, List.length_cons, List.length_nil, mulRow_len x y k (by omega), hl.1, ih.1, ih.2, hs, and_true]
    rw [Nat.mul_add]
    omega
/-- a number's wires with its uppermost one turned -/
def topW (a : List Int) (s : Int) : List Int := a.take (a.length - 1) ++ [s]
/-- what a node lays behind S wires, and its wires; a, b: the wires of its parts -/
def layN (wide : Nat) (op n : Int) (a b : List Int) (S : Int) : List Gt × List Int :=
  if op = 2 then ([], wiresF (n * wide) wide)
  else if op = 1 then (bitsG n wide, wiresF S wide)
  else if op = 20 then (bitsG n 1, wiresF S 1)
  else if op = 13 ∨ op = 19 then (notsG a, wiresF S a.length)
  else if op = 8 ∨ op = 17 then (pairG 3 a b, wiresF S a.length)
  else if op = 9 ∨ op = 18 then (pairG 4 a b, wiresF S a.length)
  else if op = 10 then (pairG 5 a b, wiresF S a.length)
  else if op = 3 then ([(1, 0, 0)] ++ (addG a b S (S + 1)).1, (addG a b S (S + 1)).2)
  else if op = 4 then (notsG b ++ [(1, 1, 0)] ++ (addG a (wiresF S b.length) (S + b.length) (S + b.length + 1)).1, (addG a (wiresF S b.length) (S + b.length) (S + b.length + 1)).2)
  else if op = 5 then mulG a b S
  else if op = 14 then ([(1, 1, 0)] ++ (eqG a b S (S + 1)).1, [onW S (S + 1) 3 2 a.length])
  else if op = 15 then ([(1, 0, 0)] ++ (lessG a b S (S + 1)).1, [onW S (S + 1) 6 5 a.length])
  else if op = 16 then ([(2, a.getD (a.length - 1) 0, 0), (2, b.getD (b.length - 1) 0, 0)] ++ [(1, 0, 0)] ++ (lessG (topW a S) (topW b (S + 1)) (S + 2) (S + 3)).1, [onW (S + 2) (S + 3) 6 5 a.length])
  else ([], [])
/-- how many wires a kind has -/
def lenK (wide : Nat) (k : Int) : Nat := if k = 1 then wide else 1
/-- what a tree lays behind S wires -/
def layT (wide : Nat) : Tr → Int → List Gt × List Int
  | .leaf x, S => layN wide x.1 x.2 [] [] S
  | .one x a, S => ((layT wide a S).1 ++ (layN wide x.1 x.2 (layT wide a S).2 [] (S + (layT wide a S).1.length)).1, (layN wide x.1 x.2 (layT wide a S).2 [] (S + (layT wide a S).1.length)).2)
  | .two x a b, S => ((layT wide a S).1 ++ (layT wide b (S + (layT wide a S).1.length)).1 ++ (layN wide x.1 x.2 (layT wide a S).2 (layT wide b (S + (layT wide a S).1.length)).2 (S + (layT wide a S).1.length + (layT wide b (S + (layT wide a S).1.length)).1.length)).1,
      (layN wide x.1 x.2 (layT wide a S).2 (layT wide b (S + (layT wide a S).1.length)).2 (S + (layT wide a S).1.length + (layT wide b (S + (layT wide a S).1.length)).1.length)).2)
/-- the parts that a node finds on the pile (its top is its end) -/
def firstP (op : Int) (p : List (List Int)) : List Int := p.getD (p.length - manyOf op) []
def secondP (op : Int) (p : List (List Int)) : List Int := if manyOf op = 2 then p.getD (p.length - 1) [] else []
def layP (wide : Nat) : List Nd → List (List Int) → Int → List Gt × List (List Int)
  | [], p, _ => ([], p)
  | x :: t, p, S =>
    ((layN wide x.1 x.2 (firstP x.1 p) (secondP x.1 p) S).1 ++ (layP wide t (p.take (p.length - manyOf x.1) ++ [(layN wide x.1 x.2 (firstP x.1 p) (secondP x.1 p) S).2]) (S + (layN wide x.1 x.2 (firstP x.1 p) (secondP x.1 p) S).1.length)).1,
      (layP wide t (p.take (p.length - manyOf x.1) ++ [(layN wide x.1 x.2 (firstP x.1 p) (secondP x.1 p) S).2]) (S + (layN wide x.1 x.2 (firstP x.1 p) (secondP x.1 p) S).1.length)).2)
theorem layP_append (wide : Nat) : ∀ (s t : List Nd) (p : List (List Int)) (S : Int), layP wide (s ++ t) p S = ((layP wide s p S).1 ++ (layP wide t (layP wide s p S).2 (S + (layP wide s p S).1.length)).1, (layP wide t (layP wide s p S).2 (S + (layP wide s p S).1.length)).2)
  | [], t, p, S => by simp [layP]
  | x :: s, t, p, S => by
    simp only [List.cons_append, layP]
    rw [layP_append wide s t]
    simp only [List.append_assoc, List.length_append]
    have e : ∀ (A : Int) (m n : Nat), A + (m : Int) + (n : Int) = A + ((m + n : Nat) : Int) := fun A m n => by omega
    rw [e]
theorem firstP_zero {op : Int} (h : manyOf op = 0) (p : List (List Int)) : firstP op p = [] := by
  unfold firstP
  rw [h]
  simp
theorem firstP_one {op : Int} (h : manyOf op = 1) (p : List (List Int)) (a : List Int) : firstP op (p ++ [a]) = a := by
  unfold firstP
  rw [h]
  simp
theorem firstP_two {op : Int} (h : manyOf op = 2) (p : List (List Int)) (a b : List Int) : firstP op (p ++ [a] ++ [b]) = a := by
  unfold firstP
  rw [h]
  simp
theorem secondP_two {op : Int} (h : manyOf op = 2) (p : List (List Int)) (b : List Int) : secondP op (p ++ [b]) = b := by
  unfold secondP
  rw [h]
  simp
/-- the pile lays a tree's nodes as the tree does -/
theorem layP_flat (wide : Nat) {k vars : Int} : ∀ (r : Tr), r.Ok k vars → ∀ (t : List Nd) (p : List (List Int)) (S : Int),
    layP wide (r.flat ++ t) p S = ((layT wide r S).1 ++ (layP wide t (p ++ [(layT wide r S).2]) (S + (layT wide r S).1.length)).1, (layP wide t (p ++ [(layT wide r S).2]) (S + (layT wide r S).1.length)).2)
  | .leaf x, hok, t, p, S => by
    obtain ⟨_, _, hm⟩ := hok
    simp only [Tr.flat, List.singleton_append, layP, layT]
    rw [firstP_zero hm, show secondP x.1 p = [] from by unfold secondP; rw [hm]; simp, hm]
    simp
  | .one x a, hok, t, p, S => by
    obtain ⟨_, _, hm, _, ha⟩ := hok
    have ih := layP_flat wide a ha ([x] ++ t) p S
    simp only [Tr.flat, List.append_assoc]
    rw [ih]
    simp only [List.singleton_append, layP, layT]
    rw [firstP_one hm, show secondP x.1 (p ++ [(layT wide a S).2]) = [] from by unfold secondP; rw [hm]; simp, hm]
    have e1 : (p ++ [(layT wide a S).2]).take ((p ++ [(layT wide a S).2]).length - 1) = p := by simp
    rw [e1]
    simp only [List.append_assoc, List.length_append]
    have e : ∀ (A : Int) (m n : Nat), A + (m : Int) + (n : Int) = A + ((m + n : Nat) : Int) := fun A m n => by omega
    rw [e]
  | .two x a b, hok, t, p, S => by
    obtain ⟨_, _, hm, _, _, ha, hb⟩ := hok
    have ih := layP_flat wide a ha (b.flat ++ ([x] ++ t)) p S
    have ih2 := layP_flat wide b hb ([x] ++ t) (p ++ [(layT wide a S).2]) (S + (layT wide a S).1.length)
    simp only [Tr.flat, List.append_assoc]
    rw [ih, ih2]
    simp only [List.singleton_append, layP, layT]
    rw [firstP_two hm, secondP_two hm, hm]
    have e1 : (p ++ [(layT wide a S).2] ++ [(layT wide b (S + ((layT wide a S).1.length : Int))).2]).take ((p ++ [(layT wide a S).2] ++ [(layT wide b (S + ((layT wide a S).1.length : Int))).2]).length - 2) = p := by simp
    rw [e1]
    simp only [List.append_assoc, List.length_append]
    have e : ∀ (A : Int) (m n o : Nat), A + (m : Int) + (n : Int) + (o : Int) = A + ((m + (n + o) : Nat) : Int) := fun A m n o => by omega
    rw [e]
/-- how many gates and wires a node has -/
theorem layN_len (wide : Nat) (hw : wide ≤ 4) (op n : Int) (a b : List Int) (S : Int) (ho : ¬ ownOf op = 0) (hpl : op ≠ 6 ∧ op ≠ 7 ∧ op ≠ 11 ∧ op ≠ 12)
    (ha : 1 ≤ manyOf op → a.length = lenK wide (partOf op)) (hb : manyOf op = 2 → b.length = lenK wide (partOf op)) :
    (layN wide op n a b S).1.length ≤ 110 ∧ (layN wide op n a b S).2.length = lenK wide (ownOf op) := by
  have hr : 1 ≤ op ∧ op ≤ 20 := by
    unfold ownOf at ho
    split at ho
    · omega
    · split at ho <;> omega
  have hm : op = 1 ∨ op = 2 ∨ op = 3 ∨ op = 4 ∨ op = 5 ∨ op = 8 ∨ op = 9 ∨ op = 10 ∨ op = 13 ∨ op = 14 ∨ op = 15 ∨ op = 16 ∨ op = 17 ∨ op = 18 ∨ op = 19 ∨ op = 20 := by omega
  rcases hm with rfl | rfl | rfl | rfl | rfl | rfl | rfl | rfl | rfl | rfl | rfl | rfl | rfl | rfl | rfl | rfl
  all_goals
    clear ho hpl hr
    simp (config := {decide := true}) only [manyOf, partOf, lenK, ownOf, if_true, if_false, forall_const, layN] at ha hb ⊢
  · simp only [bitsG_len, wiresF_len]; first | omega | exact ⟨by omega, trivial⟩
  · simp [wiresF_len]
  · have h := addG_len a b S (S + 1) (by omega)
    simp only [List.length_append, List.length_cons, List.length_nil, h.1, h.2]; first | omega | exact ⟨by omega, trivial⟩
  · have h := addG_len a (wiresF S b.length) (S + b.length) (S + b.length + 1) (by rw [wiresF_len]; omega)
    simp only [List.length_append, List.length_cons, List.length_nil, h.1, h.2, notsG_len]; first | omega | exact ⟨by omega, trivial⟩
  · have h := mulF_len a b 0 (wiresF S a.length) (S + a.length) (by omega) (wiresF_len _ _)
    simp only [mulG, List.length_append, bitsG_len, h.1, h.2]
    refine ⟨?_, ha⟩
    rw [ha, hb]
    have : wide = 0 ∨ wide = 1 ∨ wide = 2 ∨ wide = 3 ∨ wide = 4 := by omega
    rcases this with rfl | rfl | rfl | rfl | rfl <;> decide
  · rw [pairG_len _ _ _ (by omega), wiresF_len]; first | omega | exact ⟨by omega, trivial⟩
  · rw [pairG_len _ _ _ (by omega), wiresF_len]; first | omega | exact ⟨by omega, trivial⟩
  · rw [pairG_len _ _ _ (by omega), wiresF_len]; first | omega | exact ⟨by omega, trivial⟩
  · rw [notsG_len, wiresF_len]; first | omega | exact ⟨by omega, trivial⟩
  · have h := eqG_len a b S (S + 1) (by omega)
    simp only [List.length_append, List.length_cons, List.length_nil, h]; first | omega | exact ⟨by omega, trivial⟩
  · have h := lessG_len a b S (S + 1) (by omega)
    simp only [List.length_append, List.length_cons, List.length_nil, h]; first | omega | exact ⟨by omega, trivial⟩
  · have hl : (topW a S).length = (topW b (S + 1)).length := by simp [topW]; first | omega | exact ⟨by omega, trivial⟩
    have hl2 : (topW a S).length ≤ 5 := by simp [topW]; first | omega | exact ⟨by omega, trivial⟩
    have h := lessG_len (topW a S) (topW b (S + 1)) (S + 2) (S + 3) hl
    simp only [List.length_append, List.length_cons, List.length_nil, h]; first | omega | exact ⟨by omega, trivial⟩
  · rw [pairG_len _ _ _ (by omega), wiresF_len]; first | omega | exact ⟨by omega, trivial⟩
  · rw [pairG_len _ _ _ (by omega), wiresF_len]; first | omega | exact ⟨by omega, trivial⟩
  · rw [notsG_len, wiresF_len]; first | omega | exact ⟨by omega, trivial⟩
  · simp only [bitsG_len, wiresF_len]; first | omega | exact ⟨by omega, trivial⟩
end Go.Proofs.YtpjllhlbdcanlaaDoor
