/-
  Plain mathematics of gates: what wires carry, and what the gates of sums and comparisons do. No program stands in it.
-/
import Derived.Test.YtmhpnkfibecnmaaDoorTerm
namespace Go.Proofs.YtmhpnkfibecnmaaDoor.M
open Go
set_option linter.unusedVariables false
set_option linter.unusedSimpArgs false

/-- a gate: its kind, what it takes -/
abbrev Gt := Int × Int × Int
/-- what a wire carries, false where there is none -/
def at' (o : List Bool) (i : Int) : Bool := o.getD i.toNat false
/-- what a gate carries behind wires -/
def gateV (o : List Bool) (g : Gt) : Bool :=
  if g.1 = 1 then decide (g.2.1 = 1)
  else if g.1 = 2 then !(at' o g.2.1)
  else if g.1 = 3 then at' o g.2.1 && at' o g.2.2
  else if g.1 = 4 then at' o g.2.1 || at' o g.2.2
  else if g.1 = 5 then at' o g.2.1 != at' o g.2.2
  else false
/-- all wires behind gates -/
def runG : List Gt → List Bool → List Bool
  | [], o => o
  | g :: gs, o => runG gs (o ++ [gateV o g])
theorem runG_append : ∀ (a b : List Gt) (o : List Bool), runG (a ++ b) o = runG b (runG a o)
  | [], _, _ => rfl
  | g :: a, b, o => runG_append a b (o ++ [gateV o g])
theorem runG_len : ∀ (a : List Gt) (o : List Bool), (runG a o).length = o.length + a.length
  | [], o => by simp [runG]
  | g :: a, o => by
    have := runG_len a (o ++ [gateV o g])
    simp only [List.length_append, List.length_singleton] at this
    simp only [runG, List.length_cons]
    omega
/-- what wires carry stays, whatever gates come behind -/
theorem runG_keep : ∀ (a : List Gt) (o : List Bool) (i : Nat), i < o.length → (runG a o)[i]? = o[i]?
  | [], o, i, h => rfl
  | g :: a, o, i, h => by
    have := runG_keep a (o ++ [gateV o g]) i (by first | (simp; done) | (simp; omega))
    rw [List.getElem?_append_left h] at this
    exact this
theorem at_keep (a : List Gt) (o : List Bool) (i : Int) (h : i < o.length) (h0 : 0 ≤ i) : at' (runG a o) i = at' o i := by
  unfold at'
  rw [List.getD_eq_getElem?_getD, List.getD_eq_getElem?_getD, runG_keep a o i.toNat (by omega)]
theorem at_new (o : List Bool) (b : Bool) (i : Int) (h : i = o.length) : at' (o ++ [b]) i = b := by
  subst h
  simp [at', List.getD_eq_getElem?_getD]
theorem at_old (o : List Bool) (b : Bool) (i : Int) (h0 : 0 ≤ i) (h : i < o.length) : at' (o ++ [b]) i = at' o i := by
  unfold at'
  rw [List.getD_eq_getElem?_getD, List.getD_eq_getElem?_getD, List.getElem?_append_left (by omega)]
/-- the number that wires carry, the first one counting least -/
def carryN (o : List Bool) : List Int → Nat
  | [] => 0
  | w :: ws => (if at' o w then 1 else 0) + 2 * carryN o ws
theorem carryN_keep (a : List Gt) (o : List Bool) : ∀ ws : List Int, (∀ x ∈ ws, 0 ≤ x ∧ x < o.length) → carryN (runG a o) ws = carryN o ws
  | [], _ => rfl
  | w :: ws, h => by
    have h1 := h w (by simp)
    simp only [carryN]
    rw [at_keep a o w h1.2 h1.1, carryN_keep a o ws (fun x hx => h x (by simp [hx]))]
theorem carryN_lt (o : List Bool) : ∀ ws : List Int, carryN o ws < 2 ^ ws.length
  | [] => by simp [carryN]
  | w :: ws => by
    have := carryN_lt o ws
    simp only [carryN, List.length_cons, Nat.pow_succ]
    split <;> omega
/-- the gates of one place of a sum: n is the next wire -/
def addOne (x y c n : Int) : List Gt := [(5, x, y), (5, n, c), (3, x, y), (3, n, c), (4, n + 2, n + 3)]
/-- the gates of a sum, and the wires that carry it -/
def addG : List Int → List Int → Int → Int → List Gt × List Int
  | x :: xs, y :: ys, c, n => (addOne x y c n ++ (addG xs ys (n + 4) (n + 5)).1, (n + 1) :: (addG xs ys (n + 4) (n + 5)).2)
  | _, _, _, _ => ([], [])
/-- what one place of a sum carries -/
theorem addOne_run (o : List Bool) (x y c : Int) (hx : 0 ≤ x ∧ x < o.length) (hy : 0 ≤ y ∧ y < o.length) (hc : 0 ≤ c ∧ c < o.length) :
    at' (runG (addOne x y c o.length) o) (o.length + 1) = ((at' o x != at' o y) != at' o c) ∧
    at' (runG (addOne x y c o.length) o) (o.length + 4) = ((at' o x && at' o y) || ((at' o x != at' o y) && at' o c)) := by
  have e1 : ∀ (p : List Bool) (g : Gt) (gs : List Gt), runG (g :: gs) p = runG gs (p ++ [gateV p g]) := fun _ _ _ => rfl
  unfold addOne
  rw [e1, e1, e1, e1, e1]
  have v0 : gateV o (5, x, y) = (at' o x != at' o y) := by simp [gateV]
  rw [v0]
  generalize hd : (at' o x != at' o y) = d
  have v1 : gateV (o ++ [d]) (5, (o.length : Int), c) = (d != at' o c) := by
    simp only [gateV]
    rw [if_neg (by decide), if_neg (by decide), if_neg (by decide), if_neg (by decide), if_pos trivial, at_new o d _ rfl, at_old o d c hc.1 hc.2]
  rw [v1]
  generalize hs : (d != at' o c) = s
  have l2 : ∀ i : Int, 0 ≤ i → i < o.length → at' (o ++ [d] ++ [s]) i = at' o i := fun i h0 h1 => by
    rw [at_old _ _ _ h0 (by first | (simp; done) | (simp; omega)), at_old _ _ _ h0 h1]
  have v2 : gateV (o ++ [d] ++ [s]) (3, x, y) = (at' o x && at' o y) := by
    simp only [gateV]
    rw [if_neg (by decide), if_neg (by decide), if_pos trivial, l2 x hx.1 hx.2, l2 y hy.1 hy.2]
  rw [v2]
  generalize hg : (at' o x && at' o y) = g
  have n3 : at' (o ++ [d] ++ [s] ++ [g]) (o.length : Int) = d := by
    rw [at_old _ _ _ (by omega) (by first | (simp; done) | (simp; omega)), at_old _ _ _ (by omega) (by first | (simp; done) | (simp; omega)), at_new o d _ rfl]
  have v3 : gateV (o ++ [d] ++ [s] ++ [g]) (3, (o.length : Int), c) = (d && at' o c) := by
    simp only [gateV]
    rw [if_neg (by decide), if_neg (by decide), if_pos trivial, n3, at_old _ _ _ hc.1 (by first | (simp; done) | (simp; omega)), l2 c hc.1 hc.2]
  rw [v3]
  generalize hh : (d && at' o c) = h
  have n4 : at' (o ++ [d] ++ [s] ++ [g] ++ [h]) ((o.length : Int) + 2) = g := by
    rw [at_old _ _ _ (by omega) (by first | (simp; done) | (simp; omega)), at_new _ _ _ (by first | (simp; done) | (simp; omega))]
  have n5 : at' (o ++ [d] ++ [s] ++ [g] ++ [h]) ((o.length : Int) + 3) = h := at_new _ _ _ (by first | (simp; done) | (simp; omega))
  have v4 : gateV (o ++ [d] ++ [s] ++ [g] ++ [h]) (4, (o.length : Int) + 2, (o.length : Int) + 3) = (g || h) := by
    simp only [gateV]
    rw [if_neg (by decide), if_neg (by decide), if_neg (by decide), if_pos trivial, n4, n5]
  rw [v4]
  constructor
  · simp only [runG]
    rw [at_old _ _ _ (by omega) (by first | (simp; done) | (simp; omega)), at_old _ _ _ (by omega) (by first | (simp; done) | (simp; omega)), at_old _ _ _ (by omega) (by first | (simp; done) | (simp; omega)), at_new _ _ _ (by first | (simp; done) | (simp; omega))]
  · simp only [runG]
    exact at_new _ _ _ (by simp)
theorem mod_two (a m P : Nat) (ha : a < 2) (hP : 0 < P) : (a + 2 * m) % (P * 2) = a + 2 * (m % P) := by
  have h1 := Nat.div_add_mod m P
  have h2 := Nat.mod_lt m hP
  have e : a + 2 * m = (a + 2 * (m % P)) + (P * 2) * (m / P) := by
    rw [show (P * 2) * (m / P) = 2 * (P * (m / P)) from by rw [Nat.mul_comm P 2, Nat.mul_assoc]]
    omega
  rw [e, Nat.add_mul_mod_self_left, Nat.mod_eq_of_lt (by omega)]
/-- the gates of a sum carry the sum -/
theorem addG_sum : ∀ (xs ys : List Int) (c : Int) (o : List Bool), xs.length = ys.length → (∀ x ∈ xs, 0 ≤ x ∧ x < o.length) → (∀ y ∈ ys, 0 ≤ y ∧ y < o.length) → 0 ≤ c ∧ c < o.length →
    carryN (runG (addG xs ys c o.length).1 o) (addG xs ys c o.length).2 = (carryN o xs + carryN o ys + (if at' o c then 1 else 0)) % 2 ^ xs.length
  | [], [], c, o, _, _, _, _ => by
    simp [addG, carryN, runG, Nat.mod_one]
  | x :: xs, y :: ys, c, o, hl, hx, hy, hc => by
    obtain ⟨s1, s2⟩ := addOne_run o x y c (hx x (by simp)) (hy y (by simp)) hc
    have hlen : (runG (addOne x y c o.length) o).length = o.length + 5 := by rw [runG_len]; rfl
    have kx := carryN_keep (addOne x y c o.length) o xs (fun z hz => hx z (by simp [hz]))
    have ky := carryN_keep (addOne x y c o.length) o ys (fun z hz => hy z (by simp [hz]))
    have ih := addG_sum xs ys (o.length + 4) (runG (addOne x y c o.length) o) (by simpa using hl) (fun z hz => by have := hx z (by simp [hz]); rw [hlen]; omega) (fun z hz => by have := hy z (by simp [hz]); rw [hlen]; omega) (by rw [hlen]; omega)
    have e5 : ((runG (addOne x y c o.length) o).length : Int) = (o.length : Int) + 5 := by rw [hlen]; omega
    rw [e5, s2, kx, ky] at ih
    simp only [addG, carryN, List.length_cons, Nat.pow_succ]
    rw [runG_append, at_keep _ _ _ (by rw [hlen]; omega) (by omega), s1, ih]
    generalize carryN o xs = X
    generalize carryN o ys = Y
    have hP : 0 < 2 ^ xs.length := Nat.pow_pos (by omega)
    generalize 2 ^ xs.length = P at *
    cases at' o x <;> cases at' o y <;> cases at' o c <;> simp only [bne_self_eq_false, Bool.false_bne, Bool.true_bne, Bool.not_false, Bool.and_true, Bool.and_false, Bool.or_false, Bool.or_true, if_true, if_false, Bool.false_eq_true] <;>
      (rw [← mod_two _ _ _ (by omega) hP]; congr 1; omega)
  | [], _ :: _, _, _, hl, _, _, _ => by simp at hl
  | _ :: _, [], _, _, hl, _, _, _ => by simp at hl
/-- a gate over wires that lie ahead of those just made -/
theorem gate_two (o p : List Bool) (k a b : Int) (ha : 0 ≤ a ∧ a < o.length) (hb : 0 ≤ b ∧ b < o.length) (h : ∀ i : Int, 0 ≤ i → i < o.length → at' p i = at' o i) : gateV p (k, a, b) = gateV o (k, a, b) := by
  simp only [gateV]
  rw [h a ha.1 ha.2, h b hb.1 hb.2]
theorem snoc_keep {o p : List Bool} (d : Bool) (hl : o.length ≤ p.length) (h : ∀ i : Int, 0 ≤ i → i < o.length → at' p i = at' o i) : ∀ i : Int, 0 ≤ i → i < o.length → at' (p ++ [d]) i = at' o i :=
  fun i h0 h1 => by rw [at_old _ _ _ h0 (by omega), h i h0 h1]
/-- the gates of one place of a comparison -/
def lessOne (x y c n : Int) : List Gt := [(5, x, y), (2, n, 0), (3, n + 1, c), (2, x, 0), (3, n + 3, y), (4, n + 2, n + 4)]
def eqOne (x y c n : Int) : List Gt := [(5, x, y), (2, n, 0), (3, n + 1, c)]
def lessG : List Int → List Int → Int → Int → List Gt × Int
  | x :: xs, y :: ys, c, n => (lessOne x y c n ++ (lessG xs ys (n + 5) (n + 6)).1, (lessG xs ys (n + 5) (n + 6)).2)
  | _, _, c, _ => ([], c)
def eqG : List Int → List Int → Int → Int → List Gt × Int
  | x :: xs, y :: ys, c, n => (eqOne x y c n ++ (eqG xs ys (n + 2) (n + 3)).1, (eqG xs ys (n + 2) (n + 3)).2)
  | _, _, c, _ => ([], c)
theorem eqOne_run (o : List Bool) (x y c : Int) (hx : 0 ≤ x ∧ x < o.length) (hy : 0 ≤ y ∧ y < o.length) (hc : 0 ≤ c ∧ c < o.length) :
    at' (runG (eqOne x y c o.length) o) (o.length + 2) = ((at' o x == at' o y) && at' o c) := by
  have e1 : ∀ (p : List Bool) (g : Gt) (gs : List Gt), runG (g :: gs) p = runG gs (p ++ [gateV p g]) := fun _ _ _ => rfl
  unfold eqOne
  rw [e1, e1, e1]
  have v0 : gateV o (5, x, y) = (at' o x != at' o y) := by simp [gateV]
  rw [v0]
  generalize hd : (at' o x != at' o y) = d
  have v1 : gateV (o ++ [d]) (2, (o.length : Int), 0) = !d := by
    simp only [gateV]
    rw [if_neg (by decide), if_pos trivial, at_new o d _ rfl]
  rw [v1]
  have v2 : gateV (o ++ [d] ++ [!d]) (3, (o.length : Int) + 1, c) = (!d && at' o c) := by
    simp only [gateV]
    rw [if_neg (by decide), if_neg (by decide), if_pos trivial, at_new _ _ _ (by first | (simp; done) | (simp; omega)), at_old _ _ _ hc.1 (by first | (simp; done) | (simp; omega)), at_old _ _ _ hc.1 hc.2]
  rw [v2]
  simp only [runG]
  rw [at_new _ _ _ (by first | (simp; done) | (simp; omega)), ← hd]
  cases at' o x <;> cases at' o y <;> rfl
theorem lessOne_run (o : List Bool) (x y c : Int) (hx : 0 ≤ x ∧ x < o.length) (hy : 0 ≤ y ∧ y < o.length) (hc : 0 ≤ c ∧ c < o.length) :
    at' (runG (lessOne x y c o.length) o) (o.length + 5) = (((at' o x == at' o y) && at' o c) || (!(at' o x) && at' o y)) := by
  have e1 : ∀ (p : List Bool) (g : Gt) (gs : List Gt), runG (g :: gs) p = runG gs (p ++ [gateV p g]) := fun _ _ _ => rfl
  unfold lessOne
  rw [e1, e1, e1, e1, e1, e1]
  have v0 : gateV o (5, x, y) = (at' o x != at' o y) := by simp [gateV]
  rw [v0]
  generalize hd : (at' o x != at' o y) = d
  have v1 : gateV (o ++ [d]) (2, (o.length : Int), 0) = !d := by
    simp only [gateV]
    rw [if_neg (by decide), if_pos trivial, at_new o d _ rfl]
  rw [v1]
  have v2 : gateV (o ++ [d] ++ [!d]) (3, (o.length : Int) + 1, c) = (!d && at' o c) := by
    simp only [gateV]
    rw [if_neg (by decide), if_neg (by decide), if_pos trivial, at_new _ _ _ (by first | (simp; done) | (simp; omega)), at_old _ _ _ hc.1 (by first | (simp; done) | (simp; omega)), at_old _ _ _ hc.1 hc.2]
  rw [v2]
  generalize hp : (!d && at' o c) = p
  have k3 : ∀ i : Int, 0 ≤ i → i < o.length → at' (o ++ [d] ++ [!d] ++ [p]) i = at' o i := snoc_keep _ (by first | (simp; done) | (simp; omega)) (snoc_keep _ (by first | (simp; done) | (simp; omega)) (snoc_keep _ (Nat.le_refl _) (fun _ _ _ => rfl)))
  have v3 : gateV (o ++ [d] ++ [!d] ++ [p]) (2, x, 0) = !(at' o x) := by
    simp only [gateV]
    rw [if_neg (by decide), if_pos trivial, k3 x hx.1 hx.2]
  rw [v3]
  generalize hm : (!(at' o x)) = m
  have v4 : gateV (o ++ [d] ++ [!d] ++ [p] ++ [m]) (3, (o.length : Int) + 3, y) = (m && at' o y) := by
    simp only [gateV]
    rw [if_neg (by decide), if_neg (by decide), if_pos trivial, at_new _ _ _ (by first | (simp; done) | (simp; omega)), at_old _ _ _ hy.1 (by first | (simp; done) | (simp; omega)), k3 y hy.1 hy.2]
  rw [v4]
  generalize hq : (m && at' o y) = q
  have n4 : at' (o ++ [d] ++ [!d] ++ [p] ++ [m] ++ [q]) ((o.length : Int) + 4) = q := at_new _ _ _ (by first | (simp; done) | (simp; omega))
  have n2 : at' (o ++ [d] ++ [!d] ++ [p] ++ [m] ++ [q]) ((o.length : Int) + 2) = p := by
    rw [at_old _ _ _ (by omega) (by first | (simp; done) | (simp; omega)), at_old _ _ _ (by omega) (by first | (simp; done) | (simp; omega))]
    exact at_new _ _ _ (by first | (simp; done) | (simp; omega))
  have v5 : gateV (o ++ [d] ++ [!d] ++ [p] ++ [m] ++ [q]) (4, (o.length : Int) + 2, (o.length : Int) + 4) = (p || q) := by
    simp only [gateV]
    rw [if_neg (by decide), if_neg (by decide), if_neg (by decide), if_pos trivial, n2, n4]
  rw [v5]
  simp only [runG]
  rw [at_new _ _ _ (by first | (simp; done) | (simp; omega)), ← hp, ← hq, ← hm, ← hd]
  cases at' o x <;> cases at' o y <;> rfl
theorem less_bits (X Y : Nat) (a b c : Bool) : (decide (X < Y) || (decide (X = Y) && (((a == b) && c) || (!a && b)))) = (decide ((if a = true then 1 else 0) + 2 * X < (if b = true then 1 else 0) + 2 * Y) || (decide ((if a = true then 1 else 0) + 2 * X = (if b = true then 1 else 0) + 2 * Y) && c)) := by
  rw [Bool.eq_iff_iff]
  cases a <;> cases b <;> cases c <;> simp <;> omega
theorem eq_bits (X Y : Nat) (a b c : Bool) : (decide (X = Y) && ((a == b) && c)) = (decide ((if a = true then 1 else 0) + 2 * X = (if b = true then 1 else 0) + 2 * Y) && c) := by
  rw [Bool.eq_iff_iff]
  cases a <;> cases b <;> cases c <;> simp <;> omega
/-- the gates of a comparison carry whether one number is less -/
theorem lessG_less : ∀ (xs ys : List Int) (c : Int) (o : List Bool), xs.length = ys.length → (∀ x ∈ xs, 0 ≤ x ∧ x < o.length) → (∀ y ∈ ys, 0 ≤ y ∧ y < o.length) → 0 ≤ c ∧ c < o.length →
    at' (runG (lessG xs ys c o.length).1 o) (lessG xs ys c o.length).2 = (decide (carryN o xs < carryN o ys) || (decide (carryN o xs = carryN o ys) && at' o c))
  | [], [], c, o, _, _, _, _ => by
    simp [lessG, carryN, runG]
  | x :: xs, y :: ys, c, o, hl, hx, hy, hc => by
    have s1 := lessOne_run o x y c (hx x (by simp)) (hy y (by simp)) hc
    have hlen : (runG (lessOne x y c o.length) o).length = o.length + 6 := by rw [runG_len]; rfl
    have kx := carryN_keep (lessOne x y c o.length) o xs (fun z hz => hx z (by simp [hz]))
    have ky := carryN_keep (lessOne x y c o.length) o ys (fun z hz => hy z (by simp [hz]))
    have ih := lessG_less xs ys (o.length + 5) (runG (lessOne x y c o.length) o) (by simpa using hl) (fun z hz => by have := hx z (by simp [hz]); rw [hlen]; omega) (fun z hz => by have := hy z (by simp [hz]); rw [hlen]; omega) (by rw [hlen]; omega)
    have e6 : ((runG (lessOne x y c o.length) o).length : Int) = (o.length : Int) + 6 := by rw [hlen]; omega
    rw [e6, s1, kx, ky] at ih
    simp only [lessG, carryN]
    rw [runG_append, ih]
    exact less_bits _ _ _ _ _
  | [], _ :: _, _, _, hl, _, _, _ => by simp at hl
  | _ :: _, [], _, _, hl, _, _, _ => by simp at hl
/-- the gates of a comparison carry whether two numbers are the same -/
theorem eqG_eq : ∀ (xs ys : List Int) (c : Int) (o : List Bool), xs.length = ys.length → (∀ x ∈ xs, 0 ≤ x ∧ x < o.length) → (∀ y ∈ ys, 0 ≤ y ∧ y < o.length) → 0 ≤ c ∧ c < o.length →
    at' (runG (eqG xs ys c o.length).1 o) (eqG xs ys c o.length).2 = (decide (carryN o xs = carryN o ys) && at' o c)
  | [], [], c, o, _, _, _, _ => by
    simp [eqG, carryN, runG]
  | x :: xs, y :: ys, c, o, hl, hx, hy, hc => by
    have s1 := eqOne_run o x y c (hx x (by simp)) (hy y (by simp)) hc
    have hlen : (runG (eqOne x y c o.length) o).length = o.length + 3 := by rw [runG_len]; rfl
    have kx := carryN_keep (eqOne x y c o.length) o xs (fun z hz => hx z (by simp [hz]))
    have ky := carryN_keep (eqOne x y c o.length) o ys (fun z hz => hy z (by simp [hz]))
    have ih := eqG_eq xs ys (o.length + 2) (runG (eqOne x y c o.length) o) (by simpa using hl) (fun z hz => by have := hx z (by simp [hz]); rw [hlen]; omega) (fun z hz => by have := hy z (by simp [hz]); rw [hlen]; omega) (by rw [hlen]; omega)
    have e3 : ((runG (eqOne x y c o.length) o).length : Int) = (o.length : Int) + 3 := by rw [hlen]; omega
    rw [e3, s1, kx, ky] at ih
    simp only [eqG, carryN]
    rw [runG_append, ih]
    exact eq_bits _ _ _ _ _
  | [], _ :: _, _, _, hl, _, _, _ => by simp at hl
  | _ :: _, [], _, _, hl, _, _, _ => by simp at hl
end Go.Proofs.YtmhpnkfibecnmaaDoor.M
