/-
  Plain mathematics of words that go round: letters, cuts, periods, the least lasso. No program stands in it.
-/
import Derived.WalkKit
namespace Go.Proofs.Ythamdefkcjfjpaa.M
open Go
set_option linter.unusedVariables false
set_option linter.unusedSimpArgs false

/-- a lasso: stem and loop -/
abbrev La := List Int × List Int
/-- letter k of its word -/
def letL (l : La) (k : Nat) : Int := if k < l.1.length then l.1.getD k 0 else l.2.getD ((k - l.1.length) % l.2.length) 0
/-- n letters from place a on -/
def unrL (l : La) (a n : Nat) : List Int := (List.range n).map fun i => letL l (a + i)
theorem unrL_len (l : La) (a n : Nat) : (unrL l a n).length = n := by simp [unrL]
theorem unrL_zero (l : La) (a : Nat) : unrL l a 0 = [] := rfl
theorem unrL_at (l : La) (a n i : Nat) (h : i < n) : (unrL l a n)[i]? = some (letL l (a + i)) := by simp [unrL, h]
theorem unrL_snoc (l : La) (a n : Nat) : unrL l a (n + 1) = unrL l a n ++ [letL l (a + n)] := by simp [unrL, List.range_succ]
theorem ext_at {a b : List Int} (hl : a.length = b.length) (h : ∀ i, i < a.length → a[i]? = b[i]?) : a = b := by
  apply List.ext_getElem? fun i => ?_
  by_cases hi : i < a.length
  · exact h i hi
  · rw [List.getElem?_eq_none (by omega), List.getElem?_eq_none (by omega)]
theorem unrL_append (l : La) (a n m : Nat) : unrL l a (n + m) = unrL l a n ++ unrL l (a + n) m := by
  refine ext_at (by simp [unrL_len]) fun i hi => ?_
  rw [unrL_len] at hi
  rw [unrL_at l a _ i hi]
  by_cases h : i < n
  · rw [List.getElem?_append_left (by rw [unrL_len]; exact h), unrL_at l a n i h]
  · rw [List.getElem?_append_right (by rw [unrL_len]; omega), unrL_len, unrL_at l _ m _ (by omega)]
    congr 2
    omega
theorem letL_stem {l : La} {k : Nat} {x : Int} (h : l.1[k]? = some x) : letL l k = x := by
  have hk := (List.getElem?_eq_some_iff.1 h).1
  unfold letL
  rw [if_pos hk, List.getD_eq_getElem?_getD, h]
  rfl
theorem letL_loop {l : La} {k : Nat} {x : Int} (hk : l.1.length ≤ k) (h : l.2[(k - l.1.length) % l.2.length]? = some x) : letL l k = x := by
  unfold letL
  rw [if_neg (by omega), List.getD_eq_getElem?_getD, h]
  rfl
theorem letL_round (l : La) (k : Nat) (hk : l.1.length ≤ k) : letL l (k + l.2.length) = letL l k := by
  unfold letL
  rw [if_neg (by omega), if_neg (by omega)]
  congr 1
  rw [show k + l.2.length - l.1.length = (k - l.1.length) + l.2.length from by omega, Nat.add_mod_right]
theorem unrL_stem (l : La) : unrL l 0 l.1.length = l.1 := by
  refine ext_at (unrL_len _ _ _) fun i hi => ?_
  rw [unrL_len] at hi
  obtain ⟨x, hx⟩ : ∃ x, l.1[i]? = some x := ⟨l.1[i], List.getElem?_eq_getElem hi⟩
  rw [unrL_at l 0 _ i hi, hx, Nat.zero_add, letL_stem hx]
theorem unrL_drop (l : La) (k : Nat) (hk : k ≤ l.1.length) : unrL l k (l.1.length - k) = l.1.drop k := by
  refine ext_at (by rw [unrL_len, List.length_drop]) fun i hi => ?_
  rw [unrL_len] at hi
  obtain ⟨x, hx⟩ : ∃ x, l.1[k + i]? = some x := ⟨l.1[k + i]'(by omega), List.getElem?_eq_getElem (by omega)⟩
  rw [unrL_at l k _ i hi, List.getElem?_drop, hx, letL_stem hx]
theorem unrL_loop (l : La) : unrL l l.1.length l.2.length = l.2 := by
  refine ext_at (unrL_len _ _ _) fun i hi => ?_
  rw [unrL_len] at hi
  obtain ⟨x, hx⟩ : ∃ x, l.2[i]? = some x := ⟨l.2[i], List.getElem?_eq_getElem hi⟩
  rw [unrL_at l _ _ i hi, hx, letL_loop (l := l) (k := l.1.length + i) (by omega) (x := x) (by rw [show l.1.length + i - l.1.length = i from by omega, Nat.mod_eq_of_lt hi]; exact hx)]
/-- good lassos -/
def goodLa (l : La) : Bool := decide (l.1.length ≤ 24) && decide (1 ≤ l.2.length ∧ l.2.length ≤ 24) && l.1.all (fun x => decide (0 ≤ x ∧ x ≤ 7)) && l.2.all (fun x => decide (0 ≤ x ∧ x ≤ 7))
theorem good_lens {l : La} (h : goodLa l = true) : l.1.length ≤ 24 ∧ 1 ≤ l.2.length ∧ l.2.length ≤ 24 := by
  unfold goodLa at h
  simp only [Bool.and_eq_true, decide_eq_true_eq] at h
  omega
/-- the word goes round by r letters from place t on -/
def Per (l : La) (t r : Nat) : Prop := ∀ k, t ≤ k → letL l (k + r) = letL l k
theorem Per.later {l : La} {t t' r : Nat} (h : Per l t r) (ht : t ≤ t') : Per l t' r := fun k hk => h k (Nat.le_trans ht hk)
theorem per_loop (l : La) : Per l l.1.length l.2.length := fun k hk => letL_round l k hk
theorem Per.times {l : La} {t r : Nat} (h : Per l t r) : ∀ (n k : Nat), t ≤ k → letL l (k + n * r) = letL l k
  | 0, k, hk => by simp
  | n + 1, k, hk => by
    rw [show k + (n + 1) * r = (k + n * r) + r from by rw [Nat.add_mul]; omega, h _ (by omega), h.times n k hk]
theorem Per.low {l : La} {t r : Nat} (h : Per l t r) (k : Nat) (hk : t ≤ k) : letL l k = letL l (t + (k - t) % r) := by
  have h1 := h.times ((k - t) / r) (t + (k - t) % r) (by omega)
  rw [← h1]
  congr 1
  have := Nat.mod_add_div (k - t) r
  rw [Nat.mul_comm] at this
  omega
theorem Per.minus {l : La} {t p r : Nat} (hp : Per l t p) (hr : Per l t r) (hle : r ≤ p) : Per l t (p - r) := fun k hk => by
  have h1 := hr (k + (p - r)) (by omega)
  rw [← h1, show k + (p - r) + r = k + p from by omega, hp k hk]
theorem Per.mod {l : La} {t r : Nat} (hr : Per l t r) : ∀ (n p : Nat), p ≤ n → Per l t p → Per l t (p % r)
  | 0, p, hn, hp => by
    obtain rfl : p = 0 := by omega
    rw [Nat.zero_mod]
    exact hp
  | n + 1, p, hn, hp => by
    by_cases h0 : r = 0
    · subst h0
      rw [Nat.mod_zero]
      exact hp
    by_cases hlt : p < r
    · rw [Nat.mod_eq_of_lt hlt]
      exact hp
    · rw [Nat.mod_eq_sub_mod (by omega)]
      exact hr.mod n (p - r) (by omega) (hp.minus hr (by omega))
/-- with two rounds their greatest common one -/
theorem Per.gcd {l : La} {t : Nat} : ∀ (n r p : Nat), r ≤ n → Per l t r → Per l t p → Per l t (Nat.gcd r p)
  | 0, r, p, hn, hr, hp => by
    obtain rfl : r = 0 := by omega
    rw [Nat.gcd_zero_left]
    exact hp
  | n + 1, r, p, hn, hr, hp => by
    by_cases h0 : r = 0
    · subst h0
      rw [Nat.gcd_zero_left]
      exact hp
    · rw [Nat.gcd_rec]
      exact Per.gcd n (p % r) r (by have := Nat.mod_lt p (show 0 < r by omega); omega) (hr.mod p p (Nat.le_refl _) hp) hr
/-- whether the loop is rounds of r letters -/
def isRound (l : La) (r : Nat) : Bool := decide (l.2.length % r = 0) && decide (l.2.drop r = l.2.take (l.2.length - r))
theorem isRound_per {l : La} {r : Nat} (h1 : 1 ≤ r) (hr : r ≤ l.2.length) (hp : 1 ≤ l.2.length) : isRound l r = true ↔ (l.2.length % r = 0 ∧ Per l l.1.length r) := by
  unfold isRound
  rw [Bool.and_eq_true, decide_eq_true_eq, decide_eq_true_eq]
  refine and_congr_right fun hd => ⟨fun h k hk => ?_, fun h => ?_⟩
  · have hm := per_loop l
    -- one place of the loop
    have key : ∀ i, i + r < l.2.length → l.2[i + r]? = l.2[i]? := fun i hi => by
      have e := congrArg (fun x : List Int => x[i]?) h
      simp only [List.getElem?_drop] at e
      rw [List.getElem?_take_of_lt (by omega), Nat.add_comm r i] at e
      exact e
    have low : ∀ i, i < l.2.length → l.2[(i + r) % l.2.length]? = l.2[i]? := fun i hi => by
      by_cases hh : i + r < l.2.length
      · rw [Nat.mod_eq_of_lt hh]
        exact key i hh
      · -- behind the last whole round it begins anew
        have hw : (i + r) % l.2.length = i + r - l.2.length := by
          rw [Nat.mod_eq_sub_mod (by omega), Nat.mod_eq_of_lt (by omega)]
        rw [hw]
        obtain ⟨q, hq⟩ := Nat.dvd_of_mod_eq_zero hd
        have steps : ∀ (n j : Nat), j + n * r < l.2.length → l.2[j + n * r]? = l.2[j]? := by
          intro n
          induction n with
          | zero => intro j _; simp
          | succ n ih =>
            intro j hj
            rw [Nat.add_mul, Nat.one_mul] at hj
            rw [show j + (n + 1) * r = (j + n * r) + r from by rw [Nat.add_mul]; omega, key _ (by omega), ih j (by omega)]
        have hq1 : 1 ≤ q := by
          rcases Nat.eq_zero_or_pos q with h0 | h0
          · subst h0
            omega
          · exact h0
        obtain ⟨q', rfl⟩ : ∃ q', q = q' + 1 := ⟨q - 1, by omega⟩
        rw [Nat.mul_add, Nat.mul_comm r q', Nat.mul_one] at hq
        have e := steps q' (i + r - l.2.length) (by omega)
        rw [← e]
        have e5 : i + r - l.2.length + q' * r = i := by omega
        rw [e5]
    unfold letL
    rw [if_neg (by omega), if_neg (by omega), List.getD_eq_getElem?_getD, List.getD_eq_getElem?_getD]
    have h9 := low ((k - l.1.length) % l.2.length) (Nat.mod_lt _ (by omega))
    rw [Nat.mod_add_mod] at h9
    rw [show k + r - l.1.length = k - l.1.length + r from by omega, h9]
  · refine ext_at (by simp) fun i hi => ?_
    rw [List.length_drop] at hi
    rw [List.getElem?_drop, List.getElem?_take_of_lt (by omega)]
    obtain ⟨x, hx⟩ : ∃ x, l.2[i]? = some x := ⟨l.2[i]'(by omega), List.getElem?_eq_getElem (by omega)⟩
    obtain ⟨y, hy⟩ : ∃ y, l.2[r + i]? = some y := ⟨l.2[r + i]'(by omega), List.getElem?_eq_getElem (by omega)⟩
    have e := h (l.1.length + i) (by omega)
    rw [letL_loop (l := l) (k := l.1.length + i) (x := x) (by omega) (by rw [show l.1.length + i - l.1.length = i from by omega, Nat.mod_eq_of_lt (by omega)]; exact hx),
      letL_loop (l := l) (k := l.1.length + i + r) (x := y) (by omega) (by rw [show l.1.length + i + r - l.1.length = r + i from by omega, Nat.mod_eq_of_lt (by omega)]; exact hy)] at e
    rw [hx, hy, e]
/-- the first of k, k + 1, .. that f meets, the last one if none -/
def findN (f : Nat → Bool) (k : Nat) : Nat → Nat
  | 0 => k
  | n + 1 => if f k = true then k else findN f (k + 1) n
theorem findN_is (f : Nat → Bool) : ∀ (n k r : Nat), k ≤ r → r ≤ k + n → f r = true → (∀ q, k ≤ q → q < r → f q = false) → findN f k n = r
  | 0, k, r, h1, h2, _, _ => by
    unfold findN
    omega
  | n + 1, k, r, h1, h2, hf, hn => by
    unfold findN
    by_cases e : k = r
    · subst e
      rw [if_pos hf]
    · rw [if_neg (by rw [hn k (Nat.le_refl _) (by omega)]; decide)]
      exact findN_is f n (k + 1) r (by omega) (by omega) hf (fun q h3 h4 => hn q (by omega) h4)
theorem findN_has (f : Nat → Bool) : ∀ (n k : Nat), f (k + n) = true → k ≤ findN f k n ∧ findN f k n ≤ k + n ∧ f (findN f k n) = true ∧ ∀ q, k ≤ q → q < findN f k n → f q = false
  | 0, k, h => ⟨Nat.le_refl _, by simp [findN], h, fun q h1 h2 => by simp [findN] at h2; omega⟩
  | n + 1, k, h => by
    unfold findN
    by_cases e : f k = true
    · rw [if_pos e]
      exact ⟨Nat.le_refl _, by omega, e, fun q h1 h2 => by omega⟩
    · rw [if_neg e]
      obtain ⟨h1, h2, h3, h4⟩ := findN_has f n (k + 1) (by rw [show k + 1 + n = k + (n + 1) from by omega]; exact h)
      refine ⟨by omega, by omega, h3, fun q h5 h6 => ?_⟩
      by_cases e2 : q = k
      · subst e2
        simpa using e
      · exact h4 q (by omega) h6
/-- how far back f is met without a gap -/
def downN (f : Nat → Bool) : Nat → Nat
  | 0 => 0
  | t + 1 => if f t = true then downN f t else t + 1
theorem downN_le (f : Nat → Bool) : ∀ t, downN f t ≤ t
  | 0 => Nat.le_refl _
  | t + 1 => by
    unfold downN
    have := downN_le f t
    split <;> omega
theorem downN_step {f : Nat → Bool} {t : Nat} (h : f t = true) : downN f (t + 1) = downN f t := by
  rw [downN, if_pos h]
theorem downN_stop {f : Nat → Bool} {t : Nat} (h : f t = false) : downN f (t + 1) = t + 1 := by
  rw [downN, if_neg (by rw [h]; decide)]
theorem downN_all (f : Nat → Bool) : ∀ (t q : Nat), downN f t ≤ q → q < t → f q = true
  | 0, q, _, h => by omega
  | t + 1, q, h1, h2 => by
    by_cases e : f t = true
    · rw [downN_step e] at h1
      by_cases e2 : q = t
      · subst e2
        exact e
      · exact downN_all f t q h1 (by omega)
    · rw [downN_stop (by simpa using e)] at h1
      omega
theorem downN_end (f : Nat → Bool) : ∀ t, 0 < downN f t → f (downN f t - 1) = false
  | 0, h => by simp [downN] at h
  | t + 1, h => by
    by_cases e : f t = true
    · rw [downN_step e] at h ⊢
      exact downN_end f t h
    · rw [downN_stop (by simpa using e)]
      simpa using e
/-- the shortest round, and from where on the word goes round by it -/
def roundL (l : La) : Nat := findN (isRound l) 1 (l.2.length - 1)
def backB (l : La) (r t : Nat) : Bool := letL l t == letL l (t + r)
def turnPt (l : La) (r : Nat) : Nat := downN (backB l r) l.1.length
def leastL (l : La) : La := (unrL l 0 (turnPt l (roundL l)), unrL l (turnPt l (roundL l)) (roundL l))
theorem isRound_len {l : La} (h : 1 ≤ l.2.length) : isRound l l.2.length = true := by
  unfold isRound
  simp
theorem roundL_has {l : La} (h : 1 ≤ l.2.length) : 1 ≤ roundL l ∧ roundL l ≤ l.2.length ∧ isRound l (roundL l) = true ∧ ∀ q, 1 ≤ q → q < roundL l → isRound l q = false := by
  have h1 := findN_has (isRound l) (l.2.length - 1) 1 (by rw [show 1 + (l.2.length - 1) = l.2.length from by omega]; exact isRound_len h)
  exact ⟨h1.1, by have := h1.2.1; unfold roundL; omega, h1.2.2.1, h1.2.2.2⟩
/-- no shorter round, whether it divides the loop or not -/
theorem roundL_least {l : La} (h : 1 ≤ l.2.length) (r : Nat) (h1 : 1 ≤ r) (h2 : r < roundL l) : ¬ Per l l.1.length r := fun hp => by
  obtain ⟨a, b, c, d⟩ := roundL_has h
  have hg := Per.gcd r r l.2.length (Nat.le_refl _) hp (per_loop l)
  have g1 : Nat.gcd r l.2.length ≤ r := Nat.gcd_le_left _ (by omega)
  have g0 : 0 < Nat.gcd r l.2.length := Nat.gcd_pos_of_pos_left _ (by omega)
  have h9 := d _ g0 (by omega)
  have h8 := (isRound_per (l := l) g0 (by omega) h).2 ⟨Nat.mod_eq_zero_of_dvd (Nat.gcd_dvd_right _ _), hg⟩
  rw [h8] at h9
  cases h9
theorem per_turn {l : La} {r t : Nat} (hr : Per l l.1.length r) (ht : t ≤ l.1.length) : Per l t r ↔ turnPt l r ≤ t := by
  constructor
  · intro h
    rcases Nat.lt_or_ge t (turnPt l r) with hlt | hge
    · have h0 : backB l r (turnPt l r - 1) = false := downN_end (backB l r) l.1.length (by unfold turnPt at hlt; omega)
      have h1 := h (turnPt l r - 1) (by omega)
      unfold backB at h0
      rw [h1] at h0
      simp at h0
    · exact hge
  · intro h k hk
    by_cases hkl : l.1.length ≤ k
    · exact hr k hkl
    · have h1 := downN_all (backB l r) l.1.length k (Nat.le_trans h hk) (by omega)
      unfold backB at h1
      exact (eq_of_beq h1).symm
theorem turnPt_le (l : La) (r : Nat) : turnPt l r ≤ l.1.length := downN_le _ _
/-- two words are the same in their first n letters -/
def sameN (n : Nat) (a b : La) : Bool := decide (unrL a 0 n = unrL b 0 n)
theorem sameN_iff (n : Nat) (a b : La) : sameN n a b = true ↔ ∀ k, k < n → letL a k = letL b k := by
  unfold sameN
  rw [decide_eq_true_eq]
  constructor
  · intro h k hk
    have e := congrArg (fun x : List Int => x[k]?) h
    simp only [unrL_at _ _ _ _ hk, Nat.zero_add] at e
    exact Option.some.inj e
  · intro h
    refine ext_at (by rw [unrL_len, unrL_len]) fun i hi => ?_
    rw [unrL_len] at hi
    rw [unrL_at _ _ _ _ hi, unrL_at _ _ _ _ hi, Nat.zero_add, h i hi]
/-- words that are the same so far are so wholly -/
theorem same_far {a b : La} {m p q n : Nat} (ha : Per a m p) (hb : Per b m q) (hp : 1 ≤ p) (hq : 1 ≤ q) (hn : m + p + q ≤ n) (h : ∀ k, k < n → letL a k = letL b k) : ∀ k, letL a k = letL b k := by
  -- a goes round by q too
  have haq : Per a m q := fun k hk => by
    have h1 := ha.low k hk
    have h2 : letL a (k + q) = letL a (m + (k - m) % p + q) := by
      have h3 := ha.times ((k - m) / p) (m + (k - m) % p + q) (by omega)
      rw [← h3]
      congr 1
      have := Nat.mod_add_div (k - m) p
      rw [Nat.mul_comm] at this
      omega
    have hlt := Nat.mod_lt (k - m) (show 0 < p by omega)
    rw [h1, h2, h _ (by omega), h _ (by omega)]
    exact hb _ (by omega)
  intro k
  by_cases hk : k < n
  · exact h k hk
  · have hlt := Nat.mod_lt (k - m) (show 0 < q by omega)
    rw [haq.low k (by omega), hb.low k (by omega)]
    exact h _ (by omega)
theorem sameN_far {a b : La} {n n' : Nat} (ha : goodLa a = true) (hb : goodLa b = true) (hn : Nat.max a.1.length b.1.length + a.2.length + b.2.length ≤ n) (hn' : Nat.max a.1.length b.1.length + a.2.length + b.2.length ≤ n') : sameN n a b = sameN n' a b := by
  obtain ⟨a1, a2, a3⟩ := good_lens ha
  obtain ⟨b1, b2, b3⟩ := good_lens hb
  have pa : Per a (Nat.max a.1.length b.1.length) a.2.length := (per_loop a).later (Nat.le_max_left _ _)
  have pb : Per b (Nat.max a.1.length b.1.length) b.2.length := (per_loop b).later (Nat.le_max_right _ _)
  rw [Bool.eq_iff_iff, sameN_iff, sameN_iff]
  exact ⟨fun h k _ => same_far pa pb a2 b2 hn h k, fun h k _ => same_far pa pb a2 b2 hn' h k⟩
/-- a lasso cut out of a word at t, of r letters, has the same word just where the word goes round so -/
theorem cut_let {l : La} {t r : Nat} (h1 : 1 ≤ r) (k : Nat) : letL (unrL l 0 t, unrL l t r) k = if k < t then letL l k else letL l (t + (k - t) % r) := by
  by_cases hk : k < t
  · rw [if_pos hk]
    refine letL_stem (l := (unrL l 0 t, unrL l t r)) ?_
    show (unrL l 0 t)[k]? = _
    rw [unrL_at _ _ _ _ hk, Nat.zero_add]
  · rw [if_neg hk]
    refine letL_loop (l := (unrL l 0 t, unrL l t r)) (by show (unrL l 0 t).length ≤ k; rw [unrL_len]; omega) ?_
    show (unrL l t r)[(k - (unrL l 0 t).length) % (unrL l t r).length]? = _
    rw [unrL_len, unrL_len]
    exact unrL_at _ _ _ _ (Nat.mod_lt _ (by omega))
theorem cut_same {l : La} (hg : goodLa l = true) {t r : Nat} (h1 : 1 ≤ r) (hr : r ≤ 24) (ht : t ≤ l.1.length) : sameN 600 (unrL l 0 t, unrL l t r) l = true ↔ Per l t r := by
  obtain ⟨a1, a2, a3⟩ := good_lens hg
  rw [sameN_iff]
  constructor
  · intro h k hk
    -- low places
    have low : ∀ j, t ≤ j → j + r < 600 → letL l (j + r) = letL l j := fun j hj hlt => by
      rw [← h (j + r) hlt, ← h j (by omega), cut_let h1, cut_let h1, if_neg (by omega), if_neg (by omega)]
      congr 2
      rw [show j + r - t = j - t + r from by omega, Nat.add_mod_right]
    by_cases hk2 : k < 100
    · exact low k hk (by omega)
    · have hp := per_loop l
      have e1 := hp.low k (by omega)
      have hlt := Nat.mod_lt (k - l.1.length) (show 0 < l.2.length by omega)
      have e2 : letL l (k + r) = letL l (l.1.length + (k - l.1.length) % l.2.length + r) := by
        have h3 := hp.times ((k - l.1.length) / l.2.length) (l.1.length + (k - l.1.length) % l.2.length + r) (by omega)
        rw [← h3]
        congr 1
        have := Nat.mod_add_div (k - l.1.length) l.2.length
        rw [Nat.mul_comm] at this
        omega
      rw [e1, e2]
      exact low _ (by omega) (by omega)
  · intro h k _
    rw [cut_let h1]
    by_cases hk : k < t
    · rw [if_pos hk]
    · rw [if_neg hk]
      exact (h.low k (by omega)).symm
/-- one place of the search of the model -/
def cutB (l : La) (r t : Nat) : Bool := sameN 600 (unrL l 0 t, unrL l t r) l
theorem cutB_short {l : La} (hg : goodLa l = true) {t r : Nat} (h1 : 1 ≤ r) (hr : r < roundL l) (ht : t ≤ l.1.length) : cutB l r t = false := by
  obtain ⟨a1, a2, a3⟩ := good_lens hg
  obtain ⟨b1, b2, _, _⟩ := roundL_has a2
  rw [← Bool.not_eq_true]
  intro h
  exact roundL_least a2 r h1 hr (((cut_same hg h1 (by omega) ht).1 h).later ht)
theorem cutB_round {l : La} (hg : goodLa l = true) {t : Nat} (ht : t ≤ l.1.length) : cutB l (roundL l) t = decide (turnPt l (roundL l) ≤ t) := by
  obtain ⟨a1, a2, a3⟩ := good_lens hg
  obtain ⟨b1, b2, b3, _⟩ := roundL_has a2
  have hp := ((isRound_per (l := l) b1 b2 a2).1 b3).2
  rw [Bool.eq_iff_iff, decide_eq_true_eq, ← per_turn hp ht]
  exact cut_same hg b1 (by omega) ht
theorem turn_last (l : La) (h : l.1.length ≤ turnPt l l.2.length) (hr : roundL l = l.2.length) : leastL l = l := by
  have := turnPt_le l l.2.length
  have e : turnPt l l.2.length = l.1.length := by omega
  unfold leastL
  rw [hr, e, unrL_stem, unrL_loop]
/-- the suffix from letter k on -/
def sufL (l : La) (k : Nat) : La := (unrL l k (Nat.max k l.1.length - k), unrL l (Nat.max k l.1.length) l.2.length)
theorem sufL_stem (l : La) (k : Nat) (hk : k ≤ l.1.length) : sufL l k = (l.1.drop k, l.2) := by
  unfold sufL
  rw [show Nat.max k l.1.length = l.1.length from Nat.max_eq_right hk, unrL_drop l k hk, unrL_loop]
theorem sufL_loop (l : La) (k : Nat) (hk : l.1.length ≤ k) : sufL l k = ([], unrL l k l.2.length) := by
  unfold sufL
  rw [show Nat.max k l.1.length = k from Nat.max_eq_left hk, Nat.sub_self]
  rfl
/-- a good one, or the empty one -/
def madeL (l : La) : La := if goodLa l = true then l else ([], [])
def turnL (l : La) : La := (unrL l 0 (l.1.length + 1), unrL l (l.1.length + 1) l.2.length)
def stutL (l : La) (k : Nat) : La := (unrL l 0 (k + 1) ++ unrL l k (Nat.max k l.1.length - k), unrL l (Nat.max k l.1.length) l.2.length)
theorem stutL_stem (l : La) (k : Nat) (hk : k < l.1.length) : stutL l k = (unrL l 0 k ++ [letL l k] ++ l.1.drop k, l.2) := by
  have h := sufL_stem l k (by omega)
  unfold sufL at h
  injection h with h1 h2
  unfold stutL
  rw [h1, h2, unrL_snoc, Nat.zero_add]
theorem stutL_loop (l : La) (k : Nat) (hk : l.1.length ≤ k) : stutL l k = (unrL l 0 k ++ [letL l k], unrL l k l.2.length) := by
  have h := sufL_loop l k hk
  unfold sufL at h
  injection h with h1 h2
  unfold stutL
  rw [h1, h2, unrL_snoc, Nat.zero_add, List.append_nil]
end Go.Proofs.Ythamdefkcjfjpaa.M
