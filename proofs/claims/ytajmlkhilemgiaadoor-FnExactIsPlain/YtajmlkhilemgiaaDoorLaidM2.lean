/-
  Plain mathematics of terms that are laid out as gates: which wires gates take, how the pile of wires goes with the pile of kinds. No program stands in it.
-/
import Derived.Test.YtajmlkhilemgiaaDoorLaidM
namespace Go.Proofs.YtajmlkhilemgiaaDoor
open Go
open M
set_option linter.unusedVariables false
set_option linter.unusedSimpArgs false

/-- no node divides or shifts -/
def plainN (x : Nd) : Prop := x.1 ≠ 6 ∧ x.1 ≠ 7 ∧ x.1 ≠ 11 ∧ x.1 ≠ 12
theorem stepK_cases {wide vars : Int} {ks ks' : List Int} {x : Nd} (h : stepK wide vars ks x = some ks') : ¬ ownOf x.1 = 0 ∧ okN wide vars x.1 x.2 = true ∧
    ((manyOf x.1 = 0 ∧ ks' = ks ++ [ownOf x.1]) ∨ (manyOf x.1 = 1 ∧ ∃ q, ks = q ++ [partOf x.1] ∧ ks' = q ++ [ownOf x.1]) ∨ (manyOf x.1 = 2 ∧ ∃ q, ks = q ++ [partOf x.1] ++ [partOf x.1] ∧ ks' = q ++ [ownOf x.1])) := by
  unfold stepK at h
  split at h
  · cases h
  rename_i hn
  have h1 : ¬ ownOf x.1 = 0 := fun e => hn (Or.inl e)
  have h2 : okN wide vars x.1 x.2 = true := by
    cases e : okN wide vars x.1 x.2
    · exact absurd (Or.inr (Or.inl e)) hn
    · rfl
  refine ⟨h1, h2, ?_⟩
  have hm : manyOf x.1 = 0 ∨ manyOf x.1 = 1 ∨ manyOf x.1 = 2 := by
    unfold manyOf
    split
    · omega
    · split <;> omega
  rcases hm with hm | hm | hm
  · left
    rw [hm] at h
    simp [popN] at h
    exact ⟨hm, h.symm⟩
  · right; left
    refine ⟨hm, ?_⟩
    rw [hm] at h
    simp only [popN] at h
    split at h
    · rename_i hl
      simp only [Option.map_some, Option.some.injEq] at h
      obtain ⟨q, hq⟩ := List.getLast?_eq_some_iff.1 hl
      refine ⟨q, hq, ?_⟩
      rw [← h, hq]
      simp
    · cases h
  · right; right
    refine ⟨hm, ?_⟩
    rw [hm] at h
    simp only [popN] at h
    split at h
    · rename_i hl
      obtain ⟨q, hq⟩ := List.getLast?_eq_some_iff.1 hl
      split at h
      · rename_i hl2
        simp only [Option.map_some, Option.some.injEq] at h
        rw [hq] at hl2 h
        simp only [List.dropLast_concat] at hl2 h
        obtain ⟨q2, hq2⟩ := List.getLast?_eq_some_iff.1 hl2
        refine ⟨q2, by rw [hq, hq2], ?_⟩
        rw [← h, hq2]
        simp
      · cases h
    · cases h
/-- the pile of wires goes with the pile of kinds -/
def LensOk (W : Nat) (p : List (List Int)) (ks : List Int) : Prop := p.map List.length = ks.map (lenK W)
theorem LensOk.snoc {W : Nat} {p : List (List Int)} {ks : List Int} {k : Int} (h : LensOk W p (ks ++ [k])) : ∃ q a, p = q ++ [a] ∧ LensOk W q ks ∧ a.length = lenK W k := by
  unfold LensOk at h
  rw [List.map_append] at h
  obtain ⟨q, l, rfl, h1, h2⟩ := List.map_eq_append_iff.1 h
  simp only [List.map_cons, List.map_nil] at h2
  obtain ⟨a, r, rfl, h3, h4⟩ := List.map_eq_cons_iff.1 h2
  simp only [List.map_eq_nil_iff] at h4
  subst h4
  exact ⟨q, a, rfl, h1, h3⟩
theorem LensOk.add {W : Nat} {p : List (List Int)} {ks : List Int} {k : Int} {a : List Int} (h : LensOk W p ks) (ha : a.length = lenK W k) : LensOk W (p ++ [a]) (ks ++ [k]) := by
  unfold LensOk at h ⊢
  simp [h, ha]
/-- what a node finds on the pile -/
theorem pile_step {W : Nat} (hW : W ≤ 4) {wide vars : Int} {p : List (List Int)} {ks ks' : List Int} {x : Nd} (hp : LensOk W p ks) (hx : plainN x) (h : stepK wide vars ks x = some ks') (S : Int) :
    manyOf x.1 ≤ p.length ∧ (1 ≤ manyOf x.1 → (firstP x.1 p).length = lenK W (partOf x.1) ∧ p[p.length - manyOf x.1]? = some (firstP x.1 p)) ∧ (manyOf x.1 = 2 → (secondP x.1 p).length = lenK W (partOf x.1) ∧ p[p.length - 1]? = some (secondP x.1 p)) ∧
    (layN W x.1 x.2 (firstP x.1 p) (secondP x.1 p) S).1.length ≤ 110 ∧ (layN W x.1 x.2 (firstP x.1 p) (secondP x.1 p) S).2.length = lenK W (ownOf x.1) ∧
    LensOk W (p.take (p.length - manyOf x.1) ++ [(layN W x.1 x.2 (firstP x.1 p) (secondP x.1 p) S).2]) ks' := by
  obtain ⟨h1, h2, hc⟩ := stepK_cases h
  rcases hc with ⟨hm, rfl⟩ | ⟨hm, q, rfl, rfl⟩ | ⟨hm, q, rfl, rfl⟩
  · have hl := layN_len W hW x.1 x.2 (firstP x.1 p) (secondP x.1 p) S h1 hx (fun h => by omega) (fun h => by omega)
    refine ⟨by omega, fun h => by omega, fun h => by omega, hl.1, hl.2, ?_⟩
    rw [hm, Nat.sub_zero, List.take_length]
    exact hp.add hl.2
  · obtain ⟨p0, a, rfl, hp0, ha⟩ := hp.snoc
    have e1 := firstP_one hm p0 a
    have hl := layN_len W hW x.1 x.2 (firstP x.1 (p0 ++ [a])) (secondP x.1 (p0 ++ [a])) S h1 hx (fun _ => by rw [e1]; exact ha) (fun h => by omega)
    refine ⟨by simp; omega, fun _ => ⟨by rw [e1]; exact ha, by rw [e1, hm]; simp⟩, fun h => by omega, hl.1, hl.2, ?_⟩
    rw [hm, show (p0 ++ [a]).take ((p0 ++ [a]).length - 1) = p0 from by simp]
    exact hp0.add hl.2
  · obtain ⟨p1, b, rfl, hp1, hb⟩ := hp.snoc
    obtain ⟨p0, a, rfl, hp0, ha⟩ := hp1.snoc
    have e1 := firstP_two hm p0 a b
    have e2 := secondP_two hm (p0 ++ [a]) b
    have hl := layN_len W hW x.1 x.2 (firstP x.1 (p0 ++ [a] ++ [b])) (secondP x.1 (p0 ++ [a] ++ [b])) S h1 hx (fun _ => by rw [e1]; exact ha) (fun _ => by rw [e2]; exact hb)
    refine ⟨by simp; omega, fun _ => ⟨by rw [e1]; exact ha, by rw [e1, hm]; simp⟩, fun _ => ⟨by rw [e2]; exact hb, by rw [e2]; simp⟩, hl.1, hl.2, ?_⟩
    rw [hm, show (p0 ++ [a] ++ [b]).take ((p0 ++ [a] ++ [b]).length - 2) = p0 from by simp]
    exact hp0.add hl.2
theorem layP_lens (W : Nat) (hW : W ≤ 4) {wide vars : Int} : ∀ (s : List Nd) (p : List (List Int)) (ks0 ks : List Int) (S : Int), LensOk W p ks0 → (∀ x ∈ s, plainN x) → foldK wide vars s ks0 = some ks →
    LensOk W (layP W s p S).2 ks ∧ (layP W s p S).1.length ≤ 110 * s.length
  | [], p, ks0, ks, S, hp, _, h => by
    simp only [foldK, Option.some.injEq] at h
    subst h
    exact ⟨hp, by simp [layP]⟩
  | x :: s, p, ks0, ks, S, hp, hx, h => by
    simp only [foldK] at h
    cases e : stepK wide vars ks0 x with
    | none => rw [e] at h; cases h
    | some ks1 =>
      rw [e] at h
      obtain ⟨_, _, _, hg, _, hl⟩ := pile_step hW hp (hx x (by simp)) e S
      have ih := layP_lens W hW s _ ks1 ks (S + (layN W x.1 x.2 (firstP x.1 p) (secondP x.1 p) S).1.length) hl (fun y hy => hx y (by simp [hy])) h
      refine ⟨ih.1, ?_⟩
      simp only [layP, List.length_append, List.length_cons]
      omega
theorem addG_in : ∀ (xs ys : List Int) (c n : Int), ∀ x ∈ (addG xs ys c n).2, n ≤ x ∧ x < n + 5 * xs.length
  | [], ys, c, n, x, h => by simp [addG] at h
  | _ :: _, [], c, n, x, h => by simp [addG] at h
  | a :: xs, b :: ys, c, n, x, h => by
    simp only [addG, List.mem_cons] at h
    simp only [List.length_cons]
    rcases h with rfl | h
    · omega
    · have := addG_in xs ys (n + 4) (n + 5) x h
      omega
theorem onW_in (c n s d : Int) (k : Nat) (hs : 0 ≤ d) (hd : d < s) : onW c n s d k = c ∨ (n ≤ onW c n s d k ∧ onW c n s d k < n + s * k) := by
  cases k with
  | zero => left; rfl
  | succ k =>
    right
    simp only [onW]
    have e : s * ((k + 1 : Nat) : Int) = s * k + s := by rw [show ((k + 1 : Nat) : Int) = (k : Int) + 1 from by omega, Int.mul_add, Int.mul_one]
    have : 0 ≤ s * (k : Int) := Int.mul_nonneg (by omega) (by omega)
    omega
/-- the wires that are made lie below the count behind, the gates take such ones -/
def InW (S : Int) (r : List Gt × List Int) : Prop := (∀ x ∈ r.2, 0 ≤ x ∧ x < S + r.1.length) ∧ ∀ m : Int, 1 ≤ m → S + r.1.length ≤ m → ∀ g ∈ r.1, smG m g
theorem bitsG_sm (n : Int) (k : Nat) (m : Int) (hm : 1 ≤ m) : ∀ g ∈ bitsG n k, smG m g := by
  intro g hg
  simp only [bitsG, List.mem_map, List.mem_range] at hg
  obtain ⟨j, _, rfl⟩ := hg
  have := bitI_range n j
  exact ⟨by simp, by simp only; omega, by simp only; omega⟩
theorem notsG_sm (a : List Int) (m : Int) (hm : 0 ≤ m) (h : ∀ x ∈ a, 0 ≤ x ∧ x ≤ m) : ∀ g ∈ notsG a, smG m g := by
  intro g hg
  simp only [notsG, List.mem_map] at hg
  obtain ⟨x, hx, rfl⟩ := hg
  exact ⟨by simp, h x hx, by simp; omega⟩
theorem pairG_sm (kind : Int) (hk : 0 ≤ kind ∧ kind ≤ 5) (m : Int) : ∀ (a b : List Int), (∀ x ∈ a, 0 ≤ x ∧ x ≤ m) → (∀ x ∈ b, 0 ≤ x ∧ x ≤ m) → ∀ g ∈ pairG kind a b, smG m g
  | [], b, _, _, g, hg => by simp [pairG] at hg
  | _ :: _, [], _, _, g, hg => by simp [pairG] at hg
  | x :: a, y :: b, ha, hb, g, hg => by
    simp only [pairG, List.zipWith_cons_cons, List.mem_cons] at hg
    rcases hg with rfl | hg
    · exact ⟨hk, ha x (by simp), hb y (by simp)⟩
    · exact pairG_sm kind hk m a b (fun z hz => ha z (by simp [hz])) (fun z hz => hb z (by simp [hz])) g hg
theorem bit_sm (n m : Int) (h0 : 0 ≤ n) (h1 : n ≤ 1) (hm : 1 ≤ m) : smG m (1, n, 0) := ⟨by simp, by simp only; omega, by simp only; omega⟩
theorem mulRow_sm (x : List Int) (y : Int) (k : Nat) (m : Int) (hm : 1 ≤ m) (hx : ∀ z ∈ x, 0 ≤ z ∧ z ≤ m) (hy : 0 ≤ y ∧ y ≤ m) : ∀ g ∈ mulRow x y k, smG m g := by
  intro g hg
  simp only [mulRow, List.mem_append, List.mem_replicate, List.mem_map] at hg
  rcases hg with ⟨_, rfl⟩ | ⟨z, hz, rfl⟩
  · exact bit_sm 0 m (by omega) (by omega) hm
  · exact ⟨by simp, hx z (List.mem_of_mem_take hz), hy⟩
theorem mulF_in (x : List Int) : ∀ (ys : List Int) (k : Nat) (sum : List Int) (S : Int), k + ys.length ≤ x.length → sum.length = x.length → 0 ≤ S → (∀ z ∈ x, 0 ≤ z ∧ z < S) → (∀ z ∈ ys, 0 ≤ z ∧ z < S) → (∀ z ∈ sum, 0 ≤ z ∧ z < S) → InW S (mulF x ys k sum S)
  | [], _, sum, S, _, _, h0, _, _, hs => ⟨fun z hz => by have := hs z hz; simp [mulF]; omega, fun m _ _ g hg => by simp [mulF] at hg⟩
  | y :: ys, k, sum, S, h, hl, h0, hx, hy, hs => by
    simp only [List.length_cons] at h
    have hA := addG_len sum (wiresF S x.length) (S + x.length) (S + x.length + 1) (by rw [wiresF_len, hl])
    have hAi := addG_in sum (wiresF S x.length) (S + x.length) (S + x.length + 1)
    have hR := mulRow_len x y k (by omega)
    have ih := mulF_in x ys (k + 1) (addG sum (wiresF S x.length) (S + x.length) (S + x.length + 1)).2 (S + 6 * x.length + 1) (by omega) (by omega) (by omega) (fun z hz => by have := hx z hz; omega) (fun z hz => by have := hy z (by simp [hz]); omega) (fun z hz => by have := hAi z hz; omega)
    have hAm := fun m => addG_sm m sum (wiresF S x.length) (S + x.length) (S + x.length + 1)
    have hRs := fun m hm => mulRow_sm x y k m hm
    generalize hAA : addG sum (wiresF S x.length) (S + x.length) (S + x.length + 1) = A at *
    generalize hMM : mulF x ys (k + 1) A.2 (S + 6 * x.length + 1) = M at *
    generalize hRR : mulRow x y k = R at *
    have hT : (mulF x (y :: ys) k sum S) = (R ++ [(1, 0, 0)] ++ A.1 ++ M.1, M.2) := by simp only [mulF, hAA, hMM, hRR]
    rw [hT]
    constructor
    · intro z hz
      have := ih.1 z hz
      simp only [List.length_append, List.length_cons, List.length_nil, hR, hA.1]
      omega
    · intro m hm hle g hg
      simp only [List.length_append, List.length_cons, List.length_nil, hR, hA.1] at hle
      simp only [List.mem_append, List.mem_singleton] at hg
      rcases hg with ((hg | rfl) | hg) | hg
      · exact hRs m hm (fun z hz => by have := hx z hz; omega) (by have := hy y (by simp); omega) g hg
      · exact bit_sm 0 m (by omega) (by omega) hm
      · exact hAm m (fun z hz => by have := hs z hz; omega) (fun z hz => by have := wiresF_mem hz; omega) (by omega) (by omega) (by omega) (by omega) g hg
      · exact ih.2 m hm (by omega) g hg
theorem topW_in {a : List Int} {s : Int} {P : Int → Prop} (ha : ∀ x ∈ a, P x) (hs : P s) : ∀ x ∈ topW a s, P x := by
  intro x hx
  simp only [topW, List.mem_append, List.mem_singleton] at hx
  rcases hx with hx | rfl
  · exact ha x (List.mem_of_mem_take hx)
  · exact hs
theorem getD_in {a : List Int} {S : Int} (ha : ∀ x ∈ a, 0 ≤ x ∧ x < S) (h0 : 0 < S) (i : Nat) : 0 ≤ a.getD i 0 ∧ a.getD i 0 < S := by
  rw [List.getD_eq_getElem?_getD]
  cases e : a[i]? with
  | none => simp; omega
  | some x => exact ha x (List.mem_of_getElem? e)
theorem layN_in (W : Nat) (hW : 1 ≤ W) (hW4 : W ≤ 4) (op n : Int) (a b : List Int) (S : Int) (hS : 1 ≤ S) (hlen : manyOf op = 2 → a.length = b.length) (ho : ¬ ownOf op = 0) (hv : op = 2 → 0 ≤ n ∧ n * W + W ≤ S)
    (ha : ∀ x ∈ a, 0 ≤ x ∧ x < S) (hb : ∀ x ∈ b, 0 ≤ x ∧ x < S) : InW S (layN W op n a b S) := by
  have hnil : InW S (([] : List Gt), ([] : List Int)) := ⟨fun x hx => by simp at hx, fun m _ _ g hg => by simp at hg⟩
  have hr : 1 ≤ op ∧ op ≤ 20 := by
    unfold ownOf at ho
    split at ho
    · omega
    · split at ho <;> omega
  have hm : op = 1 ∨ op = 2 ∨ op = 3 ∨ op = 4 ∨ op = 5 ∨ op = 6 ∨ op = 7 ∨ op = 8 ∨ op = 9 ∨ op = 10 ∨ op = 11 ∨ op = 12 ∨ op = 13 ∨ op = 14 ∨ op = 15 ∨ op = 16 ∨ op = 17 ∨ op = 18 ∨ op = 19 ∨ op = 20 := by omega
  clear hr ho
  rcases hm with rfl | rfl | rfl | rfl | rfl | rfl | rfl | rfl | rfl | rfl | rfl | rfl | rfl | rfl | rfl | rfl | rfl | rfl | rfl | rfl
  all_goals simp (config := {decide := true}) only [layN, if_true, if_false]
  · exact ⟨fun x hx => by have := wiresF_mem hx; simp only [bitsG_len]; omega, fun m hm _ => bitsG_sm n W m hm⟩
  · exact ⟨fun x hx => by have := wiresF_mem hx; have := hv rfl; have : 0 ≤ n * W := Int.mul_nonneg (by omega) (by omega); simp; omega, fun m _ _ g hg => by simp at hg⟩
  · have hl := hlen (by decide)
    have hA := addG_len a b S (S + 1) hl
    refine ⟨fun x hx => ?_, fun m hm hle g hg => ?_⟩
    · have := addG_in a b S (S + 1) x hx
      simp only [List.length_append, List.length_cons, List.length_nil, hA.1]
      omega
    · simp only [List.length_append, List.length_cons, List.length_nil, hA.1] at hle
      simp only [List.mem_append, List.mem_singleton] at hg
      rcases hg with rfl | hg
      · exact bit_sm 0 m (by omega) (by omega) hm
      · exact addG_sm m a b S (S + 1) (fun x hx => by have := ha x hx; omega) (fun x hx => by have := hb x hx; omega) (by omega) (by omega) (by omega) (by omega) g hg
  · have hl := hlen (by decide)
    have hA := addG_len a (wiresF S b.length) (S + b.length) (S + b.length + 1) (by rw [wiresF_len]; exact hl)
    refine ⟨fun x hx => ?_, fun m hm hle g hg => ?_⟩
    · have := addG_in a (wiresF S b.length) (S + b.length) (S + b.length + 1) x hx
      simp only [List.length_append, List.length_cons, List.length_nil, hA.1, notsG_len]
      omega
    · simp only [List.length_append, List.length_cons, List.length_nil, hA.1, notsG_len] at hle
      simp only [List.mem_append, List.mem_singleton] at hg
      rcases hg with (hg | rfl) | hg
      · exact notsG_sm b m (by omega) (fun x hx => by have := hb x hx; omega) g hg
      · exact bit_sm 1 m (by omega) (by omega) hm
      · exact addG_sm m a (wiresF S b.length) (S + b.length) (S + b.length + 1) (fun x hx => by have := ha x hx; omega) (fun x hx => by have := wiresF_mem hx; omega) (by omega) (by omega) (by omega) (by omega) g hg
  · have hl := hlen (by decide)
    have hM := mulF_in a b 0 (wiresF S a.length) (S + a.length) (by omega) (wiresF_len _ _) (by omega) (fun x hx => by have := ha x hx; omega) (fun x hx => by have := hb x hx; omega) (fun x hx => by have := wiresF_mem hx; omega)
    refine ⟨fun x hx => ?_, fun m hm hle g hg => ?_⟩
    · have := hM.1 x hx
      simp only [mulG, List.length_append, bitsG_len]
      omega
    · simp only [mulG, List.length_append, bitsG_len] at hle
      simp only [mulG, List.mem_append] at hg
      rcases hg with hg | hg
      · exact bitsG_sm 0 _ m hm g hg
      · exact hM.2 m hm (by omega) g hg
  · exact hnil
  · exact hnil
  · have hl := hlen (by decide)
    exact ⟨fun x hx => by have := wiresF_mem hx; simp only [pairG_len _ _ _ hl]; omega, fun m hm hle => pairG_sm 3 (by omega) m a b (fun x hx => by have := ha x hx; omega) (fun x hx => by have := hb x hx; omega)⟩
  · have hl := hlen (by decide)
    exact ⟨fun x hx => by have := wiresF_mem hx; simp only [pairG_len _ _ _ hl]; omega, fun m hm hle => pairG_sm 4 (by omega) m a b (fun x hx => by have := ha x hx; omega) (fun x hx => by have := hb x hx; omega)⟩
  · have hl := hlen (by decide)
    exact ⟨fun x hx => by have := wiresF_mem hx; simp only [pairG_len _ _ _ hl]; omega, fun m hm hle => pairG_sm 5 (by omega) m a b (fun x hx => by have := ha x hx; omega) (fun x hx => by have := hb x hx; omega)⟩
  · exact hnil
  · exact hnil
  · exact ⟨fun x hx => by have := wiresF_mem hx; simp only [notsG_len]; omega, fun m hm hle => notsG_sm a m (by omega) (fun x hx => by have := ha x hx; omega)⟩
  · have hl := hlen (by decide)
    have hA := eqG_len a b S (S + 1) hl
    refine ⟨fun x hx => ?_, fun m hm hle g hg => ?_⟩
    · have h1 := onW_in S (S + 1) 3 2 a.length (by omega) (by omega)
      simp only [List.mem_singleton] at hx
      subst hx
      simp only [List.length_append, List.length_cons, List.length_nil, hA]
      omega
    · simp only [List.length_append, List.length_cons, List.length_nil, hA] at hle
      simp only [List.mem_append, List.mem_singleton] at hg
      rcases hg with rfl | hg
      · exact bit_sm 1 m (by omega) (by omega) hm
      · exact eqG_sm m a b S (S + 1) (fun x hx => by have := ha x hx; omega) (fun x hx => by have := hb x hx; omega) (by omega) (by omega) (by omega) (by omega) g hg
  · have hl := hlen (by decide)
    have hA := lessG_len a b S (S + 1) hl
    refine ⟨fun x hx => ?_, fun m hm hle g hg => ?_⟩
    · have h1 := onW_in S (S + 1) 6 5 a.length (by omega) (by omega)
      simp only [List.mem_singleton] at hx
      subst hx
      simp only [List.length_append, List.length_cons, List.length_nil, hA]
      omega
    · simp only [List.length_append, List.length_cons, List.length_nil, hA] at hle
      simp only [List.mem_append, List.mem_singleton] at hg
      rcases hg with rfl | hg
      · exact bit_sm 0 m (by omega) (by omega) hm
      · exact lessG_sm m a b S (S + 1) (fun x hx => by have := ha x hx; omega) (fun x hx => by have := hb x hx; omega) (by omega) (by omega) (by omega) (by omega) g hg
  · have hl := hlen (by decide)
    have htl : (topW a S).length = (topW b (S + 1)).length := by simp [topW]; omega
    have hta : (topW a S).length = (a.length - 1) + 1 := by simp [topW]
    have hA := lessG_len (topW a S) (topW b (S + 1)) (S + 2) (S + 3) htl
    refine ⟨fun x hx => ?_, fun m hm hle g hg => ?_⟩
    · have h1 := onW_in (S + 2) (S + 3) 6 5 a.length (by omega) (by omega)
      simp only [List.mem_singleton] at hx
      subst hx
      simp only [List.length_append, List.length_cons, List.length_nil, hA]
      omega
    · simp only [List.length_append, List.length_cons, List.length_nil, hA] at hle
      simp only [List.mem_append, List.mem_singleton, List.mem_cons, List.not_mem_nil, or_false] at hg
      rcases hg with ((rfl | rfl) | rfl) | hg
      · exact ⟨by simp, by have := getD_in ha (by omega) (a.length - 1); simp only; omega, by simp only; omega⟩
      · exact ⟨by simp, by have := getD_in hb (by omega) (b.length - 1); simp only; omega, by simp only; omega⟩
      · exact bit_sm 0 m (by omega) (by omega) hm
      · exact lessG_sm m _ _ (S + 2) (S + 3) (topW_in (fun x hx => by have := ha x hx; omega) (by omega)) (topW_in (fun x hx => by have := hb x hx; omega) (by omega)) (by omega) (by omega) (by omega) (by omega) g hg
  · have hl := hlen (by decide)
    exact ⟨fun x hx => by have := wiresF_mem hx; simp only [pairG_len _ _ _ hl]; omega, fun m hm hle => pairG_sm 3 (by omega) m a b (fun x hx => by have := ha x hx; omega) (fun x hx => by have := hb x hx; omega)⟩
  · have hl := hlen (by decide)
    exact ⟨fun x hx => by have := wiresF_mem hx; simp only [pairG_len _ _ _ hl]; omega, fun m hm hle => pairG_sm 4 (by omega) m a b (fun x hx => by have := ha x hx; omega) (fun x hx => by have := hb x hx; omega)⟩
  · exact ⟨fun x hx => by have := wiresF_mem hx; simp only [notsG_len]; omega, fun m hm hle => notsG_sm a m (by omega) (fun x hx => by have := ha x hx; omega)⟩
  · exact ⟨fun x hx => by have := wiresF_mem hx; simp only [bitsG_len]; omega, fun m hm _ => bitsG_sm n 1 m hm⟩
end Go.Proofs.YtajmlkhilemgiaaDoor
