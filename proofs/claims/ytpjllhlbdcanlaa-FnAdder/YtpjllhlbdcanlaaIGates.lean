/-
  What AddGates, LessGates and EqGates answer.
-/
import Derived.Test.YtpjllhlbdcanlaaGrown
namespace Go.Proofs.Ytpjllhlbdcanlaa
open Go Go.RowKit
open M
set_option linter.unusedVariables false
set_option linter.unusedSimpArgs false

/-- circuits with a comparison laid behind -/
def lessC (c : Ci) (a b : List Int) : Ci := (c.1, c.2.1 ++ [(1, 0, 0)] ++ (lessG a b (wiresN c) (wiresN c + 1)).1, c.2.2)
def lessB (c : Ci) (a b : List Int) : Bool := sidesB c a b && goodC (lessC c a b)
def lessR (c : Ci) (a b : List Int) : Ci := if lessB c a b = true then lessC c a b else (0, [], [])
def lessW (c : Ci) (a b : List Int) : Int := if lessB c a b = true then onW (wiresN c) (wiresN c + 1) 6 5 a.length else 0
def eqC (c : Ci) (a b : List Int) : Ci := (c.1, c.2.1 ++ [(1, 1, 0)] ++ (eqG a b (wiresN c) (wiresN c + 1)).1, c.2.2)
def eqB (c : Ci) (a b : List Int) : Bool := sidesB c a b && goodC (eqC c a b)
def eqR (c : Ci) (a b : List Int) : Ci := if eqB c a b = true then eqC c a b else (0, [], [])
def eqW (c : Ci) (a b : List Int) : Int := if eqB c a b = true then onW (wiresN c) (wiresN c + 1) 3 2 a.length else 0
def addC (c : Ci) (a b : List Int) (k : Int) : Ci := (c.1, c.2.1 ++ (addG a b k (wiresN c)).1, c.2.2)
def addB (c : Ci) (a b : List Int) (k : Int) : Bool := sidesB c a b && (inB (wiresN c) k && goodC (addC c a b k))
def addR (c : Ci) (a b : List Int) (k : Int) : Ci := if addB c a b k = true then addC c a b k else (0, [], [])
def addS (c : Ci) (a b : List Int) (k : Int) : List Int := if addB c a b k = true then (addG a b k (wiresN c)).2 else []
theorem sides_parts {c : Ci} {a b : List Int} (h : sidesB c a b = true) : goodC c = true ∧ a.length = b.length ∧ a.length ≤ 16 ∧ (∀ x ∈ a, 0 ≤ x ∧ x < wiresN c) ∧ ∀ x ∈ b, 0 ≤ x ∧ x < wiresN c := by
  unfold sidesB at h
  simp only [Bool.and_eq_true, decide_eq_true_eq] at h
  obtain ⟨h1, h2, h3, h4, h5⟩ := h
  refine ⟨h1, h2, h3, fun x hx => ?_, fun x hx => ?_⟩
  · have := List.all_eq_true.1 h4 x hx
    simpa [inB] using this
  · have := List.all_eq_true.1 h5 x hx
    simpa [inB] using this
theorem good_sm {c : Ci} (h : goodC c = true) : ∀ g ∈ c.2.1, smG 1000 g := by
  intro g hg
  obtain ⟨h0, h1, h2, h3, h4, _⟩ := goodC_ins h
  obtain ⟨i, hi⟩ := List.mem_iff_getElem?.1 hg
  have hil : i < c.2.1.length := (List.getElem?_eq_some_iff.1 hi).1
  exact gateB_sm (gatesB_at h4 hi) (by omega) (by omega)
theorem lessC_sm {c : Ci} {a b : List Int} (h : sidesB c a b = true) : (∀ g ∈ (lessC c a b).2.1, GtOk g) ∧ (lessC c a b).2.1.length ≤ 500 := by
  obtain ⟨hg, hl, h16, ha, hb⟩ := sides_parts h
  obtain ⟨h0, h1, h2, h3, _, _⟩ := goodC_ins hg
  have hN : wiresN c = c.1 + c.2.1.length := rfl
  have hll := lessG_len a b (wiresN c) (wiresN c + 1) hl
  constructor
  · intro g hm
    simp only [lessC, List.mem_append, List.mem_singleton] at hm
    rcases hm with (hm | rfl) | hm
    · exact smG_ok (good_sm hg g hm) (by omega)
    · unfold GtOk Fit; simp only; omega
    · exact smG_ok (lessG_sm 1000 a b _ _ (fun x hx => by have := ha x hx; omega) (fun x hx => by have := hb x hx; omega) (by omega) (by omega) (by omega) (by omega) g hm) (by omega)
  · simp only [lessC, List.length_append, List.length_singleton, hll]
    omega
theorem eqC_sm {c : Ci} {a b : List Int} (h : sidesB c a b = true) : (∀ g ∈ (eqC c a b).2.1, GtOk g) ∧ (eqC c a b).2.1.length ≤ 500 := by
  obtain ⟨hg, hl, h16, ha, hb⟩ := sides_parts h
  obtain ⟨h0, h1, h2, h3, _, _⟩ := goodC_ins hg
  have hN : wiresN c = c.1 + c.2.1.length := rfl
  have hll := eqG_len a b (wiresN c) (wiresN c + 1) hl
  constructor
  · intro g hm
    simp only [eqC, List.mem_append, List.mem_singleton] at hm
    rcases hm with (hm | rfl) | hm
    · exact smG_ok (good_sm hg g hm) (by omega)
    · unfold GtOk Fit; simp only; omega
    · exact smG_ok (eqG_sm 1000 a b _ _ (fun x hx => by have := ha x hx; omega) (fun x hx => by have := hb x hx; omega) (by omega) (by omega) (by omega) (by omega) g hm) (by omega)
  · simp only [eqC, List.length_append, List.length_singleton, hll]
    omega
theorem addC_sm {c : Ci} {a b : List Int} {k : Int} (h : sidesB c a b = true) (hk : inB (wiresN c) k = true) : (∀ g ∈ (addC c a b k).2.1, GtOk g) ∧ (addC c a b k).2.1.length ≤ 500 := by
  obtain ⟨hg, hl, h16, ha, hb⟩ := sides_parts h
  obtain ⟨h0, h1, h2, h3, _, _⟩ := goodC_ins hg
  have hN : wiresN c = c.1 + c.2.1.length := rfl
  have hll := (addG_len a b k (wiresN c) hl).1
  have hk' : 0 ≤ k ∧ k < wiresN c := by simpa [inB] using hk
  constructor
  · intro g hm
    simp only [addC, List.mem_append] at hm
    rcases hm with hm | hm
    · exact smG_ok (good_sm hg g hm) (by omega)
    · exact smG_ok (addG_sm 1000 a b _ _ (fun x hx => by have := ha x hx; omega) (fun x hx => by have := hb x hx; omega) (by omega) (by omega) (by omega) (by omega) g hm) (by omega)
  · simp only [addC, List.length_append, hll]
    omega
theorem zero_ok : CiOk (0, [], []) := ⟨⟨by omega, by omega⟩, by simp, by simp, by simp⟩
theorem lessR_ok (c : Ci) (a b : List Int) (hc : CiOk c) : CiOk (lessR c a b) := by
  unfold lessR
  split
  · rename_i h
    unfold lessB at h
    rw [Bool.and_eq_true] at h
    have hs := lessC_sm h.1
    exact ⟨hc.1, hs.1, by omega, hc.2.2.2⟩
  · exact zero_ok
theorem eqR_ok (c : Ci) (a b : List Int) (hc : CiOk c) : CiOk (eqR c a b) := by
  unfold eqR
  split
  · rename_i h
    unfold eqB at h
    rw [Bool.and_eq_true] at h
    have hs := eqC_sm h.1
    exact ⟨hc.1, hs.1, by omega, hc.2.2.2⟩
  · exact zero_ok
theorem addR_ok (c : Ci) (a b : List Int) (k : Int) (hc : CiOk c) : CiOk (addR c a b k) := by
  unfold addR
  split
  · rename_i h
    unfold addB at h
    rw [Bool.and_eq_true, Bool.and_eq_true] at h
    have hs := addC_sm h.1 h.2.1
    exact ⟨hc.1, hs.1, by omega, hc.2.2.2⟩
  · exact zero_ok
theorem addS_len (c : Ci) (a b : List Int) (k : Int) : (addS c a b k).length ≤ 1048576 := by
  unfold addS
  split
  · rename_i h
    unfold addB at h
    rw [Bool.and_eq_true] at h
    obtain ⟨_, hl, h16, _⟩ := sides_parts h.1
    have := (addG_len a b k (wiresN c) hl).2
    omega
  · simp
/-- what is built is read, and is handed out -/
theorem Bld.reads {w : World} {lo hi b : Nat} {e : TypeId} {c : Ci} (h : Bld w lo hi b e c) (hf : Fit c.1) (hg : ∀ g ∈ c.2.1, GtOk g) (hn : c.2.1.length ≤ 1000) (ho : c.2.2.length ≤ 1000) : ∃ gsl osl, Box3 w b e (.int .i64 c.1) gsl osl ∧ AtCirc w (.agg #[.int .i64 c.1, gsl, osl]) c ∧ w.ownsRow lo 128 3 gsl c.2.1.length (flat3 c.2.1) ∧ w.ownsRow lo 3 1 osl c.2.2.length (cellsI c.2.2) ∧ (∀ k, osl.ownBlock = some k → k < hi) := by
  obtain ⟨h0, gsl, osl, h1, h2, h3, h4⟩ := h
  exact ⟨gsl, osl, h1, ⟨hf, gsl, osl, rfl, gates_of_own hg (by omega) h2, ints_of_own (by omega) h3⟩, h2, h3, h4⟩
/-- of a circuit and a list that a call answers, the outs and the list lie apart -/
def ApartIS (r0 r1 : Value) : Prop := ∀ (i g o : Value) (k : Nat), r0 = .agg #[i, g, o] → r1.ownBlock = some k → o.ownBlock ≠ some k
theorem apart_nil (r0 : Value) : ApartIS r0 (.slice none 0 0) := by
  intro i g o k h1 h2
  cases h2
end Go.Proofs.Ytpjllhlbdcanlaa
