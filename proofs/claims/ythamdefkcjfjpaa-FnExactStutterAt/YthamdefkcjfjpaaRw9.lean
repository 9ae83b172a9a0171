/-
  Rows that calls within a region that draws its order have answered.
-/
import Derived.Test.YthamdefkcjfjpaaLasso
import Derived.Test.YthamdefkcjfjpaaIntSS
import Derived.Test.YthamdefkcjfjpaaInv9
import Derived.Laws.Rows
namespace Go.Proofs.Ythamdefkcjfjpaa
open Go Go.RowKit
open M
set_option linter.unusedVariables false
set_option linter.unusedSimpArgs false

/-- a row that a call has answered, laid from B on -/
def Rw (B : Nat) (w : World) (s : Value) (xs : List Int) : Prop := ∃ lo hi, B ≤ lo ∧ OwnOI w lo hi s xs
/-- a second one, apart from the first -/
def Rw2 (B : Nat) (w : World) (s1 s : Value) (xs : List Int) : Prop := ∃ lo hi, B ≤ lo ∧ OwnOI w lo hi s xs ∧ Ap3 s1 s
theorem Rw.below {B : Nat} {w w' : World} {s : Value} {xs : List Int} (h : Rw B w s xs) (hb : Below w.heap.size w w') : Rw B w' s xs := by
  obtain ⟨lo, hi, h0, h1⟩ := h
  exact ⟨lo, hi, h0, OffIn.belowR h1 hb h1.1⟩
theorem Rw2.below {B : Nat} {w w' : World} {s1 s : Value} {xs : List Int} (h : Rw2 B w s1 s xs) (hb : Below w.heap.size w w') : Rw2 B w' s1 s xs := by
  obtain ⟨lo, hi, h0, h1, h2⟩ := h
  exact ⟨lo, hi, h0, OffIn.belowR h1 hb h1.1, h2⟩
theorem Rw.shape {B : Nat} {w : World} {s : Value} {xs : List Int} (h : Rw B w s xs) : ∃ a n c, s = .slice a n c := by
  obtain ⟨lo, hi, h0, h1⟩ := h
  exact h1.shape
theorem Rw2.shape {B : Nat} {w : World} {s1 s : Value} {xs : List Int} (h : Rw2 B w s1 s xs) : ∃ a n c, s = .slice a n c := by
  obtain ⟨lo, hi, h0, h1, _⟩ := h
  exact h1.shape
theorem Rw.reads {B : Nat} {w : World} {s : Value} {xs : List Int} (h : Rw B w s xs) (ok : xs.length ≤ 1048576) : IntsAt w s xs := by
  obtain ⟨lo, hi, h0, h1⟩ := h
  exact h1.reads ok
theorem Rw2.rw {B : Nat} {w : World} {s1 s : Value} {xs : List Int} (h : Rw2 B w s1 s xs) : Rw B w s xs := by
  obtain ⟨lo, hi, h0, h1, _⟩ := h
  exact ⟨lo, hi, h0, h1⟩
theorem rw_of {B : Nat} {w w' : World} {s : Value} {xs : List Int} (hB : B ≤ w.heap.size) (h : OwnOI w' w.heap.size w'.heap.size s xs) : Rw B w' s xs := ⟨_, _, hB, h⟩
theorem rw2_of {B : Nat} {w w' : World} {s1 s : Value} {xs ys : List Int} (hB : B ≤ w.heap.size) (h1 : Rw B w s1 ys) (h : OwnOI w' w.heap.size w'.heap.size s xs) : Rw2 B w' s1 s xs := by
  obtain ⟨lo, hi, h0, h2⟩ := h1
  exact ⟨_, _, hB, h, ap3_of h2 h (Or.inl h2.1)⟩
theorem own_of2 {w : World} {B : Nat} {v : Value} {t : List Int} (h : OwnInts2 w B v t) : OwnOI w B w.heap.size v t := offIn_of h
theorem ownLa_rw {B : Nat} {w : World} {g o : Value} {xs ys : List Int} (h1 : Rw B w g xs) (h2 : Rw2 B w g o ys) : OwnLa w B w.heap.size (.agg #[g, o]) (xs, ys) := by
  obtain ⟨lo, hi, a0, a1⟩ := h1
  obtain ⟨lo2, hi2, b0, b1, b2⟩ := h2
  exact ⟨g, o, rfl, OffIn.weak a1 a0 a1.1 (Nat.le_refl _), OffIn.weak b1 b0 b1.1 (Nat.le_refl _), b2⟩
theorem OwnLa.setO {w : World} {lo hi b o : Nat} {v x : Value} {l : La} (h : OwnLa w lo hi v l) (hb : b < lo ∨ hi ≤ b) : OwnLa (w.setCell ⟨b, o, none⟩ x) lo hi v l := by
  obtain ⟨g, p, hv, h1, h2, h3⟩ := h
  exact ⟨g, p, hv, OffIn.set h1 hb, OffIn.set h2 hb, h3⟩
theorem size_set (w : World) (b o : Nat) (x : Value) : (w.setCell ⟨b, o, none⟩ x).heap.size = w.heap.size := by simp [World.setCell]
def cutL (l : La) (a t r : Nat) : La := (unrL l a (t - a), unrL l t r)
theorem results_la {P : Program} {fn : Func} {p u : Tmp} {ty : TypeId} (h : fn.results = #[.cell p ty, .tmp u]) (tmps : Array Value) (w : World) (g : Nat) (t : TypeId) (cs : Array Value) (fr : Nat × Nat) (d : TypeDesc)
    (hp : tmps.getD p undef = .pointer (some ⟨g, 0, none⟩)) (hg : w.heap[g]? = some (.cells cs t fr))
    (hu : P.underlying ty = some d) (hd : (match d with | .struct _ | .array _ _ => true | _ => false) = true) (hi : (P.info? ty).map (·.size) = some cs.size) :
    (results fn tmps).run P w = .ok (.tuple #[.agg cs, tmps.getD u undef]) w := by
  have hp' : tmps[p]?.getD undef = .pointer (some ⟨g, 0, none⟩) := by simpa using hp
  simp [results, h, hp', asAddr, run_loadVar_row w g t ty cs fr d hg hu hd hi]
end Go.Proofs.Ythamdefkcjfjpaa
