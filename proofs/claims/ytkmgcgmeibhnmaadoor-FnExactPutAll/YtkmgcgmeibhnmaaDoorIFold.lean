/-
  A tree that is folded: the program's hasVars, leafOf, fold and FoldTerm.
-/
import Derived.Test.YtkmgcgmeibhnmaaDoorIVars
import Derived.Test.YtkmgcgmeibhnmaaDoorIVal
import Derived.Test.YtkmgcgmeibhnmaaDoorLFold
namespace Go.Proofs.YtkmgcgmeibhnmaaDoor
open Go Go.RowKit
open M
set_option linter.unusedVariables false

theorem equal4 (a b c d : Bool) (w : World) : Sem.run Tryd.prog (Op.equalIn 10000 100 (.agg #[.bool a, .bool b, .bool c, .bool d]) (.agg #[.bool false, .bool false, .bool false, .bool false])) w = .ok (!(a || b || c || d)) w := by
  cases a <;> cases b <;> cases c <;> cases d <;> kernel_rfl
set_option maxRecDepth 100000 in
set_option maxHeartbeats 1000000 in
theorem hasVars_any (r : Tr) (wide vars : Int) (hok : r.Ok wide vars) (hp : Pos r) (hv4 : vars ≤ 4) (b : Nat) (w : World) (htr : TrAt w (Old w) r b) :
    Calls Tryd.prog 101 #[ptr b] w fun e w' => e = .returned (.bool (trVar r)) ∧ Below w.heap.size w w' := by
  have hv : ∀ x ∈ r.flat, x.1 = 2 → 0 ≤ x.2 ∧ x.2 < 4 := by
    intro x hx h2
    have h3 := ok_vars hok x hx h2
    have h4 := hp x hx
    omega
  have gN := nameVars_any r b w.heap.size (fun _ => false) (w.alloc (.cells #[.bool false, .bool false, .bool false, .bool false] 100)) (TrAt.frame (fun k hk => ⟨by simp; exact Nat.lt_succ_of_lt hk, Nat.ne_of_lt hk⟩) (fun k hk => Below.heap_alloc _ _ _ hk) htr) (by
    show (w.heap.push _)[w.heap.size]? = _
    rw [Array.getElem?_push_size]
    rfl) hv ⟨wide, vars, hok⟩
  simp only [Bool.false_or] at gN
  have HB1 : Hid (Below w.heap.size w (w.alloc (.cells #[.bool false, .bool false, .bool false, .bool false] 100))) := (Below.refl _ _).alloc (Nat.le_refl _) _
  have HV : Hid (trVar r = (decide (((2, 0) : Nd) ∈ r.flat) || decide (((2, 1) : Nd) ∈ r.flat) || decide (((2, 2) : Nd) ∈ r.flat) || decide (((2, 3) : Nd) ∈ r.flat))) := by
    show _ = _
    rw [Bool.eq_iff_iff]
    simp only [Bool.or_eq_true, decide_eq_true_eq]
    rw [trVar_iff hok]
    constructor
    · rintro ⟨⟨op, n⟩, hx, h2⟩
      simp only at h2
      subst h2
      have h4 := hv (2, n) hx rfl
      simp only at h4
      rcases (show n = 0 ∨ n = 1 ∨ n = 2 ∨ n = 3 by omega) with rfl | rfl | rfl | rfl
      · exact Or.inl (Or.inl (Or.inl hx))
      · exact Or.inl (Or.inl (Or.inr hx))
      · exact Or.inl (Or.inr hx)
      · exact Or.inr hx
    · rintro (((h | h) | h) | h) <;> exact ⟨_, h, rfl⟩
  rw [HV.out]
  generalize hF0 : (fun i : Int => decide (((2, i) : Nd) ∈ r.flat)) = F at gN
  have h0 : decide (((2, 0) : Nd) ∈ r.flat) = F 0 := by rw [← hF0]
  have h1 : decide (((2, 1) : Nd) ∈ r.flat) = F 1 := by rw [← hF0]
  have h2 : decide (((2, 2) : Nd) ∈ r.flat) = F 2 := by rw [← hF0]
  have h3 : decide (((2, 3) : Nd) ∈ r.flat) = F 3 := by rw [← hF0]
  rw [h0, h1, h2, h3]
  clear h0 h1 h2 h3 hF0 HV hv htr hok hp
  go_enter Tryd.func101, Tryd.ntmps101
  go_wp2_with fail
  refine gN.mono ?_
  rintro e w2 ⟨rfl, hh2, hbt⟩
  have HB2 : Hid (Below w.heap.size w w2) := HB1.out.trans (hbt.below (Nat.le_refl _) HB1.out.size)
  have d0 := cell_heap (o := 0) hh2
  have d1 := cell_heap (o := 1) hh2
  have d2 := cell_heap (o := 2) hh2
  have d3 := cell_heap (o := 3) hh2
  simp only [bools, List.getElem?_toArray, List.getElem?_cons_succ, List.getElem?_cons_zero] at d0 d1 d2 d3
  have eq4 := equal4 (F 0) (F 1) (F 2) (F 3) w2
  clear gN hh2 hbt
  go_wp2_with fail
  go_ret
  exact ⟨rfl, HB2.out⟩
end Go.Proofs.YtkmgcgmeibhnmaaDoor
