/-
  Lists of numbers compared: slices.Equal, and the model's l1Same.
-/
import Derived.Test.YthamdefkcjfjpaaSLasso
namespace Go.Proofs.Ythamdefkcjfjpaa
open Go Go.RowKit
open M
set_option linter.unusedVariables false

set_option maxRecDepth 100000 in
set_option maxHeartbeats 2000000 in
theorem equalI_any (u v : Value) (a b : List Int) (w : World) (h : IntsAt w u a) (h' : IntsAt w v b) :
    Calls Try.prog 46 #[u, v] w fun e w' => e = .returned (.bool (decide (a = b))) ∧ Below w.heap.size w w' := by
  have hla := h.1
  have hlb := h'.1
  obtain ⟨ua, uc, rfl, hu⟩ := h.opened
  obtain ⟨va, vc, rfl, hv⟩ := h'.opened
  clear h h'
  by_cases hl : a.length = b.length
  case neg =>
    have hne : decide (a = b) = false := decide_eq_false (fun e => hl (by rw [e]))
    rw [hne]
    clear hne hu hv
    generalize a.length = n at *
    generalize b.length = m at *
    go_enter Try.func46, Try.ntmps46
    go_wp2_with fail
    go_ret
    exact ⟨rfl, Below.refl _ _⟩
  rw [← hl] at hlb ⊢
  have HL : Hid (a.length = b.length) := hl
  clear hl
  have HB0 : Hid (Below w.heap.size w w) := Below.refl _ _
  go_enter Try.func46, Try.ntmps46
  go_wp2_with fail
  go_loopw [13] (fun i wr => ∃ j : Nat, j ≤ a.length ∧ i = .int .i64 j ∧ Hid (∀ i, i < j → a[i]? = b[i]?) ∧ Hid (Below w.heap.size w wr)) (fun i _ => a.length - (intOf i).toNat)
  case atStart => exact ⟨0, by omega, rfl, fun i hi => by omega, HB0⟩
  case round =>
    obtain ⟨j, hj, rfl, HN, HB⟩ := hrel
    clear HB0
    by_cases hlt : j < a.length
    · obtain ⟨x, hx⟩ : ∃ x, a[j]? = some x := ⟨_, List.getElem?_eq_getElem hlt⟩
      obtain ⟨y, hy⟩ : ∃ y, b[j]? = some y := ⟨_, List.getElem?_eq_getElem (by have := HL.out; omega)⟩
      obtain ⟨p, off, rfl, hp, c0⟩ := hu j x hx
      obtain ⟨q, of2, rfl, hq, d0⟩ := hv j y hy
      rw [← HB.out.cell (p := ⟨p, off + j, none⟩) hp] at c0
      rw [← HB.out.cell (p := ⟨q, of2 + j, none⟩) hq] at d0
      have HX : Hid (a[j]? = some x) := hx
      have HY : Hid (b[j]? = some y) := hy
      have HBD : Hid (∀ n, Below w.heap.size w (wr.drewN n)) := fun n => below_drewN HB.out n
      clear hu hv hx hy hp hq
      by_cases hxy : x = y
      · subst hxy
        have HN2 : Hid (∀ i, i < j + 1 → a[i]? = b[i]?) := fun i hi => by
          by_cases e : i = j
          · rw [e, HX.out, HY.out]
          · exact HN.out i (by omega)
        clear HN HX HY
        go_wp2_with fail
        go_quiet (fail)
        go_wp2_with fail
        go_roundw
        case rel => exact ⟨j + 1, by omega, by go_num, HN2, HBD.out _⟩
        case measure => simp [intOf]; omega
      · have HNE : Hid (decide (a = b) = false) := decide_eq_false (fun e => by
          have h1 := HX.out
          rw [e, HY.out] at h1
          exact hxy (Option.some.inj h1).symm)
        have hb1 : decide (x = y) = false := decide_eq_false hxy
        clear HN HX HY
        go_wp2_with fail
        go_quiet (fail)
        go_wp2_with fail
        go_ret
        exact ⟨ret_bool HNE.out.symm, HBD.out _⟩
    · obtain rfl : j = a.length := by omega
      have HEQ : Hid (decide (a = b) = true) := decide_eq_true (ext_at HL.out HN.out)
      clear HN hu hv
      go_wp2_with fail
      go_ret
      exact ⟨ret_bool HEQ.out.symm, HB.out⟩
set_option maxRecDepth 100000 in
set_option maxHeartbeats 2000000 in
theorem l1SameI_any (u v : Value) (a b : List Int) (w : World) (h : IntsAt w u a) (h' : IntsAt w v b) :
    Calls Try.prog 70 #[u, v] w fun e w' => e = .returned (.bool (decide (a = b))) ∧ Below w.heap.size w w' := by
  have hla := h.1
  have hlb := h'.1
  obtain ⟨ua, uc, rfl, hu⟩ := h.opened
  obtain ⟨va, vc, rfl, hv⟩ := h'.opened
  clear h h'
  by_cases hl : a.length = b.length
  case neg =>
    have hne : decide (a = b) = false := decide_eq_false (fun e => hl (by rw [e]))
    rw [hne]
    clear hne hu hv
    generalize a.length = n at *
    generalize b.length = m at *
    go_enter Try.func70, Try.ntmps70
    go_wp2_with fail
    go_ret
    exact ⟨rfl, Below.refl _ _⟩
  rw [← hl] at hlb ⊢
  have HL : Hid (a.length = b.length) := hl
  clear hl
  have HB0 : Hid (Below w.heap.size w w) := Below.refl _ _
  go_enter Try.func70, Try.ntmps70
  go_wp2_with fail
  go_loopw [13] (fun i wr => ∃ j : Nat, j ≤ a.length ∧ i = .int .i64 j ∧ Hid (∀ i, i < j → a[i]? = b[i]?) ∧ Hid (Below w.heap.size w wr)) (fun i _ => a.length - (intOf i).toNat)
  case atStart => exact ⟨0, by omega, rfl, fun i hi => by omega, HB0⟩
  case round =>
    obtain ⟨j, hj, rfl, HN, HB⟩ := hrel
    clear HB0
    by_cases hlt : j < a.length
    · obtain ⟨x, hx⟩ : ∃ x, a[j]? = some x := ⟨_, List.getElem?_eq_getElem hlt⟩
      obtain ⟨y, hy⟩ : ∃ y, b[j]? = some y := ⟨_, List.getElem?_eq_getElem (by have := HL.out; omega)⟩
      obtain ⟨p, off, rfl, hp, c0⟩ := hu j x hx
      obtain ⟨q, of2, rfl, hq, d0⟩ := hv j y hy
      rw [← HB.out.cell (p := ⟨p, off + j, none⟩) hp] at c0
      rw [← HB.out.cell (p := ⟨q, of2 + j, none⟩) hq] at d0
      have HX : Hid (a[j]? = some x) := hx
      have HY : Hid (b[j]? = some y) := hy
      have HBD : Hid (∀ n, Below w.heap.size w (wr.drewN n)) := fun n => below_drewN HB.out n
      clear hu hv hx hy hp hq
      by_cases hxy : x = y
      · subst hxy
        have HN2 : Hid (∀ i, i < j + 1 → a[i]? = b[i]?) := fun i hi => by
          by_cases e : i = j
          · rw [e, HX.out, HY.out]
          · exact HN.out i (by omega)
        clear HN HX HY
        go_wp2_with fail
        go_quiet (fail)
        go_wp2_with fail
        go_roundw
        case rel => exact ⟨j + 1, by omega, by go_num, HN2, HBD.out _⟩
        case measure => simp [intOf]; omega
      · have HNE : Hid (decide (a = b) = false) := decide_eq_false (fun e => by
          have h1 := HX.out
          rw [e, HY.out] at h1
          exact hxy (Option.some.inj h1).symm)
        have hb1 : decide (x = y) = false := decide_eq_false hxy
        clear HN HX HY
        go_wp2_with fail
        go_quiet (fail)
        go_wp2_with fail
        go_ret
        exact ⟨ret_bool HNE.out.symm, HBD.out _⟩
    · obtain rfl : j = a.length := by omega
      have HEQ : Hid (decide (a = b) = true) := decide_eq_true (ext_at HL.out HN.out)
      clear HN hu hv
      go_wp2_with fail
      go_ret
      exact ⟨ret_bool HEQ.out.symm, HB.out⟩
end Go.Proofs.Ythamdefkcjfjpaa
