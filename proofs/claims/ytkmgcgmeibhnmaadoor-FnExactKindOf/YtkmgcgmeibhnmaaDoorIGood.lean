/-
  The program's GoodTerm and KindOf.
-/
import Derived.Test.YtkmgcgmeibhnmaaDoorIRoot
namespace Go.Proofs.YtkmgcgmeibhnmaaDoor
open Go Go.RowKit
open M
set_option linter.unusedVariables false

theorem impl_GoodTerm : DoesGoodTerm := by
  intro wide vars v t w hT h hl
  by_cases hk : 0 < kindL wide vars t
  · obtain ⟨_, _, _, _, _, r, hr, _⟩ := root_tree hk
    have g := rootOf_yes wide vars v t w hT h r hk hr
    rw [decide_eq_true hk]
    clear hr hk hT h
    go_enter Tryd.func19, Tryd.ntmps19
    go_wp2_with fail
    refine g.mono ?_
    rintro e w' ⟨p, rfl, _, hb⟩
    have HB : Hid _ := hb
    clear g hb
    go_wp2_with fail
    go_ret
    exact ⟨rfl, HB.out⟩
  · have g := rootOf_no wide vars v t w hT h hk
    rw [decide_eq_false hk]
    clear hk hT h
    go_enter Tryd.func19, Tryd.ntmps19
    go_wp2_with fail
    refine g.mono ?_
    rintro e w' ⟨rfl, hb⟩
    have HB : Hid _ := hb
    clear g hb
    go_wp2_with fail
    go_ret
    exact ⟨rfl, HB.out⟩
theorem impl_KindOf : DoesKindOf := by
  intro wide vars v t w hT h hl
  by_cases hk : 0 < kindL wide vars t
  · obtain ⟨_, _, _, _, _, r, hr, _, _, hrk⟩ := root_tree hk
    have g := rootOf_yes wide vars v t w hT h r hk hr
    rw [decide_eq_true hk, ← hrk]
    obtain ⟨kk, hkk⟩ : ∃ kk, r.kind = kk := ⟨_, rfl⟩
    rw [hkk]
    have HKK : Hid (r.kind = kk) := hkk
    clear hr hk hT h hrk hkk
    go_enter Tryd.func29, Tryd.ntmps29
    go_wp2_with fail
    refine g.mono ?_
    rintro e w' ⟨p, rfl, htr, hb⟩
    obtain ⟨ps, ⟨_, _, _, n2, _⟩, _⟩ := trAt_open htr
    have HB : Hid _ := hb
    clear g hb htr
    rw [HKK.out] at n2
    go_wp2_with fail
    go_ret2
    exact ⟨rfl, HB.out⟩
  · have g := rootOf_no wide vars v t w hT h hk
    rw [decide_eq_false hk, kindL_zero hk]
    clear hk hT h
    go_enter Tryd.func29, Tryd.ntmps29
    go_wp2_with fail
    refine g.mono ?_
    rintro e w' ⟨rfl, hb⟩
    have HB : Hid _ := hb
    clear g hb
    go_wp2_with fail
    go_ret2
    exact ⟨rfl, HB.out⟩
end Go.Proofs.YtkmgcgmeibhnmaaDoor
