/-
  Marks that the laws lay into lists of tokens, and look for again.
-/
import Derived.Test.YtkfplichekebdaaDoorTokS
import Derived.Test.YtkfplichekebdaaDoorMarks
namespace Go.Proofs.YtkfplichekebdaaDoor
open Go Go.RowKit
open M
set_option linter.unusedVariables false

def marksT (k : Nat) : Nat → List Value
  | 0 => []
  | n + 1 => marksT k n ++ [.int .i64 ((k : Int) + 2 * (n : Int)), tx (markL (k + 2 * n + 1))]
theorem marksT_len (k : Nat) : ∀ n : Nat, (marksT k n).length = n * 2
  | 0 => rfl
  | n + 1 => by
    simp only [marksT, List.length_append, marksT_len k n, List.length_cons, List.length_nil]
    omega
theorem marksT_set (k n j : Nat) (xs : List Value) (hx : xs.length = n * 2) (hj : j < n) :
    ((marksT k j ++ xs.drop (j * 2)).set (j * 2) (.int .i64 ((k : Int) + 2 * (j : Int)))).set (j * 2 + 1) (tx (markL (k + 2 * j + 1))) = marksT k (j + 1) ++ xs.drop ((j + 1) * 2) := by
  have hl := marksT_len k j
  obtain ⟨a, b, r, hr⟩ : ∃ a b r, xs.drop (j * 2) = a :: b :: r := by
    rw [List.drop_eq_getElem_cons (show j * 2 < xs.length by omega), List.drop_eq_getElem_cons (show j * 2 + 1 < xs.length by omega)]
    exact ⟨_, _, _, rfl⟩
  have hr2 : xs.drop ((j + 1) * 2) = r := by
    have h := congrArg (List.drop 2) hr
    rw [List.drop_drop] at h
    rw [show (j + 1) * 2 = j * 2 + 2 from by omega, h]
    rfl
  rw [hr, hr2, List.set_append_right _ _ (by omega), hl, Nat.sub_self, List.set_append_right _ _ (by omega), hl, show j * 2 + 1 - j * 2 = 1 from by omega]
  simp [marksT]
theorem marksT_at (k : Nat) : ∀ (n i : Nat), i < n → (marksT k n)[i * 2]? = some (.int .i64 ((k : Int) + 2 * (i : Int))) ∧ (marksT k n)[i * 2 + 1]? = some (tx (markL (k + 2 * i + 1)))
  | 0, i, h => by omega
  | n + 1, i, h => by
    have hl := marksT_len k n
    by_cases e : i = n
    · subst e
      simp only [marksT]
      rw [List.getElem?_append_right (by omega), List.getElem?_append_right (by omega), hl, Nat.sub_self, show i * 2 + 1 - i * 2 = 1 from by omega]
      exact ⟨rfl, rfl⟩
    · have ih := marksT_at k n i (by omega)
      simp only [marksT]
      rw [List.getElem?_append_left (by omega), List.getElem?_append_left (by omega)]
      exact ih
theorem grown_below {a w w' : World} {row : Option Nat} (h : a.grownBy w row) (hb : Below w.heap.size w w') : a.grownBy w' row :=
  ⟨hb.os.trans h.os, hb.tape.trans h.tape, hb.output.trans h.output, Nat.le_trans h.size hb.size, fun i hi hr => (hb.block i (Nat.lt_of_lt_of_le hi h.size)).trans (h.block i hi hr)⟩
set_option maxRecDepth 100000 in
set_option maxHeartbeats 2000000 in
theorem markTokenS_own (g cap base n : Nat) (e : TypeId) (xs : List Value) (k : Nat) (hn : n ≤ 1000000) (hk : k ≤ 1000000) (w : World) (hown : w.ownsRow base e 2 (.slice (some ⟨g, 0, none⟩) n cap) n xs) :
    Calls Tryd.prog 16 #[.slice (some ⟨g, 0, none⟩) n cap, .int .i64 (k : Int)] w fun e' w' => e' = .returned (.int .i64 ((k : Int) + 2 * (n : Int))) ∧ w'.ownsRow base e 2 (.slice (some ⟨g, 0, none⟩) n cap) n (marksT k n) ∧ w.grownBy w' (some g) := by
  have hxl : xs.length = n * 2 := hown.1
  go_enter Tryd.func16, Tryd.ntmps16
  go_wp2_with fail
  go_loopw [1, 5] (fun m i wr => ∃ j : Nat, j ≤ n ∧ i = .int .i64 j ∧ m = .int .i64 ((k : Int) + 2 * (j : Int)) ∧ Hid (wr.ownsRow base e 2 (.slice (some ⟨g, 0, none⟩) n cap) n (marksT k j ++ xs.drop (j * 2))) ∧ Hid (w.grownBy wr (some g))) (fun _ i _ => n - (intOf i).toNat)
  case atStart => exact ⟨0, by omega, rfl, by simp, hown, grown_refl _ _⟩
  case round =>
    obtain ⟨j, hj, rfl, rfl, HO, HG⟩ := hrel
    by_cases hlt : j < n
    · have own2 := HO.out
      have hlen := own2.1
      obtain ⟨u0, hu0⟩ : ∃ u0, (marksT k j ++ xs.drop (j * 2))[j * 2]? = some u0 := ⟨_, List.getElem?_eq_getElem (by omega)⟩
      have d0 : wr.cell? ⟨g, j * 2, none⟩ = some u0 := by rw [own2.cellAt (j * 2) (by omega)]; exact hu0
      have f0 := own2.frozenAt (j * 2)
      have st1 := own2.stored (j * 2) (.int .i64 ((k : Int) + 2 * (j : Int)))
      have HS1 : Hid _ := st1.1
      have HG1 : Hid (w.grownBy (wr.setCell ⟨g, j * 2, none⟩ (.int .i64 ((k : Int) + 2 * (j : Int)))) (some g)) := grown_trans HG.out st1.2
      have GM : Hid (∀ w1 : World, Calls Tryd.prog 37 #[.int .i64 ((k : Int) + 2 * (j : Int) + 1)] w1 fun e w' => e = .returned (tx (markL (k + 2 * j + 1))) ∧ Below w1.heap.size w1 w') := fun w1 => by
        have h := markText_any (k + 2 * j + 1) (by omega) (by omega) w1
        rw [show ((k + 2 * j + 1 : Nat) : Int) = (k : Int) + 2 * (j : Int) + 1 from by omega] at h
        exact h
      clear own2 st1 hu0 hown HG hlen
      have gm := GM.out (wr.setCell ⟨g, j * 2, none⟩ (.int .i64 ((k : Int) + 2 * (j : Int))))
      have HML : Hid (marksT k (j + 1) ++ xs.drop ((j + 1) * 2) = ((marksT k j ++ xs.drop (j * 2)).set (j * 2) (.int .i64 ((k : Int) + 2 * (j : Int)))).set (j * 2 + 1) (tx (markL (k + 2 * j + 1)))) := (marksT_set k n j xs hxl hlt).symm
      generalize markL (k + 2 * j + 1) = ml at *
      clear GM
      go_wp2_with fail
      refine gm.mono ?_
      rintro e' w2 ⟨rfl, hb2⟩
      clear gm
      have own3 := owns_below HS1.out hb2
      have hlen := own3.1
      obtain ⟨u1, hu1⟩ : ∃ u1, ((marksT k j ++ xs.drop (j * 2)).set (j * 2) (.int .i64 ((k : Int) + 2 * (j : Int))))[j * 2 + 1]? = some u1 := ⟨_, List.getElem?_eq_getElem (by omega)⟩
      have d1 : w2.cell? ⟨g, j * 2 + 1, none⟩ = some u1 := by rw [own3.cellAt (j * 2 + 1) (by omega)]; exact hu1
      have f1 := own3.frozenAt (j * 2 + 1)
      have st2 := own3.stored (j * 2 + 1) (tx ml)
      have HN : Hid ((w2.setCell ⟨g, j * 2 + 1, none⟩ (tx ml)).ownsRow base e 2 (.slice (some ⟨g, 0, none⟩) n cap) n (marksT k (j + 1) ++ xs.drop ((j + 1) * 2))) := by
        have h1 := st2.1
        rw [← HML.out] at h1
        exact h1
      have HG2 : Hid (w.grownBy (w2.setCell ⟨g, j * 2 + 1, none⟩ (tx ml)) (some g)) := grown_trans (grown_below HG1.out hb2) st2.2
      clear own3 st2 hlen hu1 HO hb2
      go_wp2_with fail
      go_roundw
      case rel => exact ⟨j + 1, by omega, by go_num, by go_num, HN, HG2⟩
      case measure => simp [intOf]; omega
    · obtain rfl : j = n := by omega
      have HN : Hid (wr.ownsRow base e 2 (.slice (some ⟨g, 0, none⟩) j cap) j (marksT k j)) := by
        have h1 := HO.out
        rw [List.drop_of_length_le (by omega), List.append_nil] at h1
        exact h1
      clear HO hown
      go_wp2_with fail
      go_ret
      exact ⟨rfl, HN.out, HG.out⟩
set_option maxRecDepth 100000 in
set_option maxHeartbeats 2000000 in
theorem heldTokenS_own (g cap base n : Nat) (e : TypeId) (k : Nat) (hn : n ≤ 1000000) (hk : k ≤ 1000000) (w : World) (hown : w.ownsRow base e 2 (.slice (some ⟨g, 0, none⟩) n cap) n (marksT k n)) :
    Calls Tryd.prog 17 #[.slice (some ⟨g, 0, none⟩) n cap, .int .i64 (k : Int)] w fun e' w' => e' = .returned (.int .i64 ((k : Int) + 2 * (n : Int))) ∧ Below w.heap.size w w' := by
  go_enter Tryd.func17, Tryd.ntmps17
  go_wp2_with fail
  go_loopw [1, 5] (fun m i wr => ∃ j : Nat, j ≤ n ∧ i = .int .i64 j ∧ m = .int .i64 ((k : Int) + 2 * (j : Int)) ∧ Hid (Below w.heap.size w wr)) (fun _ i _ => n - (intOf i).toNat)
  case atStart => exact ⟨0, by omega, rfl, by simp, Below.refl _ _⟩
  case round =>
    obtain ⟨j, hj, rfl, rfl, HB⟩ := hrel
    by_cases hlt : j < n
    · have own2 := owns_below hown HB.out
      have d0 : wr.cell? ⟨g, j * 2, none⟩ = some (.int .i64 ((k : Int) + 2 * (j : Int))) := by rw [own2.cellAt (j * 2) (by omega)]; exact (marksT_at k n j hlt).1
      have d1 : wr.cell? ⟨g, j * 2 + 1, none⟩ = some (tx (markL (k + 2 * j + 1))) := by rw [own2.cellAt (j * 2 + 1) (by omega)]; exact (marksT_at k n j hlt).2
      have GM : Hid (∀ w1 : World, Calls Tryd.prog 37 #[.int .i64 ((k : Int) + 2 * (j : Int) + 1)] w1 fun e w' => e = .returned (tx (markL (k + 2 * j + 1))) ∧ Below w1.heap.size w1 w') := fun w1 => by
        have h := markText_any (k + 2 * j + 1) (by omega) (by omega) w1
        rw [show ((k + 2 * j + 1 : Nat) : Int) = (k : Int) + 2 * (j : Int) + 1 from by omega] at h
        exact h
      have hgw : g < wr.heap.size := (own_block own2 rfl).2
      clear own2 hown
      generalize markL (k + 2 * j + 1) = ml at *
      go_wp2_with fail
      go_region_with (go_at_call 37; refine (GM.out _).mono ?_; rintro e w2 ⟨rfl, hb2⟩; have e1 : w2.cell? ⟨g, j * 2 + 1, none⟩ = some (tx ml) := ((hb2.cell (p := ⟨g, j * 2 + 1, none⟩) hgw).trans d1); have HB2 : Hid (Below w.heap.size w w2) := (by first | exact HB.out.trans (hb2.mono HB.out.size) | exact HB.out.drew.trans (hb2.mono HB.out.size)); clear hb2)
      all_goals
        clear GM HB d0 d1
        go_wp2_with fail
        go_roundw
        case rel => exact ⟨j + 1, by omega, by go_num, by go_num, (by first | assumption | exact (Hid.out (by assumption) : Below w.heap.size w _).drew)⟩
        case measure => simp [intOf]; omega
    · obtain rfl : j = n := by omega
      clear hown
      go_wp2_with fail
      go_ret
      exact ⟨rfl, HB.out⟩
theorem markTokenS_nil (a : Option Addr) (cap : Nat) (k : Int) (w : World) :
    Calls Tryd.prog 16 #[.slice a 0 cap, .int .i64 k] w fun e' w' => e' = .returned (.int .i64 k) ∧ w' = w := by
  go_enter Tryd.func16, Tryd.ntmps16
  go_wp2_with fail
  go_loop [1, 5] (fun m i => i = .int .i64 0 ∧ m = .int .i64 k) (fun _ _ => 0)
  case atStart => exact ⟨rfl, rfl⟩
  case round =>
    obtain ⟨rfl, rfl⟩ := hrel
    go_wp2_with fail
    go_ret
    exact ⟨rfl, rfl⟩
theorem heldTokenS_nil (a : Option Addr) (cap : Nat) (k : Int) (w : World) :
    Calls Tryd.prog 17 #[.slice a 0 cap, .int .i64 k] w fun e' w' => e' = .returned (.int .i64 k) ∧ w' = w := by
  go_enter Tryd.func17, Tryd.ntmps17
  go_wp2_with fail
  go_loop [1, 5] (fun m i => i = .int .i64 0 ∧ m = .int .i64 k) (fun _ _ => 0)
  case atStart => exact ⟨rfl, rfl⟩
  case round =>
    obtain ⟨rfl, rfl⟩ := hrel
    go_wp2_with fail
    go_ret
    exact ⟨rfl, rfl⟩
theorem markTokenS_any (v : Value) (base n : Nat) (e : TypeId) (xs : List Value) (hn : n ≤ 1000000) (w : World) (hown : w.ownsRow base e 2 v n xs) :
    Calls Tryd.prog 16 #[v, .int .i64 1] w fun e' w' => e' = .returned (.int .i64 (1 + 2 * (n : Int))) ∧ w'.ownsRow base e 2 v n (marksT 1 n) ∧ w.grownBy w' v.ownBlock := by
  rcases hown.2 with ⟨rfl, rfl⟩ | ⟨g, cap, cur, rfl, _⟩
  · refine (markTokenS_nil none 0 1 w).mono ?_
    rintro e' w' ⟨he, rfl⟩
    exact ⟨by rw [he]; exact ret_int (by omega), ⟨rfl, Or.inl ⟨rfl, rfl⟩⟩, grown_refl _ _⟩
  · exact markTokenS_own g cap base n e xs 1 hn (by omega) w hown
theorem heldTokenS_any (v : Value) (base n : Nat) (e : TypeId) (hn : n ≤ 1000000) (w : World) (hown : w.ownsRow base e 2 v n (marksT 1 n)) :
    Calls Tryd.prog 17 #[v, .int .i64 1] w fun e' w' => e' = .returned (.int .i64 (1 + 2 * (n : Int))) ∧ Below w.heap.size w w' := by
  rcases hown.2 with ⟨rfl, rfl⟩ | ⟨g, cap, cur, rfl, _⟩
  · refine (heldTokenS_nil none 0 1 w).mono ?_
    rintro e' w' ⟨he, rfl⟩
    exact ⟨by rw [he]; exact ret_int (by omega), Below.refl _ _⟩
  · exact heldTokenS_own g cap base n e 1 hn (by omega) w hown
end Go.Proofs.YtkfplichekebdaaDoor
