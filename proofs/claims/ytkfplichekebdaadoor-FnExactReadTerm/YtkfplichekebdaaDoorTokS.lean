/-
  Lists of tokens: comparisons, marks that the laws lay into them and look for again.
-/
import Derived.Test.YtkfplichekebdaaDoorToks
import Derived.Outline
namespace Go.Proofs.YtkfplichekebdaaDoor
open Go Go.RowKit
open M
set_option linter.unusedVariables false

/-- a slice whose elements are these tokens -/
def ToksAt (w : World) (v : Value) (t : List M.Tok) : Prop :=
  t.length ≤ 9223372036854775807 ∧ ((t = [] ∧ ∃ (a : Option Addr) (cap : Nat), v = .slice a 0 cap) ∨
  ∃ b off cap : Nat, v = .slice (some ⟨b, off, none⟩) t.length cap ∧ b < w.heap.size ∧ ∀ (i : Nat) (x : M.Tok), t[i]? = some x → w.cell? ⟨b, off + i * 2, none⟩ = some (.int .i64 (x.1 : Int)) ∧ w.cell? ⟨b, off + i * 2 + 1, none⟩ = some (tx x.2))
theorem ToksAt.below {w w' : World} {v : Value} {t : List M.Tok} (h : ToksAt w v t) (hb : Below w.heap.size w w') : ToksAt w' v t := by
  obtain ⟨hl, h⟩ := h
  refine ⟨hl, ?_⟩
  rcases h with h | ⟨b, off, cap, hv, hlt, hc⟩
  · exact Or.inl h
  · refine Or.inr ⟨b, off, cap, hv, Nat.lt_of_lt_of_le hlt hb.size, fun i x hx => ?_⟩
    rw [hb.cell (p := ⟨b, off + i * 2, none⟩) hlt, hb.cell (p := ⟨b, off + i * 2 + 1, none⟩) hlt]
    exact hc i x hx
theorem flatK_at : ∀ (t : List M.Tok) (i : Nat) (x : M.Tok), t[i]? = some x → (flatK t)[i * 2]? = some (.int .i64 (x.1 : Int)) ∧ (flatK t)[i * 2 + 1]? = some (tx x.2)
  | [], i, x, h => by simp at h
  | a :: t, 0, x, h => by
    simp at h
    subst h
    exact ⟨rfl, rfl⟩
  | a :: t, i + 1, x, h => by
    have ih := flatK_at t i x (by simpa using h)
    have e : flatK (a :: t) = [.int .i64 (a.1 : Int), tx a.2] ++ flatK t := rfl
    rw [e, List.getElem?_append_right (by simp; omega), List.getElem?_append_right (by simp; omega)]
    rw [show (i + 1) * 2 - [Value.int .i64 (a.1 : Int), tx a.2].length = i * 2 from by simp; omega, show (i + 1) * 2 + 1 - [Value.int .i64 (a.1 : Int), tx a.2].length = i * 2 + 1 from by simp; omega]
    exact ih
theorem toks_of_own {w : World} {base : Nat} {v : Value} {t : List M.Tok} (hl : t.length ≤ 9223372036854775807) (h : OwnToks w base v t) : ToksAt w v t := by
  refine ⟨hl, ?_⟩
  rcases h.2 with ⟨h1, h2⟩ | ⟨g, cap, cur, h1, h2, h3, _⟩
  · exact Or.inl ⟨List.length_eq_zero_iff.1 h2, none, 0, h1⟩
  · subst h1
    have hlt : g < w.heap.size := by
      by_cases hg' : g < w.heap.size
      · exact hg'
      · rw [Array.getElem?_eq_none (by omega)] at h3
        cases h3
    refine Or.inr ⟨g, 0, cap, rfl, hlt, fun i x hx => ?_⟩
    have hi : i < t.length := (List.getElem?_eq_some_iff.1 hx).1
    have := flatK_len t
    rw [Nat.zero_add, h.cellAt (i * 2) (by omega), h.cellAt (i * 2 + 1) (by omega)]
    exact flatK_at t i x hx
theorem eqToken_same (p : Int) (l : Tx) (w : World) :
    Calls Tryd.prog 36 #[.agg #[.int .i64 p, tx l], .agg #[.int .i64 p, tx l]] w fun e w' => e = .returned (.bool true) ∧ Below w.heap.size w w' := by
  have HB : Hid (Below w.heap.size w ((w.alloc (.cells #[.int .i64 p, tx l] 55)).alloc (.cells #[.int .i64 p, tx l] 55))) := ((Below.refl _ _).alloc (Nat.le_refl _) _).alloc (by simp) _
  go_enter Tryd.func36, Tryd.ntmps36
  go_wp2
  go_ret
  exact ⟨rfl, HB.out⟩
set_option maxRecDepth 100000 in
set_option maxHeartbeats 2000000 in
theorem eqTokenS_in (b off cap b' off' cap' : Nat) (t : List M.Tok) (hl0 : t.length ≤ 9223372036854775807) (w : World) (hlt : b < w.heap.size) (hlt2 : b' < w.heap.size)
    (hc : ∀ (i : Nat) (x : M.Tok), t[i]? = some x → w.cell? ⟨b, off + i * 2, none⟩ = some (.int .i64 (x.1 : Int)) ∧ w.cell? ⟨b, off + i * 2 + 1, none⟩ = some (tx x.2))
    (hc2 : ∀ (i : Nat) (x : M.Tok), t[i]? = some x → w.cell? ⟨b', off' + i * 2, none⟩ = some (.int .i64 (x.1 : Int)) ∧ w.cell? ⟨b', off' + i * 2 + 1, none⟩ = some (tx x.2)) :
    Calls Tryd.prog 15 #[.slice (some ⟨b, off, none⟩) t.length cap, .slice (some ⟨b', off', none⟩) t.length cap'] w fun e w' => e = .returned (.bool true) ∧ Below w.heap.size w w' := by
  go_enter Tryd.func15, Tryd.ntmps15
  go_wp2_with fail
  go_loopw [5] (fun i wr => ∃ j : Nat, j ≤ t.length ∧ i = .int .i64 j ∧ Below w.heap.size w wr) (fun i _ => t.length - (intOf i).toNat)
  case atStart => exact ⟨0, by omega, rfl, Below.refl _ _⟩
  case round =>
    obtain ⟨j, hj, rfl, hb⟩ := hrel
    by_cases hlt' : j < t.length
    · obtain ⟨⟨p, l⟩, hy⟩ : ∃ y, t[j]? = some y := ⟨t[j], List.getElem?_eq_getElem hlt'⟩
      obtain ⟨c0, c1⟩ := hc j (p, l) hy
      obtain ⟨d0, d1⟩ := hc2 j (p, l) hy
      rw [← hb.cell (p := ⟨b, off + j * 2, none⟩) hlt] at c0
      rw [← hb.cell (p := ⟨b, off + j * 2 + 1, none⟩) hlt] at c1
      rw [← hb.cell (p := ⟨b', off' + j * 2, none⟩) hlt2] at d0
      rw [← hb.cell (p := ⟨b', off' + j * 2 + 1, none⟩) hlt2] at d1
      have g := fun ww => eqToken_same p l ww
      have HB : Hid (Below w.heap.size w wr) := hb
      clear hy hc hc2 hb
      go_wp2_with fail
      go_region_with (go_at_call 36; refine (g _).mono ?_; rintro e w2 ⟨rfl, hb2⟩; have HB2 : Hid (Below w.heap.size w w2) := (by first | exact HB.out.trans (hb2.mono HB.out.size) | exact HB.out.drew.trans (hb2.mono HB.out.size) | exact HB.out.drew.drew.trans (hb2.mono HB.out.size)); clear hb2)
      all_goals
        clear g HB
        go_wp2_with fail
        go_roundw
        case rel => exact ⟨j + 1, by omega, by go_num, Hid.out (by assumption)⟩
        case measure => simp [intOf]; omega
    · obtain rfl : j = t.length := by omega
      have HB : Hid (Below w.heap.size w wr) := hb
      clear hb hc hc2
      go_wp2_with fail
      go_ret
      exact ⟨rfl, HB.out⟩
theorem eqTokenS_nil (a a' : Option Addr) (cap cap' : Nat) (w : World) :
    Calls Tryd.prog 15 #[.slice a 0 cap, .slice a' 0 cap'] w fun e w' => e = .returned (.bool true) ∧ Below w.heap.size w w' := by
  go_enter Tryd.func15, Tryd.ntmps15
  go_wp2_with fail
  go_loop [5] (fun i => i = .int .i64 0) (fun _ => 0)
  case atStart => rfl
  case round =>
    obtain rfl := hrel
    go_wp2_with fail
    go_ret
    exact ⟨rfl, Below.refl _ _⟩
theorem eqTokenS_same (u v : Value) (t : List M.Tok) (w : World) (h1 : ToksAt w u t) (h2 : ToksAt w v t) :
    Calls Tryd.prog 15 #[u, v] w fun e w' => e = .returned (.bool true) ∧ Below w.heap.size w w' := by
  obtain ⟨hl, k1⟩ := h1
  obtain ⟨_, k2⟩ := h2
  rcases k1 with ⟨rfl, a, cap, rfl⟩ | ⟨b, off, cap, rfl, hb, hc⟩
  · rcases k2 with ⟨_, a', cap', rfl⟩ | ⟨b', off', cap', rfl, _⟩
    · exact eqTokenS_nil _ _ _ _ w
    · exact eqTokenS_nil _ _ _ _ w
  · rcases k2 with ⟨rfl, a', cap', rfl⟩ | ⟨b', off', cap', rfl, hb', hc'⟩
    · exact eqTokenS_nil _ _ _ _ w
    · exact eqTokenS_in b off cap b' off' cap' t hl w hb hb' hc hc'
/-- the text of a mark -/
def markL (k : Nat) : Tx := 109 :: numL k
set_option maxRecDepth 100000 in
set_option maxHeartbeats 2000000 in
theorem markText_any (K : Nat) (h0 : 0 < K) (h1 : K ≤ 1000000000000) (w : World) : Calls Tryd.prog 37 #[.int .i64 (K : Int)] w fun e w' => e = .returned (tx (markL K)) ∧ Below w.heap.size w w' := by
  go_enter Tryd.func37, Tryd.ntmps37
  go_wp2_with fail
  go_loopw [3, 0] (fun v k wr => ∃ (m : Nat) (out : Tx), m ≤ K ∧ k = .int .i64 m ∧ v = tx out ∧ out.length ≤ 20 ∧ Hid ((m = 0 → out = numL K) ∧ (0 < m → numL K = numL m ++ out)) ∧ Hid (Below w.heap.size w wr)) (fun _ k _ => (intOf k).toNat)
  case atStart => exact ⟨K, [], by omega, rfl, rfl, by simp, ⟨fun h => by omega, fun _ => by simp⟩, Below.refl _ _⟩
  case round =>
    obtain ⟨m, out, hm, rfl, rfl, hol, HN, HB⟩ := hrel
    by_cases hm0 : 0 < m
    · obtain ⟨b, hb⟩ : ∃ b, dig (m % 10) = b := ⟨_, rfl⟩
      have hx : (48 + (m : Int) % 10) = (b.toNat : Int) := by rw [← hb, dig_nat (by omega)]; omega
      have HN2 : Hid (((m / 10 = 0 → b :: out = numL K) ∧ (0 < m / 10 → numL K = numL (m / 10) ++ b :: out)) ∧ (b :: out).length ≤ 20) := by
        have h := HN.out.2 hm0
        have hlk : (numL K).length ≤ 20 := numL_len20 (by omega)
        by_cases h10 : m < 10
        · rw [numL_small h10] at h
          have e : m % 10 = m := by omega
          rw [e] at hb
          rw [hb] at h
          refine ⟨⟨fun _ => h.symm, fun h2 => by omega⟩, ?_⟩
          rw [h] at hlk
          exact hlk
        · rw [numL_big (n := m) (by omega), hb] at h
          refine ⟨⟨fun h2 => by omega, fun _ => by rw [h]; simp⟩, ?_⟩
          rw [h] at hlk
          simp only [List.length_append, List.length_singleton] at hlk
          simp only [List.length_cons]
          omega
      have hc := conv_one wr (48 + (m : Int) % 10) b hx
      have HB2 : Hid (Below w.heap.size w (wr.alloc (.cells #[.int .u8 (48 + (m : Int) % 10)] 5))) := HB.out.alloc HB.out.size _
      clear hx hb HN
      have ha := fun w : World => run_string_add_sum (P := Tryd.prog) w ⟨[b].toArray⟩ ⟨out.toArray⟩ (by simp [ByteArray.size]; omega)
      rw [ByteArray.mk_append_mk] at ha
      go_wp2_with fail
      go_roundw
      case rel => exact ⟨m / 10, b :: out, by omega, by go_num, rfl, HN2.out.2, HN2.out.1, HB2⟩
      case measure => simp [intOf]; omega
    · obtain rfl : m = 0 := by omega
      have HE : Hid (out = numL K) := HN.out.1 rfl
      have ha := fun w : World => run_string_add_sum (P := Tryd.prog) w ⟨[109].toArray⟩ ⟨out.toArray⟩ (by simp [ByteArray.size]; omega)
      rw [ByteArray.mk_append_mk] at ha
      go_wp2_with fail
      go_ret
      exact ⟨by rw [show markL K = 109 :: out from by rw [HE.out]; rfl]; rfl, HB.out⟩
end Go.Proofs.YtkfplichekebdaaDoor
