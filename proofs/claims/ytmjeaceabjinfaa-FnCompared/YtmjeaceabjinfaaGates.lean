/-
  Lists of gates in memory: the laws' own copies, comparisons and marks of them.
-/
import Derived.Test.YtmjeaceabjinfaaIntS
import Derived.Test.YtmjeaceabjinfaaBoolS
import Derived.Test.YtmjeaceabjinfaaGateM
import Derived.Deep.RegionWith
namespace Go.Proofs.Ytmjeaceabjinfaa
open Go Go.RowKit
open M
set_option linter.unusedVariables false

/-- numbers that fit -/
def Fit (n : Int) : Prop := -9223372036854775808 ≤ n ∧ n ≤ 9223372036854775807
def GtOk (x : Gt) : Prop := Fit x.1 ∧ Fit x.2.1 ∧ Fit x.2.2
/-- a gate as a value, and gates as the cells of a row -/
def gv (x : Gt) : Value := .agg #[.int .i64 x.1, .int .i64 x.2.1, .int .i64 x.2.2]
def flat3 : List Gt → List Value
  | [] => []
  | x :: t => .int .i64 x.1 :: .int .i64 x.2.1 :: .int .i64 x.2.2 :: flat3 t
/-- where a gate lies -/
def GateAt (w : World) (b o : Nat) (x : Gt) : Prop := w.cell? ⟨b, o, none⟩ = some (.int .i64 x.1) ∧ w.cell? ⟨b, o + 1, none⟩ = some (.int .i64 x.2.1) ∧ w.cell? ⟨b, o + 2, none⟩ = some (.int .i64 x.2.2)
theorem GateAt.below {w w' : World} {B b o : Nat} {x : Gt} (h : GateAt w b o x) (hb : Below B w w') (hlt : b < B) : GateAt w' b o x := by
  unfold GateAt at *
  rw [hb.cell (p := ⟨b, o, none⟩) hlt, hb.cell (p := ⟨b, o + 1, none⟩) hlt, hb.cell (p := ⟨b, o + 2, none⟩) hlt]
  exact h
/-- a slice whose elements are these gates -/
def GatesAt (w : World) (v : Value) (t : List Gt) : Prop :=
  (∀ x ∈ t, GtOk x) ∧ t.length ≤ 9223372036854775807 ∧ ((t = [] ∧ ∃ (a : Option Addr) (cap : Nat), v = .slice a 0 cap) ∨
  ∃ b off cap : Nat, v = .slice (some ⟨b, off, none⟩) t.length cap ∧ b < w.heap.size ∧ ∀ (i : Nat) (x : Gt), t[i]? = some x → GateAt w b (off + i * 3) x)
theorem GatesAt.below {w w' : World} {v : Value} {t : List Gt} (h : GatesAt w v t) (hb : Below w.heap.size w w') : GatesAt w' v t := by
  obtain ⟨h1, h2, h3⟩ := h
  refine ⟨h1, h2, ?_⟩
  rcases h3 with h | ⟨b, off, cap, hv, hlt, hc⟩
  · exact Or.inl h
  · exact Or.inr ⟨b, off, cap, hv, Nat.lt_of_lt_of_le hlt hb.size, fun i x hx => (hc i x hx).below hb hlt⟩
theorem GatesAt.shape {w : World} {v : Value} {t : List Gt} (h : GatesAt w v t) : ∃ (a : Option Addr) (cap : Nat), v = .slice a t.length cap := by
  obtain ⟨_, _, h⟩ := h
  rcases h with ⟨rfl, a, cap, h⟩ | ⟨b, off, cap, h, _⟩
  · exact ⟨a, cap, h⟩
  · exact ⟨_, cap, h⟩
theorem flat3_len : ∀ t : List Gt, (flat3 t).length = t.length * 3
  | [] => rfl
  | x :: t => by
    simp only [flat3, List.length_cons, flat3_len t]
    omega
theorem flat3_append : ∀ s t : List Gt, flat3 (s ++ t) = flat3 s ++ flat3 t
  | [], t => rfl
  | x :: s, t => by simp [flat3, flat3_append s t]
theorem flat3_at : ∀ (t : List Gt) (i : Nat) (x : Gt), t[i]? = some x → (flat3 t)[i * 3]? = some (.int .i64 x.1) ∧ (flat3 t)[i * 3 + 1]? = some (.int .i64 x.2.1) ∧ (flat3 t)[i * 3 + 2]? = some (.int .i64 x.2.2)
  | [], i, x, h => by simp at h
  | y :: t, 0, x, h => by
    simp at h
    subst h
    exact ⟨rfl, rfl, rfl⟩
  | y :: t, i + 1, x, h => by
    have h' : t[i]? = some x := by simpa using h
    rw [show (i + 1) * 3 = i * 3 + 1 + 1 + 1 from by omega]
    simpa [flat3] using flat3_at t i x h'
theorem flat3_set : ∀ (t : List Gt) (i : Nat) (x : Gt), (((flat3 t).set (i * 3) (.int .i64 x.1)).set (i * 3 + 1) (.int .i64 x.2.1)).set (i * 3 + 2) (.int .i64 x.2.2) = flat3 (t.set i x)
  | [], i, x => by simp [flat3]
  | y :: t, 0, x => rfl
  | y :: t, i + 1, x => by
    rw [show (i + 1) * 3 = i * 3 + 1 + 1 + 1 from by omega]
    simpa [flat3] using flat3_set t i x
/-- an answer that owns its memory: these gates, from block B on -/
def OwnGates (w : World) (B : Nat) (v : Value) (t : List Gt) : Prop := w.ownsRow B 108 3 v t.length (flat3 t)
theorem gates_of_own {w : World} {base : Nat} {v : Value} {t : List Gt} (hok : ∀ x ∈ t, GtOk x) (hl : t.length ≤ 9223372036854775807) (h : w.ownsRow base 108 3 v t.length (flat3 t)) : GatesAt w v t := by
  refine ⟨hok, hl, ?_⟩
  rcases h.2 with ⟨h1, h2⟩ | ⟨g, cap, cur, h1, h2, h3, _⟩
  · exact Or.inl ⟨List.length_eq_zero_iff.1 h2, none, 0, h1⟩
  · subst h1
    have hlt : g < w.heap.size := by
      by_cases hg' : g < w.heap.size
      · exact hg'
      · rw [Array.getElem?_eq_none (by omega)] at h3
        cases h3
    refine Or.inr ⟨g, 0, cap, rfl, hlt, fun i x hx => ?_⟩
    have hi : i < t.length := (List.getElem?_eq_some_iff.1 hx).1
    unfold GateAt
    rw [Nat.zero_add, h.cellAt (i * 3) (by omega), h.cellAt (i * 3 + 1) (by omega), h.cellAt (i * 3 + 2) (by omega)]
    exact flat3_at t i x hx

theorem toGate_any (x : Gt) (w : World) :
    Calls Try.prog 166 #[gv x] w fun e w' => e = .returned (gv x) ∧ Below w.heap.size w w' := by
  obtain ⟨k, a, b⟩ := x
  unfold gv
  simp only
  go_enter Try.func166, Try.ntmps166
  go_wp2
  refine bodyPost_ret (v := .agg #[.int .i64 k, .int .i64 a, .int .i64 b]) (by simp [results, Try.results166, go_sem]) rfl ⟨rfl, ?_⟩
  exact (((Below.refl _ _).alloc (Nat.le_refl _) _).alloc (by simp) _).alloc (by simp; omega) _
set_option maxHeartbeats 1000000 in
theorem eqGate_any (x y : Gt) (w : World) :
    Calls Try.prog 167 #[gv x, gv y] w fun e w' => e = .returned (.bool (decide (x = y))) ∧ Below w.heap.size w w' := by
  obtain ⟨k, a, b⟩ := x
  obtain ⟨k', a', b'⟩ := y
  unfold gv
  simp only
  have hb : Below w.heap.size w ((w.alloc (.cells #[.int .i64 k, .int .i64 a, .int .i64 b] 108)).alloc (.cells #[.int .i64 k', .int .i64 a', .int .i64 b'] 108)) := ((Below.refl _ _).alloc (Nat.le_refl _) _).alloc (by simp) _
  have HB : Hid _ := hb
  clear hb
  by_cases h1 : k = k'
  · subst h1
    by_cases h2 : a = a'
    · subst h2
      by_cases h3 : b = b'
      · subst h3
        rw [decide_eq_true rfl]
        go_enter Try.func167, Try.ntmps167
        go_wp2
        go_ret
        exact ⟨rfl, HB.out⟩
      · rw [decide_eq_false (by simp [h3])]
        have e2 : (b != b') = true := bne_iff_ne.2 h3
        go_enter Try.func167, Try.ntmps167
        go_wp2
        go_ret
        exact ⟨rfl, HB.out⟩
    · rw [decide_eq_false (by simp [h2])]
      have e2 : (a != a') = true := bne_iff_ne.2 h2
      go_enter Try.func167, Try.ntmps167
      go_wp2
      go_ret
      exact ⟨rfl, HB.out⟩
  · rw [decide_eq_false (by simp [h1])]
    have e1 : (k != k') = true := bne_iff_ne.2 h1
    go_enter Try.func167, Try.ntmps167
    go_wp2
    go_ret
    exact ⟨rfl, HB.out⟩
theorem szGateS_any (a : Option Addr) (len cap : Nat) (left : Int) (hl : len ≤ 9223372036854775807) (h0 : 0 ≤ left) (h1 : left ≤ 9223372036854775807) (w : World) :
    Calls Try.prog 130 #[.slice a len cap, .int .i64 left] w fun e w' => e = .returned (.int .i64 (if left < len then -1 else left - len)) ∧ w' = w := by
  by_cases h : left < len
  · rw [if_pos h]
    go_enter Try.func130, Try.ntmps130
    go_wp2
    go_ret
    exact ⟨rfl, rfl⟩
  · rw [if_neg h]
    go_enter Try.func130, Try.ntmps130
    go_wp2
    go_ret
    exact ⟨rfl, rfl⟩
theorem infoGate : (Try.prog.info? 108).map (fun i => (i.zero, i.size, i.bytes)) = some (some (.agg #[.int .i64 0, .int .i64 0, .int .i64 0]), 3, 24) := by kernel_rfl
theorem made_zero3 : ∀ n : Nat, (madeCells #[Value.int .i64 0, .int .i64 0, .int .i64 0] (n * 3)).toList = flat3 (List.replicate n (0, 0, 0))
  | 0 => by simp [madeCells, flat3]
  | n + 1 => by
    have ih := made_zero3 n
    unfold madeCells at *
    rw [Array.toList_map, Array.toList_range] at *
    rw [show (n + 1) * 3 = n * 3 + 1 + 1 + 1 from by omega, List.range_succ, List.range_succ, List.range_succ, List.map_append, List.map_append, List.map_append, ih, List.replicate_succ', flat3_append, List.append_assoc, List.append_assoc]
    congr 1
    have e0 : n * 3 % 3 = 0 := by omega
    have e1 : (n * 3 + 1) % 3 = 1 := by omega
    have e2 : (n * 3 + 1 + 1) % 3 = 2 := by omega
    simp [flat3, e0, e1, e2]
theorem set_zero3 (t : List Gt) (j : Nat) (x : Gt) (hx : t[j]? = some x) : (t.take j ++ List.replicate (t.length - j) ((0, 0, 0) : Gt)).set j x = t.take (j + 1) ++ List.replicate (t.length - (j + 1)) (0, 0, 0) := by
  have hj : j < t.length := (List.getElem?_eq_some_iff.1 hx).1
  have e : t.take (j + 1) = t.take j ++ [x] := by
    rw [List.take_add_one, hx]
    rfl
  have hl : (t.take j).length = j := List.length_take_of_le (by omega)
  obtain ⟨m, hm⟩ : ∃ m, t.length - j = m + 1 := ⟨t.length - j - 1, by omega⟩
  have hm' : t.length - (j + 1) = m := by omega
  rw [e, hm, hm', List.replicate_succ, List.append_assoc, List.set_append_right _ _ (by omega), hl, Nat.sub_self]
  rfl
set_option maxRecDepth 100000 in
set_option maxHeartbeats 1000000 in
theorem toGateS_in (b off cap : Nat) (t : List Gt) (hl : t.length ≤ 1048576) (w : World) (hlt : b < w.heap.size)
    (hc : ∀ (i : Nat) (x : Gt), t[i]? = some x → GateAt w b (off + i * 3) x) :
    Calls Try.prog 132 #[.slice (some ⟨b, off, none⟩) t.length cap] w fun e w' => ∃ v, e = .returned v ∧ OwnGates w' w.heap.size v t ∧ Below w.heap.size w w' := by
  obtain ⟨i0, hi, hz0, hz1, hz2⟩ := info_parts infoGate
  go_enter Try.func132, Try.ntmps132
  go_wp2_with (at_make; refine wpList_make_full _ rfl _ _ 24 rfl w.heap.size 108 i0 (.agg #[.int .i64 0, .int .i64 0, .int .i64 0]) 3 Try.underlying24 hi hz0 hz1 .i64 .i64 _ _ t.length rfl rfl (by omega) (by omega) (by rw [hz2]; omega) (by unfold maxLen; omega) (Nat.le_refl _) ?_)
  intro w1 hown hgrow
  have hb1 : Below w.heap.size w w1 := (Below.refl _ _).grown hgrow (Nat.le_refl _) (fun k hk => by cases hk)
  have hown1 : w1.ownsRow w.heap.size 108 3 (.slice (some ⟨w.heap.size, 0, none⟩) t.length t.length) t.length (flat3 (List.replicate t.length (0, 0, 0))) := by
    rw [← made_zero3]
    exact hown
  clear hown hgrow
  go_wp2_with fail
  go_loopw [4] (fun i wr => ∃ j : Nat, j ≤ t.length ∧ i = .int .i64 j ∧ wr.ownsRow w.heap.size 108 3 (.slice (some ⟨w.heap.size, 0, none⟩) t.length t.length) t.length (flat3 (t.take j ++ List.replicate (t.length - j) (0, 0, 0))) ∧ Below w.heap.size w wr) (fun i _ => t.length - (intOf i).toNat)
  case atStart => exact ⟨0, by omega, rfl, hown1, hb1⟩
  case round =>
    obtain ⟨j, hj, rfl, hown, hb⟩ := hrel
    by_cases hlt' : j < t.length
    · obtain ⟨x, hx⟩ : ∃ x, t[j]? = some x := ⟨t[j], List.getElem?_eq_getElem hlt'⟩
      obtain ⟨c0, c1, c2⟩ := (hc j x hx).below hb hlt
      obtain ⟨kk, aa, bb⟩ := x
      simp only at c0 c1 c2
      have g1 := toGate_any (kk, aa, bb) wr
      unfold gv at g1
      simp only at g1
      have HX : Hid (t[j]? = some (kk, aa, bb)) := hx
      have HO : Hid (wr.ownsRow w.heap.size 108 3 (.slice (some ⟨w.heap.size, 0, none⟩) t.length t.length) t.length (flat3 (t.take j ++ List.replicate (t.length - j) (0, 0, 0)))) := hown
      clear hx hc hown
      go_wp2_with fail
      refine g1.mono ?_
      rintro e w2 ⟨rfl, hb2⟩
      clear g1
      have own2 := owns_below HO.out hb2
      have hlen : (flat3 (t.take j ++ List.replicate (t.length - j) ((0, 0, 0) : Gt))).length = t.length * 3 := own2.1
      obtain ⟨u0, hu0⟩ : ∃ u0, (flat3 (t.take j ++ List.replicate (t.length - j) ((0, 0, 0) : Gt)))[j * 3]? = some u0 := ⟨_, List.getElem?_eq_getElem (by omega)⟩
      obtain ⟨u1, hu1⟩ : ∃ u1, (flat3 (t.take j ++ List.replicate (t.length - j) ((0, 0, 0) : Gt)))[j * 3 + 1]? = some u1 := ⟨_, List.getElem?_eq_getElem (by omega)⟩
      obtain ⟨u2, hu2⟩ : ∃ u2, (flat3 (t.take j ++ List.replicate (t.length - j) ((0, 0, 0) : Gt)))[j * 3 + 2]? = some u2 := ⟨_, List.getElem?_eq_getElem (by omega)⟩
      have d0 : w2.cell? ⟨w.heap.size, j * 3, none⟩ = some u0 := by rw [own2.cellAt (j * 3) (by omega)]; exact hu0
      have d1 : w2.cell? ⟨w.heap.size, j * 3 + 1, none⟩ = some u1 := by rw [own2.cellAt (j * 3 + 1) (by omega)]; exact hu1
      have d2 : w2.cell? ⟨w.heap.size, j * 3 + 2, none⟩ = some u2 := by rw [own2.cellAt (j * 3 + 2) (by omega)]; exact hu2
      have f0 := own2.frozenAt (j * 3)
      have f1 := own2.frozenAt (j * 3 + 1)
      have f2 := own2.frozenAt (j * 3 + 2)
      have hb3 : Below w.heap.size w w2 := hb.trans (hb2.mono hb.size)
      have own3 := (((own2.stored (j * 3) (.int .i64 kk)).1.stored (j * 3 + 1) (.int .i64 aa)).1.stored (j * 3 + 2) (.int .i64 bb)).1
      have HN : Hid ((((w2.setCell ⟨w.heap.size, j * 3, none⟩ (.int .i64 kk)).setCell ⟨w.heap.size, j * 3 + 1, none⟩ (.int .i64 aa)).setCell ⟨w.heap.size, j * 3 + 2, none⟩ (.int .i64 bb)).ownsRow w.heap.size 108 3 (.slice (some ⟨w.heap.size, 0, none⟩) t.length t.length) t.length (flat3 (t.take (j + 1) ++ List.replicate (t.length - (j + 1)) (0, 0, 0)))) := by
        have h1 := own3
        rw [flat3_set _ j (kk, aa, bb), set_zero3 t j (kk, aa, bb) HX.out] at h1
        exact h1
      have HB3 : Hid (Below w.heap.size w (((w2.setCell ⟨w.heap.size, j * 3, none⟩ (.int .i64 kk)).setCell ⟨w.heap.size, j * 3 + 1, none⟩ (.int .i64 aa)).setCell ⟨w.heap.size, j * 3 + 2, none⟩ (.int .i64 bb))) := ((hb3.setCell (Nat.le_refl _) _).setCell (Nat.le_refl _) _).setCell (Nat.le_refl _) _
      clear own2 own3 hlen hu0 hu1 hu2 hb2 hb3 hb HO hb1 hown1 HX c0 c1 c2
      go_wp2_with fail
      go_roundw
      case rel => exact ⟨j + 1, by omega, by go_num, HN.out, HB3.out⟩
      case measure => simp [intOf]; omega
    · obtain rfl : j = t.length := by omega
      have HN : Hid (wr.ownsRow w.heap.size 108 3 (.slice (some ⟨w.heap.size, 0, none⟩) t.length t.length) t.length (flat3 t)) := by
        have h1 := hown
        rw [Nat.sub_self, List.take_length, List.replicate_zero, List.append_nil] at h1
        exact h1
      have HB : Hid (Below w.heap.size w wr) := hb
      clear hown hb hc hown1 hb1
      go_wp2_with fail
      go_ret
      exact ⟨_, rfl, HN.out, HB.out⟩
set_option maxRecDepth 100000 in
theorem toGateS_nil (a : Option Addr) (cap : Nat) (w : World) :
    Calls Try.prog 132 #[.slice a 0 cap] w fun e w' => ∃ v, e = .returned v ∧ OwnGates w' w.heap.size v [] ∧ Below w.heap.size w w' := by
  obtain ⟨i0, hi, hz0, hz1, hz2⟩ := info_parts infoGate
  go_enter Try.func132, Try.ntmps132
  go_wp2_with (at_make; refine wpList_make_full _ rfl _ _ 24 rfl w.heap.size 108 i0 (.agg #[.int .i64 0, .int .i64 0, .int .i64 0]) 3 Try.underlying24 hi hz0 hz1 .i64 .i64 _ _ 0 rfl rfl (by omega) (by omega) (by rw [hz2]; omega) (by unfold maxLen; omega) (Nat.le_refl _) ?_)
  intro w1 hown hgrow
  have HB : Hid (Below w.heap.size w w1) := (Below.refl _ _).grown hgrow (Nat.le_refl _) (fun k hk => by cases hk)
  have HO : Hid (w1.ownsRow w.heap.size 108 3 (.slice (some ⟨w.heap.size, 0, none⟩) 0 0) 0 (flat3 [])) := by
    have h : (madeCells #[Value.int .i64 0, .int .i64 0, .int .i64 0] 0).toList = flat3 [] := made_zero3 0
    have h2 := hown
    rw [h] at h2
    exact h2
  clear hown hgrow
  go_wp2_with fail
  go_loopw [4] (fun i wr => i = .int .i64 0 ∧ wr = w1) (fun _ _ => 0)
  case atStart => exact ⟨rfl, rfl⟩
  case round =>
    obtain ⟨rfl, rfl⟩ := hrel
    go_wp2_with fail
    go_ret
    exact ⟨_, rfl, HO.out, HB.out⟩
theorem toGateS_any (v : Value) (t : List Gt) (hl : t.length ≤ 1048576) (w : World) (h : GatesAt w v t) :
    Calls Try.prog 132 #[v] w fun e w' => ∃ v', e = .returned v' ∧ OwnGates w' w.heap.size v' t ∧ Below w.heap.size w w' := by
  obtain ⟨hok, hlen, h⟩ := h
  rcases h with ⟨rfl, a, cap, rfl⟩ | ⟨b, off, cap, rfl, hlt, hc⟩
  · exact toGateS_nil a cap w
  · exact toGateS_in b off cap t hl w hlt hc
theorem takeGt_all {s t : List Gt} {j : Nat} {x y : Gt} (hx : s[j]? = some x) (hy : t[j]? = some y) (h : s.take j = t.take j) (hne : x = y) : s.take (j + 1) = t.take (j + 1) := by
  rw [List.take_add_one, List.take_add_one, hx, hy, h, hne]
set_option maxRecDepth 100000 in
set_option maxHeartbeats 1000000 in
theorem eqGateS_in (b off cap b' off' cap' : Nat) (s t : List Gt) (hl : s.length = t.length) (hl0 : t.length ≤ 9223372036854775807) (w : World) (hlt : b < w.heap.size) (hlt2 : b' < w.heap.size)
    (hc : ∀ (i : Nat) (x : Gt), s[i]? = some x → GateAt w b (off + i * 3) x)
    (hc2 : ∀ (i : Nat) (x : Gt), t[i]? = some x → GateAt w b' (off' + i * 3) x) :
    Calls Try.prog 133 #[.slice (some ⟨b, off, none⟩) t.length cap, .slice (some ⟨b', off', none⟩) t.length cap'] w fun e w' => e = .returned (.bool (decide (s = t))) ∧ Below w.heap.size w w' := by
  go_enter Try.func133, Try.ntmps133
  go_wp2_with fail
  go_loopw [5] (fun i wr => ∃ j : Nat, j ≤ t.length ∧ i = .int .i64 j ∧ Hid (s.take j = t.take j) ∧ Below w.heap.size w wr) (fun i _ => t.length - (intOf i).toNat)
  case atStart => exact ⟨0, by omega, rfl, rfl, Below.refl _ _⟩
  case round =>
    obtain ⟨j, hj, rfl, HT, hb⟩ := hrel
    by_cases hlt' : j < t.length
    · obtain ⟨x, hx⟩ : ∃ x, s[j]? = some x := ⟨s[j], List.getElem?_eq_getElem (by omega)⟩
      obtain ⟨y, hy⟩ : ∃ y, t[j]? = some y := ⟨t[j], List.getElem?_eq_getElem hlt'⟩
      obtain ⟨c0, c1, c2⟩ := (hc j x hx).below hb hlt
      obtain ⟨d0, d1, d2⟩ := (hc2 j y hy).below hb hlt2
      have g := fun ww => eqGate_any x y ww
      unfold gv at g
      have HX : Hid (s[j]? = some x) := hx
      have HY : Hid (t[j]? = some y) := hy
      have HB : Hid (Below w.heap.size w wr) := hb
      clear hx hy hc hc2 hb
      by_cases hxy : x = y
      · simp only [decide_eq_true hxy] at g
        have HN : Hid (s.take (j + 1) = t.take (j + 1)) := takeGt_all HX.out HY.out HT.out hxy
        clear hxy
        go_wp2_with fail
        go_region_with (go_at_call 167; refine (g _).mono ?_; rintro e w2 ⟨rfl, hb2⟩; have HB2 : Hid (Below w.heap.size w w2) := (by first | exact HB.out.trans (hb2.mono HB.out.size) | exact HB.out.drew.trans (hb2.mono HB.out.size) | exact HB.out.drew.drew.trans (hb2.mono HB.out.size)); clear hb2)
        all_goals
          clear g HB
          go_wp2_with fail
          go_roundw
          case rel => exact ⟨j + 1, by omega, by go_num, HN, Hid.out (by assumption)⟩
          case measure => simp [intOf]; omega
      · simp only [decide_eq_false hxy] at g
        have HN : Hid (decide (s = t) = false) := decide_eq_false (by
          intro e
          subst e
          have h1 := HX.out
          rw [HY.out] at h1
          exact hxy (Option.some.inj h1).symm)
        clear hxy
        go_wp2_with fail
        go_region_with (go_at_call 167; refine (g _).mono ?_; rintro e w2 ⟨rfl, hb2⟩; have HB2 : Hid (Below w.heap.size w w2) := (by first | exact HB.out.trans (hb2.mono HB.out.size) | exact HB.out.drew.trans (hb2.mono HB.out.size) | exact HB.out.drew.drew.trans (hb2.mono HB.out.size)); clear hb2)
        all_goals
          clear g HB
          go_wp2_with fail
          go_ret
          exact ⟨ret_bool HN.out.symm, Hid.out (by assumption)⟩
    · obtain rfl : j = t.length := by omega
      have HN : Hid (decide (s = t) = true) := decide_eq_true (by
        have h1 := HT.out
        rw [List.take_length, ← hl, List.take_length] at h1
        exact h1)
      have HB : Hid (Below w.heap.size w wr) := hb
      clear hb hc hc2
      go_wp2_with fail
      go_ret
      exact ⟨ret_bool HN.out.symm, HB.out⟩
theorem eqGateS_len (a a' : Option Addr) (n m cap cap' : Nat) (h : n ≠ m) (hn : n ≤ 9223372036854775807) (hm : m ≤ 9223372036854775807) (w : World) :
    Calls Try.prog 133 #[.slice a n cap, .slice a' m cap'] w fun e w' => e = .returned (.bool false) ∧ w' = w := by
  have hne : ((n : Int) != (m : Int)) = true := bne_iff_ne.2 (by omega)
  go_enter Try.func133, Try.ntmps133
  go_wp2_with fail
  go_ret
  exact ⟨rfl, rfl⟩
theorem eqGateS_nil (a a' : Option Addr) (cap cap' : Nat) (w : World) :
    Calls Try.prog 133 #[.slice a 0 cap, .slice a' 0 cap'] w fun e w' => e = .returned (.bool true) ∧ w' = w := by
  go_enter Try.func133, Try.ntmps133
  go_wp2_with fail
  go_loop [5] (fun i => i = .int .i64 0) (fun _ => 0)
  case atStart => rfl
  case round =>
    obtain rfl := hrel
    go_wp2_with fail
    go_ret
    exact ⟨rfl, rfl⟩
theorem eqGateS_any (u v : Value) (s t : List Gt) (w : World) (h1 : GatesAt w u s) (h2 : GatesAt w v t) :
    Calls Try.prog 133 #[u, v] w fun e w' => e = .returned (.bool (decide (s = t))) ∧ Below w.heap.size w w' := by
  by_cases hl : s.length = t.length
  · obtain ⟨_, hls, k1⟩ := h1
    obtain ⟨_, hlt, k2⟩ := h2
    rcases k1 with ⟨rfl, a, cap, rfl⟩ | ⟨b, off, cap, rfl, hb, hc⟩
    · obtain rfl : t = [] := List.length_eq_zero_iff.1 hl.symm
      rcases k2 with ⟨_, a', cap', rfl⟩ | ⟨b', off', cap', rfl, _⟩
      all_goals
        refine (eqGateS_nil _ _ _ _ w).mono ?_
        rintro e w' ⟨he, rfl⟩
        exact ⟨he, Below.refl _ _⟩
    · rcases k2 with ⟨rfl, a', cap', rfl⟩ | ⟨b', off', cap', rfl, hb', hc'⟩
      · obtain rfl : s = [] := List.length_eq_zero_iff.1 hl
        refine (eqGateS_nil _ _ _ _ w).mono ?_
        rintro e w' ⟨he, rfl⟩
        exact ⟨he, Below.refl _ _⟩
      · rw [hl]
        exact eqGateS_in b off cap b' off' cap' s t hl hlt w hb hb' hc hc'
  · obtain ⟨a, cap, rfl⟩ := h1.shape
    obtain ⟨a', cap', rfl⟩ := h2.shape
    rw [decide_eq_false (fun e => hl (congrArg List.length e))]
    refine (eqGateS_len a a' s.length t.length cap cap' hl h1.2.1 h2.2.1 w).mono ?_
    rintro e w' ⟨he, rfl⟩
    exact ⟨he, Below.refl _ _⟩
theorem marks_snoc (k : Int) (n : Nat) : marks k (n + 1) = marks k n ++ [.int .i64 (k + n)] := by simp [marks, List.range_succ]
theorem marks3_set (k : Int) (n j : Nat) (xs : List Value) (hx : xs.length = n * 3) (hj : j < n) :
    (((marks k (j * 3) ++ xs.drop (j * 3)).set (j * 3) (.int .i64 (k + 3 * j))).set (j * 3 + 1) (.int .i64 (k + 3 * j + 1))).set (j * 3 + 2) (.int .i64 (k + 3 * j + 1 + 1)) = marks k ((j + 1) * 3) ++ xs.drop ((j + 1) * 3) := by
  have hl := marks_len k (j * 3)
  obtain ⟨a, b, c, r, hr⟩ : ∃ a b c r, xs.drop (j * 3) = a :: b :: c :: r := by
    rw [List.drop_eq_getElem_cons (show j * 3 < xs.length by omega), List.drop_eq_getElem_cons (show j * 3 + 1 < xs.length by omega), List.drop_eq_getElem_cons (show j * 3 + 1 + 1 < xs.length by omega)]
    exact ⟨_, _, _, _, rfl⟩
  have hr2 : xs.drop ((j + 1) * 3) = r := by
    have h := congrArg (List.drop 3) hr
    rw [List.drop_drop] at h
    rw [show (j + 1) * 3 = j * 3 + 3 from by omega, h]
    rfl
  rw [hr, hr2, List.set_append_right _ _ (by omega), hl, Nat.sub_self, List.set_append_right _ _ (by omega), hl, show j * 3 + 1 - j * 3 = 1 from by omega, List.set_append_right _ _ (by omega), hl, show j * 3 + 2 - j * 3 = 2 from by omega]
  rw [show (j + 1) * 3 = j * 3 + 1 + 1 + 1 from by omega, marks_snoc, marks_snoc, marks_snoc]
  simp only [List.append_assoc, List.set_cons_zero, List.set_cons_succ, List.singleton_append]
  have e0 : k + 3 * (j : Int) = k + ((j * 3 : Nat) : Int) := by omega
  have e1 : k + 3 * (j : Int) + 1 = k + ((j * 3 + 1 : Nat) : Int) := by omega
  have e2 : k + 3 * (j : Int) + 1 + 1 = k + ((j * 3 + 1 + 1 : Nat) : Int) := by omega
  rw [e2, e1, e0]
  rfl
set_option maxRecDepth 100000 in
set_option maxHeartbeats 1000000 in
theorem markGateS_own (g cap base n : Nat) (e : TypeId) (xs : List Value) (k : Int) (hn : n ≤ 1000000000000) (hk0 : 0 ≤ k) (hk : k ≤ 1000000000000) (w : World) (hown : w.ownsRow base e 3 (.slice (some ⟨g, 0, none⟩) n cap) n xs) :
    Calls Try.prog 134 #[.slice (some ⟨g, 0, none⟩) n cap, .int .i64 k] w fun e' w' => e' = .returned (.int .i64 (k + 3 * n)) ∧ w'.ownsRow base e 3 (.slice (some ⟨g, 0, none⟩) n cap) n (marks k (n * 3)) ∧ w.grownBy w' (some g) := by
  have hxl : xs.length = n * 3 := hown.1
  go_enter Try.func134, Try.ntmps134
  go_wp2_with fail
  go_loopw [1, 5] (fun m i wr => ∃ j : Nat, j ≤ n ∧ i = .int .i64 j ∧ m = .int .i64 (k + 3 * j) ∧ Hid (wr.ownsRow base e 3 (.slice (some ⟨g, 0, none⟩) n cap) n (marks k (j * 3) ++ xs.drop (j * 3))) ∧ Hid (w.grownBy wr (some g))) (fun _ i _ => n - (intOf i).toNat)
  case atStart => exact ⟨0, by omega, rfl, by simp, hown, grown_refl _ _⟩
  case round =>
    obtain ⟨j, hj, rfl, rfl, HO, HG⟩ := hrel
    by_cases hlt : j < n
    · have own2 := HO.out
      have hlen := own2.1
      obtain ⟨u0, hu0⟩ : ∃ u0, (marks k (j * 3) ++ xs.drop (j * 3))[j * 3]? = some u0 := ⟨_, List.getElem?_eq_getElem (by omega)⟩
      obtain ⟨u1, hu1⟩ : ∃ u1, (marks k (j * 3) ++ xs.drop (j * 3))[j * 3 + 1]? = some u1 := ⟨_, List.getElem?_eq_getElem (by omega)⟩
      obtain ⟨u2, hu2⟩ : ∃ u2, (marks k (j * 3) ++ xs.drop (j * 3))[j * 3 + 2]? = some u2 := ⟨_, List.getElem?_eq_getElem (by omega)⟩
      have d0 : wr.cell? ⟨g, j * 3, none⟩ = some u0 := by rw [own2.cellAt (j * 3) (by omega)]; exact hu0
      have d1 : wr.cell? ⟨g, j * 3 + 1, none⟩ = some u1 := by rw [own2.cellAt (j * 3 + 1) (by omega)]; exact hu1
      have d2 : wr.cell? ⟨g, j * 3 + 2, none⟩ = some u2 := by rw [own2.cellAt (j * 3 + 2) (by omega)]; exact hu2
      have f0 := own2.frozenAt (j * 3)
      have f1 := own2.frozenAt (j * 3 + 1)
      have f2 := own2.frozenAt (j * 3 + 2)
      have st1 := own2.stored (j * 3) (.int .i64 (k + 3 * j))
      have st2 := st1.1.stored (j * 3 + 1) (.int .i64 (k + 3 * j + 1))
      have st3 := st2.1.stored (j * 3 + 2) (.int .i64 (k + 3 * j + 1 + 1))
      have HN : Hid ((((wr.setCell ⟨g, j * 3, none⟩ (.int .i64 (k + 3 * j))).setCell ⟨g, j * 3 + 1, none⟩ (.int .i64 (k + 3 * j + 1))).setCell ⟨g, j * 3 + 2, none⟩ (.int .i64 (k + 3 * j + 1 + 1))).ownsRow base e 3 (.slice (some ⟨g, 0, none⟩) n cap) n (marks k ((j + 1) * 3) ++ xs.drop ((j + 1) * 3))) := by
        have h1 := st3.1
        rw [marks3_set k n j xs hxl hlt] at h1
        exact h1
      have HG2 : Hid (w.grownBy (((wr.setCell ⟨g, j * 3, none⟩ (.int .i64 (k + 3 * j))).setCell ⟨g, j * 3 + 1, none⟩ (.int .i64 (k + 3 * j + 1))).setCell ⟨g, j * 3 + 2, none⟩ (.int .i64 (k + 3 * j + 1 + 1))) (some g)) := grown_trans (grown_trans (grown_trans HG.out st1.2) st2.2) st3.2
      clear own2 st1 st2 st3 hlen hu0 hu1 hu2 HO HG hown
      go_wp2_with fail
      go_roundw
      case rel => exact ⟨j + 1, by omega, by go_num, by go_num, HN, HG2⟩
      case measure => simp [intOf]; omega
    · obtain rfl : j = n := by omega
      have HN : Hid (wr.ownsRow base e 3 (.slice (some ⟨g, 0, none⟩) j cap) j (marks k (j * 3))) := by
        have h1 := HO.out
        rw [List.drop_of_length_le (by omega), List.append_nil] at h1
        exact h1
      clear HO hown
      go_wp2_with fail
      go_ret
      exact ⟨rfl, HN.out, HG.out⟩
theorem markGateS_nil (a : Option Addr) (cap : Nat) (k : Int) (w : World) :
    Calls Try.prog 134 #[.slice a 0 cap, .int .i64 k] w fun e' w' => e' = .returned (.int .i64 k) ∧ w' = w := by
  go_enter Try.func134, Try.ntmps134
  go_wp2_with fail
  go_loop [1, 5] (fun m i => i = .int .i64 0 ∧ m = .int .i64 k) (fun _ _ => 0)
  case atStart => exact ⟨rfl, rfl⟩
  case round =>
    obtain ⟨rfl, rfl⟩ := hrel
    go_wp2_with fail
    go_ret
    exact ⟨rfl, rfl⟩
theorem markGateS_any (v : Value) (base n : Nat) (e : TypeId) (xs : List Value) (k : Int) (hn : n ≤ 1000000000000) (hk0 : 0 ≤ k) (hk : k ≤ 1000000000000) (w : World) (hown : w.ownsRow base e 3 v n xs) :
    Calls Try.prog 134 #[v, .int .i64 k] w fun e' w' => e' = .returned (.int .i64 (k + 3 * n)) ∧ w'.ownsRow base e 3 v n (marks k (n * 3)) ∧ w.grownBy w' v.ownBlock := by
  rcases hown.2 with ⟨rfl, rfl⟩ | ⟨g, cap, cur, rfl, _⟩
  · refine (markGateS_nil none 0 k w).mono ?_
    rintro e' w' ⟨he, rfl⟩
    exact ⟨by rw [he]; exact ret_int (by omega), ⟨rfl, Or.inl ⟨rfl, rfl⟩⟩, grown_refl _ _⟩
  · exact markGateS_own g cap base n e xs k hn hk0 hk w hown
end Go.Proofs.Ytmjeaceabjinfaa
