/-
  A number put to its place in a list: the model's l1Put.
-/
import Derived.Test.YtmhpnkfibecnmaaDoorMarks
import Derived.Laws.AppendOwnNone
namespace Go.Proofs.YtmhpnkfibecnmaaDoor
open Go Go.RowKit
open M
set_option linter.unusedVariables false

/-- an answer that owns its memory: these numbers, from block B on -/
def OwnInts (w : World) (B : Nat) (v : Value) (t : List Int) : Prop := w.ownsRow B 3 1 v t.length (t.map (Value.int .i64))
def pos (l : List Int) (n : Int) : Nat := (l.takeWhile fun x => decide (x < n)).length
def putL (l : List Int) (n : Int) : List Int := if l[pos l n]? = some n then l else l.take (pos l n) ++ n :: l.drop (pos l n)
theorem pos_eq (n : Int) : ∀ (l : List Int) (j : Nat), j ≤ l.length → (∀ i x, i < j → l[i]? = some x → x < n) → (∀ x, l[j]? = some x → ¬ x < n) → pos l n = j
  | [], j, hj, _, _ => by
    simp at hj
    subst hj
    rfl
  | y :: l, 0, _, _, h2 => by
    have h := h2 y rfl
    unfold pos
    rw [List.takeWhile_cons_of_neg (by simpa using h)]
    rfl
  | y :: l, j + 1, hj, h1, h2 => by
    have hy := h1 0 y (by omega) rfl
    have ih := pos_eq n l j (by simpa using hj) (fun i x hi hx => h1 (i + 1) x (by omega) (by simpa using hx)) (fun x hx => h2 x (by simpa using hx))
    unfold pos at *
    rw [List.takeWhile_cons_of_pos (by simpa using hy), List.length_cons, ih]
theorem own_emptyI (w : World) (base : Nat) (hb : base ≤ w.heap.size) : (w.alloc (.cells #[] 3)).ownsRow base 3 1 (.slice (some ⟨w.heap.size, 0, none⟩) 0 0) 0 [] := by
  refine ⟨rfl, Or.inr ⟨w.heap.size, 0, #[], rfl, hb, ?_, Nat.le_refl _, by unfold maxLen; omega, rfl, rfl⟩⟩
  show (w.heap.push _)[w.heap.size]? = _
  simp
theorem ints_one (t : List Int) : ∀ u ∈ t.map (Value.int .i64), u.oneCell' = true := by
  intro u hu
  obtain ⟨x, _, rfl⟩ := List.mem_map.1 hu
  rfl
/-- cells of a row of numbers, from a place on -/
theorem ints_from {w : World} {g o : Nat} {t : List Int} (hc : ∀ (i : Nat) (x : Int), t[i]? = some x → w.cell? ⟨g, o + i, none⟩ = some (.int .i64 x)) :
    ∀ (j : Nat) (u : Value), (t.map (Value.int .i64))[j]? = some u → w.cell? ((⟨g, o, none⟩ : Addr).add j) = some u := by
  intro j u hu
  rw [List.getElem?_map, Option.map_eq_some_iff] at hu
  obtain ⟨x, hx, rfl⟩ := hu
  have ea : (⟨g, o, none⟩ : Addr).add j = ⟨g, o + j, none⟩ := by
    unfold Addr.add
    by_cases h0 : j = 0
    · subst h0
      simp
    · simp [h0]
  rw [ea]
  exact hc j x hx
theorem oneI_cells (w : World) (n : Int) : ∀ (j : Nat) (u : Value), ([.int .i64 n] : List Value)[j]? = some u → (w.alloc (.cells #[.int .i64 n] 3)).cell? ((⟨w.heap.size, 0, none⟩ : Addr).add j) = some u := by
  intro j u hu
  match j, hu with
  | 0, hu => simp at hu; subst hu; simp [Addr.add]
/-- behind an append to what is the call's own -/
theorem below_app {u w w' : World} {B base n : Nat} {e : TypeId} {v : Value} {xs : List Value} (hb : Below B u w) (hs : B ≤ w.heap.size) (hB : B ≤ base) (ho : w.ownsRow base e 1 v n xs) (hg : w.grownBy w' v.ownBlock) : Below B u w' :=
  hb.grown hg hs (fun k hk => by
    rcases ho.2 with ⟨h, _⟩ | ⟨g, cap, cur, h, hg, _⟩
    · rw [h] at hk
      cases hk
    · rw [h] at hk
      cases hk
      exact Nat.le_trans hB hg)
set_option maxRecDepth 100000 in
set_option maxHeartbeats 4000000 in
theorem l1Put_in (g cap : Nat) (l : List Int) (n : Int) (hn0 : -9223372036854775808 ≤ n) (hn1 : n ≤ 9223372036854775807) (hl : l.length ≤ 1048576) (hpos : 1 ≤ l.length) (hcap : l.length ≤ cap) (hcm : cap ≤ 9223372036854775807) (w : World) (base : Nat) (hbase : base ≤ w.heap.size) (hbase2 : w.heap.size ≤ base) (hlt : g < w.heap.size)
    (hc : ∀ (i : Nat) (x : Int), l[i]? = some x → w.cell? ⟨g, i, none⟩ = some (.int .i64 x)) :
    Calls Tryd.prog 72 #[.slice (some ⟨g, 0, none⟩) l.length cap, .int .i64 n] w fun e w' => ∃ v, e = .returned v ∧ ((v = .slice (some ⟨g, 0, none⟩) l.length cap ∧ putL l n = l) ∨ OwnInts w' base v (putL l n)) ∧ Below w.heap.size w w' := by
  obtain ⟨i0, hi, hz0, hz1, hz2⟩ := info_parts infoInt
  have HC : Hid (∀ w1 : World, Below w.heap.size w w1 → ∀ (o : Nat), ∀ (i : Nat) (x : Int), (l.drop o)[i]? = some x → w1.cell? ⟨g, o + i, none⟩ = some (.int .i64 x)) := by
    intro w1 hb o i x hx
    rw [hb.cell (p := ⟨g, o + i, none⟩) hlt]
    apply hc
    simpa using hx
  go_enter Tryd.func72, Tryd.ntmps72
  go_wp2_with fail
  go_loop [5] (fun i => ∃ j : Nat, j ≤ l.length ∧ i = .int .i64 j ∧ Hid (∀ i x, i < j → l[i]? = some x → x < n)) (fun i => l.length - (intOf i).toNat)
  case atStart => exact ⟨0, by omega, rfl, fun i x hi => by omega⟩
  case round =>
    obtain ⟨j, hj, rfl, HP⟩ := hrel
    by_cases hlt' : j < l.length
    · obtain ⟨x, hx⟩ : ∃ x, l[j]? = some x := ⟨l[j], List.getElem?_eq_getElem hlt'⟩
      have c0 := hc j x hx
      have HX : Hid (l[j]? = some x) := hx
      clear hx hc
      by_cases hxn : x < n
      · have HN : Hid (∀ i x, i < j + 1 → l[i]? = some x → x < n) := by
          intro i y hi' hy
          by_cases e : i = j
          · subst e
            rw [HX.out] at hy
            obtain rfl := Option.some.inj hy
            exact hxn
          · exact HP.out i y (by omega) hy
        go_wp2_with fail
        go_round
        case rel => exact ⟨j + 1, by omega, by go_num, HN⟩
        case measure => simp [intOf]; omega
      · have HE : Hid (pos l n = j) := pos_eq n l j (by omega) HP.out (fun y hy => by rw [HX.out] at hy; obtain rfl := Option.some.inj hy; exact hxn)
        by_cases hxe : x = n
        · subst hxe
          have HR : Hid (putL l x = l) := by
            show putL l x = l
            unfold putL
            rw [HE.out, if_pos HX.out]
          clear HC HP HE
          go_wp2_with fail
          go_ret
          exact ⟨_, rfl, Or.inl ⟨rfl, HR.out⟩, Below.refl _ _⟩
        · have hne : (x == n) = false := beq_eq_false_iff_ne.2 hxe
          have HR : Hid (putL l n = l.take j ++ n :: l.drop j) := by
            show putL l n = l.take j ++ n :: l.drop j
            unfold putL
            rw [HE.out, if_neg (by rw [HX.out]; intro e; exact hxe (Option.some.inj e))]
          clear HP HE HX
          by_cases hj0 : j = 0
          · subst hj0
            have own0 := own_emptyI w base (by omega)
            have HB0 : Hid (Below w.heap.size w (w.alloc (.cells #[] 3))) := (Below.refl _ _).alloc (Nat.le_refl _) _
            have cells1 : ∀ (i : Nat) (u : Value), ((l.take 0).map (Value.int .i64))[i]? = some u → (w.alloc (.cells #[] 3)).cell? ((⟨g, 0, none⟩ : Addr).add i) = some u := ints_from (fun i x hx => by
              have h := HC.out _ HB0.out 0 i x (by
                have hi' : i < 0 := by
                  have := (List.getElem?_eq_some_iff.1 hx).1
                  rw [List.length_take] at this
                  omega
                rw [List.getElem?_take_of_lt hi'] at hx
                simpa using hx)
              exact h)
            go_wp2_with (at_builtin; refine wpList_append_own _ rfl _ _ 29 rfl base 3 i0 (.int .i64 0) 1 8 Tryd.underlying29 hi hz0 hz1 hz2 rfl (by decide) _ _ _ rfl own0 ⟨g, 0, none⟩ 0 cap ((l.take 0).map (Value.int .i64)) rfl (by rw [List.length_map, List.length_take]; omega) cells1 (ints_one _) (by unfold maxLen; omega) (by omega) (by have := HB0.out.size; omega) ?_)
            intro v1 w1 own1 grow1 _
            have HB1 : Hid (Below w.heap.size w w1) := below_app HB0.out HB0.out.size (by omega) own0 grow1
            have own1a := own1.alloc (.cells #[.int .i64 n] 3)
            have HB1a : Hid (Below w.heap.size w (w1.alloc (.cells #[.int .i64 n] 3))) := HB1.out.alloc HB1.out.size _
            clear cells1 own0 grow1 HB0
            go_wp2_with (at_builtin; refine wpList_append_own _ rfl _ _ 29 rfl base 3 i0 (.int .i64 0) 1 8 Tryd.underlying29 hi hz0 hz1 hz2 rfl (by decide) _ _ _ rfl own1a ⟨w1.heap.size, 0, none⟩ 1 1 [.int .i64 n] rfl rfl (oneI_cells w1 n) (ints_one [n]) (by unfold maxLen; omega) (by omega) (by have := HB1a.out.size; omega) ?_)
            intro v2 w2 own2 grow2 _
            have HB2 : Hid (Below w.heap.size w w2) := below_app HB1a.out HB1a.out.size (by omega) own1a grow2
            have cells3 : ∀ (i : Nat) (u : Value), ((l.drop 0).map (Value.int .i64))[i]? = some u → w2.cell? ((⟨g, 0, none⟩ : Addr).add i) = some u := ints_from (fun i x hx => HC.out w2 HB2.out 0 i x hx)
            clear own1 own1a grow2 HB1 HB1a
            go_wp2_with (at_builtin; refine wpList_append_own _ rfl _ _ 29 rfl base 3 i0 (.int .i64 0) 1 8 Tryd.underlying29 hi hz0 hz1 hz2 rfl (by decide) _ _ _ rfl own2 ⟨g, 0, none⟩ (l.length) (cap) ((l.drop 0).map (Value.int .i64)) rfl (by rw [List.length_map, List.length_drop]; omega) cells3 (ints_one _) (by unfold maxLen; omega) (by omega) (by have := HB2.out.size; omega) ?_)
            intro v3 w3 own3 grow3 _
            have HB3 : Hid (Below w.heap.size w w3) := below_app HB2.out HB2.out.size (by omega) own2 grow3
            have HO : Hid (OwnInts w3 base v3 (putL l n)) := by
              show w3.ownsRow base 3 1 v3 (putL l n).length ((putL l n).map (Value.int .i64))
              rw [HR.out]
              have e1 : (l.take 0 ++ n :: l.drop 0).length = 0 + 0 + 1 + (l.length) := by
                simp
                omega
              rw [e1]
              have e2 : (l.take 0 ++ n :: l.drop 0).map (Value.int .i64) = [] ++ (l.take 0).map (Value.int .i64) ++ [.int .i64 n] ++ (l.drop 0).map (Value.int .i64) := by
                simp
              rw [e2]
              first | exact own3 | simpa using own3
            clear own2 own3 grow3 cells3 HC HR HB2
            go_wp2_with fail
            go_ret
            exact ⟨_, rfl, Or.inr HO.out, HB3.out⟩
          · have hj1 : 1 ≤ j := by omega
            have own0 := own_emptyI w base (by omega)
            have HB0 : Hid (Below w.heap.size w (w.alloc (.cells #[] 3))) := (Below.refl _ _).alloc (Nat.le_refl _) _
            have cells1 : ∀ (i : Nat) (u : Value), ((l.take j).map (Value.int .i64))[i]? = some u → (w.alloc (.cells #[] 3)).cell? ((⟨g, 0, none⟩ : Addr).add i) = some u := ints_from (fun i x hx => by
              have h := HC.out _ HB0.out 0 i x (by
                have hi' : i < j := by
                  have := (List.getElem?_eq_some_iff.1 hx).1
                  rw [List.length_take] at this
                  omega
                rw [List.getElem?_take_of_lt hi'] at hx
                simpa using hx)
              exact h)
            go_wp2_with (at_builtin; refine wpList_append_own _ rfl _ _ 29 rfl base 3 i0 (.int .i64 0) 1 8 Tryd.underlying29 hi hz0 hz1 hz2 rfl (by decide) _ _ _ rfl own0 ⟨g, 0, none⟩ j cap ((l.take j).map (Value.int .i64)) rfl (by rw [List.length_map, List.length_take]; omega) cells1 (ints_one _) (by unfold maxLen; omega) (by omega) (by have := HB0.out.size; omega) ?_)
            intro v1 w1 own1 grow1 _
            have HB1 : Hid (Below w.heap.size w w1) := below_app HB0.out HB0.out.size (by omega) own0 grow1
            have own1a := own1.alloc (.cells #[.int .i64 n] 3)
            have HB1a : Hid (Below w.heap.size w (w1.alloc (.cells #[.int .i64 n] 3))) := HB1.out.alloc HB1.out.size _
            clear cells1 own0 grow1 HB0
            go_wp2_with (at_builtin; refine wpList_append_own _ rfl _ _ 29 rfl base 3 i0 (.int .i64 0) 1 8 Tryd.underlying29 hi hz0 hz1 hz2 rfl (by decide) _ _ _ rfl own1a ⟨w1.heap.size, 0, none⟩ 1 1 [.int .i64 n] rfl rfl (oneI_cells w1 n) (ints_one [n]) (by unfold maxLen; omega) (by omega) (by have := HB1a.out.size; omega) ?_)
            intro v2 w2 own2 grow2 _
            have HB2 : Hid (Below w.heap.size w w2) := below_app HB1a.out HB1a.out.size (by omega) own1a grow2
            have cells3 : ∀ (i : Nat) (u : Value), ((l.drop j).map (Value.int .i64))[i]? = some u → w2.cell? ((⟨g, j, none⟩ : Addr).add i) = some u := ints_from (fun i x hx => HC.out w2 HB2.out j i x hx)
            clear own1 own1a grow2 HB1 HB1a
            go_wp2_with (at_builtin; refine wpList_append_own _ rfl _ _ 29 rfl base 3 i0 (.int .i64 0) 1 8 Tryd.underlying29 hi hz0 hz1 hz2 rfl (by decide) _ _ _ rfl own2 ⟨g, j, none⟩ (l.length - j) (cap - j) ((l.drop j).map (Value.int .i64)) rfl (by rw [List.length_map, List.length_drop]; omega) cells3 (ints_one _) (by unfold maxLen; omega) (by omega) (by have := HB2.out.size; omega) ?_)
            intro v3 w3 own3 grow3 _
            have HB3 : Hid (Below w.heap.size w w3) := below_app HB2.out HB2.out.size (by omega) own2 grow3
            have HO : Hid (OwnInts w3 base v3 (putL l n)) := by
              show w3.ownsRow base 3 1 v3 (putL l n).length ((putL l n).map (Value.int .i64))
              rw [HR.out]
              have e1 : (l.take j ++ n :: l.drop j).length = 0 + j + 1 + (l.length - j) := by
                simp
                omega
              rw [e1]
              have e2 : (l.take j ++ n :: l.drop j).map (Value.int .i64) = [] ++ (l.take j).map (Value.int .i64) ++ [.int .i64 n] ++ (l.drop j).map (Value.int .i64) := by
                simp
              rw [e2]
              first | exact own3 | simpa using own3
            clear own2 own3 grow3 cells3 HC HR HB2
            go_wp2_with fail
            go_ret
            exact ⟨_, rfl, Or.inr HO.out, HB3.out⟩
    · obtain rfl : j = l.length := by omega
      have HR : Hid (putL l n = l.take l.length ++ n :: l.drop l.length) := by
        show putL l n = l.take l.length ++ n :: l.drop l.length
        have HE : pos l n = l.length := pos_eq n l l.length (by omega) HP.out (fun y hy => by simp at hy)
        unfold putL
        rw [HE, if_neg (by simp)]
      clear HP hc
      by_cases hcl : cap = l.length
      · subst hcl
        have own0 := own_emptyI w base (by omega)
        have HB0 : Hid (Below w.heap.size w (w.alloc (.cells #[] 3))) := (Below.refl _ _).alloc (Nat.le_refl _) _
        have cells1 : ∀ (i : Nat) (u : Value), ((l.take l.length).map (Value.int .i64))[i]? = some u → (w.alloc (.cells #[] 3)).cell? ((⟨g, 0, none⟩ : Addr).add i) = some u := ints_from (fun i x hx => by
          have h := HC.out _ HB0.out 0 i x (by
            have hi' : i < l.length := by
              have := (List.getElem?_eq_some_iff.1 hx).1
              rw [List.length_take] at this
              omega
            rw [List.getElem?_take_of_lt hi'] at hx
            simpa using hx)
          exact h)
        go_wp2_with (at_builtin; refine wpList_append_own _ rfl _ _ 29 rfl base 3 i0 (.int .i64 0) 1 8 Tryd.underlying29 hi hz0 hz1 hz2 rfl (by decide) _ _ _ rfl own0 ⟨g, 0, none⟩ l.length l.length ((l.take l.length).map (Value.int .i64)) rfl (by rw [List.length_map, List.length_take]; omega) cells1 (ints_one _) (by unfold maxLen; omega) (by omega) (by have := HB0.out.size; omega) ?_)
        intro v1 w1 own1 grow1 _
        have HB1 : Hid (Below w.heap.size w w1) := below_app HB0.out HB0.out.size (by omega) own0 grow1
        have own1a := own1.alloc (.cells #[.int .i64 n] 3)
        have HB1a : Hid (Below w.heap.size w (w1.alloc (.cells #[.int .i64 n] 3))) := HB1.out.alloc HB1.out.size _
        clear cells1 own0 grow1 HB0
        go_wp2_with (at_builtin; refine wpList_append_own _ rfl _ _ 29 rfl base 3 i0 (.int .i64 0) 1 8 Tryd.underlying29 hi hz0 hz1 hz2 rfl (by decide) _ _ _ rfl own1a ⟨w1.heap.size, 0, none⟩ 1 1 [.int .i64 n] rfl rfl (oneI_cells w1 n) (ints_one [n]) (by unfold maxLen; omega) (by omega) (by have := HB1a.out.size; omega) ?_)
        intro v2 w2 own2 grow2 _
        have HB2 : Hid (Below w.heap.size w w2) := below_app HB1a.out HB1a.out.size (by omega) own1a grow2
        clear own1 own1a grow2 HB1 HB1a
        go_wp2_with (at_builtin; refine wpList_append_own _ rfl _ _ 29 rfl base 3 i0 (.int .i64 0) 1 8 Tryd.underlying29 hi hz0 hz1 hz2 rfl (by decide) _ _ _ rfl own2 _ 0 _ [] rfl rfl (fun i u h => by simp at h) (fun u h => by simp at h) (by unfold maxLen; omega) (by omega) (by have := HB2.out.size; omega) ?_)
        intro v3 w3 own3 grow3 _
        have HB3 : Hid (Below w.heap.size w w3) := below_app HB2.out HB2.out.size (by omega) own2 grow3
        have HO : Hid (OwnInts w3 base v3 (putL l n)) := by
          show w3.ownsRow base 3 1 v3 (putL l n).length ((putL l n).map (Value.int .i64))
          rw [HR.out]
          have e1 : (l.take l.length ++ n :: l.drop l.length).length = 0 + l.length + 1 + 0 := by
            simp
          rw [e1]
          have e2 : (l.take l.length ++ n :: l.drop l.length).map (Value.int .i64) = [] ++ (l.take l.length).map (Value.int .i64) ++ [.int .i64 n] ++ [] := by
            simp
          rw [e2]
          first | exact own3 | simpa using own3
        clear own2 own3 grow3 HC HR HB2
        go_wp2_with fail
        go_ret
        exact ⟨_, rfl, Or.inr HO.out, HB3.out⟩
      · have hcl2 : l.length < cap := by omega
        clear hcl
        have own0 := own_emptyI w base (by omega)
        have HB0 : Hid (Below w.heap.size w (w.alloc (.cells #[] 3))) := (Below.refl _ _).alloc (Nat.le_refl _) _
        have cells1 : ∀ (i : Nat) (u : Value), ((l.take l.length).map (Value.int .i64))[i]? = some u → (w.alloc (.cells #[] 3)).cell? ((⟨g, 0, none⟩ : Addr).add i) = some u := ints_from (fun i x hx => by
          have h := HC.out _ HB0.out 0 i x (by
            have hi' : i < l.length := by
              have := (List.getElem?_eq_some_iff.1 hx).1
              rw [List.length_take] at this
              omega
            rw [List.getElem?_take_of_lt hi'] at hx
            simpa using hx)
          exact h)
        go_wp2_with (at_builtin; refine wpList_append_own _ rfl _ _ 29 rfl base 3 i0 (.int .i64 0) 1 8 Tryd.underlying29 hi hz0 hz1 hz2 rfl (by decide) _ _ _ rfl own0 ⟨g, 0, none⟩ l.length cap ((l.take l.length).map (Value.int .i64)) rfl (by rw [List.length_map, List.length_take]; omega) cells1 (ints_one _) (by unfold maxLen; omega) (by omega) (by have := HB0.out.size; omega) ?_)
        intro v1 w1 own1 grow1 _
        have HB1 : Hid (Below w.heap.size w w1) := below_app HB0.out HB0.out.size (by omega) own0 grow1
        have own1a := own1.alloc (.cells #[.int .i64 n] 3)
        have HB1a : Hid (Below w.heap.size w (w1.alloc (.cells #[.int .i64 n] 3))) := HB1.out.alloc HB1.out.size _
        clear cells1 own0 grow1 HB0
        go_wp2_with (at_builtin; refine wpList_append_own _ rfl _ _ 29 rfl base 3 i0 (.int .i64 0) 1 8 Tryd.underlying29 hi hz0 hz1 hz2 rfl (by decide) _ _ _ rfl own1a ⟨w1.heap.size, 0, none⟩ 1 1 [.int .i64 n] rfl rfl (oneI_cells w1 n) (ints_one [n]) (by unfold maxLen; omega) (by omega) (by have := HB1a.out.size; omega) ?_)
        intro v2 w2 own2 grow2 _
        have HB2 : Hid (Below w.heap.size w w2) := below_app HB1a.out HB1a.out.size (by omega) own1a grow2
        clear own1 own1a grow2 HB1 HB1a
        go_wp2_with (at_builtin; refine wpList_append_own _ rfl _ _ 29 rfl base 3 i0 (.int .i64 0) 1 8 Tryd.underlying29 hi hz0 hz1 hz2 rfl (by decide) _ _ _ rfl own2 _ 0 _ [] rfl rfl (fun i u h => by simp at h) (fun u h => by simp at h) (by unfold maxLen; omega) (by omega) (by have := HB2.out.size; omega) ?_)
        intro v3 w3 own3 grow3 _
        have HB3 : Hid (Below w.heap.size w w3) := below_app HB2.out HB2.out.size (by omega) own2 grow3
        have HO : Hid (OwnInts w3 base v3 (putL l n)) := by
          show w3.ownsRow base 3 1 v3 (putL l n).length ((putL l n).map (Value.int .i64))
          rw [HR.out]
          have e1 : (l.take l.length ++ n :: l.drop l.length).length = 0 + l.length + 1 + 0 := by
            simp
          rw [e1]
          have e2 : (l.take l.length ++ n :: l.drop l.length).map (Value.int .i64) = [] ++ (l.take l.length).map (Value.int .i64) ++ [.int .i64 n] ++ [] := by
            simp
          rw [e2]
          first | exact own3 | simpa using own3
        clear own2 own3 grow3 HC HR HB2
        go_wp2_with fail
        go_ret
        exact ⟨_, rfl, Or.inr HO.out, HB3.out⟩
end Go.Proofs.YtmhpnkfibecnmaaDoor
