/-
  How long a token is: contract.
-/
import Derived.Test.YtkfplichekebdaaGreatDoorSign
import Derived.Test.YtkfplichekebdaaGreatDoorTextB
import Derived.Deep.QuietTactic
import Derived.BigQuiet
namespace Go.Proofs.YtkfplichekebdaaGreatDoor
open Go Go.RowKit
open M
set_option linter.unusedVariables false

theorem takeWhile_stop {p : UInt8 → Bool} : ∀ {s : Tx} {j : Nat}, (s.take j).all p = true → j ≤ s.length → (j = s.length ∨ ∃ c, s[j]? = some c ∧ p c = false) → (s.takeWhile p).length = j
  | [], j, _, hj, _ => by simp at hj; simp [hj]
  | c :: r, 0, _, _, h => by
    rcases h with h | ⟨d, hd, hp⟩
    · simp at h
    · simp at hd
      subst hd
      simp [List.takeWhile, hp]
  | c :: r, j + 1, ha, hj, h => by
    simp only [List.take_succ_cons, List.all_cons, Bool.and_eq_true] at ha
    have ih := takeWhile_stop (p := p) (s := r) (j := j) ha.2 (by simpa using hj) (by
      rcases h with h | ⟨d, hd, hp⟩
      · exact Or.inl (by simpa using h)
      · exact Or.inr ⟨d, by simpa using hd, hp⟩)
    simp [List.takeWhile, ha.1, ih]
theorem below_drewN {B : Nat} {a w : World} (h : Below B a w) (q : Nat) : Below B a (w.drewN q) := ⟨h.os, h.tape, h.output, h.size, h.block⟩
theorem tx_take (s : Tx) (n : Nat) : (ByteArray.mk s.toArray).extract 0 n = ⟨(s.take n).toArray⟩ := by
  apply ByteArray.ext
  rw [ByteArray.data_extract]
  simp
set_option maxRecDepth 100000 in
set_option maxHeartbeats 2000000 in
theorem l3Long_cons (s : Tx) (h0 : 0 < s.length) (hl : s.length ≤ 800) (w : World) : Calls Tryz.prog 52 #[tx s] w fun e w' => e = .returned (.int .i64 (longL s : Int)) ∧ Below w.heap.size w w' := by
  have HD : Hid (0 < (s.takeWhile isDig).length → longL s = (s.takeWhile isDig).length) := by
    intro h
    unfold longL
    rw [if_pos h]
  have HL : Hid ((s.takeWhile isDig).length = 0 → 0 < (s.takeWhile isLet).length → longL s = (s.takeWhile isLet).length) := by
    intro h h2
    unfold longL
    rw [if_neg (by omega), if_pos h2]
  have HS : Hid ((s.takeWhile isDig).length = 0 → (s.takeWhile isLet).length = 0 → longL s = if 2 ≤ s.length ∧ isSign (s.take 2) = true then 2 else if 1 ≤ s.length ∧ (s.take 1 = [40] ∨ s.take 1 = [41] ∨ isSign (s.take 1) = true) then 1 else 0) := by
    intro h h2
    unfold longL
    rw [if_neg (by omega), if_neg (by omega)]
  generalize longL s = R at *
  have GD : Hid (∀ (c : UInt8) (w1 : World), _) := fun c w1 => l3Digit_any c w1
  have GL : Hid (∀ (c : UInt8) (w1 : World), _) := fun c w1 => l3Letter_any c w1
  go_enter Tryz.func52, Tryz.ntmps52
  go_wp2_with fail
  go_loop [3] (fun v => ∃ j : Nat, j ≤ s.length ∧ v = .int .i64 j ∧ Hid ((s.take j).all isDig = true)) (fun v => s.length - (intOf v).toNat)
  case atStart => exact ⟨0, by omega, rfl, rfl⟩
  case round =>
    obtain ⟨j, hj, rfl, HA⟩ := hrel
    by_cases hgo : ∃ c, s[j]? = some c ∧ isDig c = true
    · obtain ⟨c, hcj, hd⟩ := hgo
      have hlt' : j < s.length := (List.getElem?_eq_some_iff.1 hcj).1
      have he := tx_at hcj (by rw [tx_size]; exact hlt')
      have g := GD.out c w
      rw [hd] at g
      have HA2 : Hid ((s.take (j + 1)).all isDig = true) := by
        show (s.take (j + 1)).all isDig = true
        rw [take_snoc hcj, List.all_append, HA.out]
        simp [hd]
      clear hcj hd
      go_wp2_with fail
      refine g.mono ?_
      rintro e w' ⟨rfl, rfl⟩
      clear g
      go_wp2_with fail
      go_round
      case rel => exact ⟨j + 1, by omega, by go_num, HA2⟩
      case measure => simp [intOf]; omega
    · have HJ : Hid ((s.takeWhile isDig).length = j) := takeWhile_stop HA.out hj (by
        by_cases h : j = s.length
        · exact Or.inl h
        · refine Or.inr ⟨s[j]'(by omega), List.getElem?_eq_getElem _, ?_⟩
          cases hd : isDig (s[j]'(by omega)) with
          | false => rfl
          | true => exact absurd ⟨_, List.getElem?_eq_getElem _, hd⟩ hgo)
      have HN : Hid (∀ c, s[j]? = some c → isDig c = false) := fun c hc => by
        cases hd : isDig c with
        | false => rfl
        | true => exact absurd ⟨c, hc, hd⟩ hgo
      clear hgo
      by_cases hjp : 0 < j
      · have hR : R = j := by
          have h1 := HJ.out
          have h2 := HD.out (by omega)
          omega
        subst hR
        have hjp2 : (0 : Int) < (R : Int) := by omega
        by_cases hlt' : R < s.length
        · obtain ⟨c, hcj⟩ : ∃ c, s[R]? = some c := ⟨s[R], List.getElem?_eq_getElem hlt'⟩
          have he := tx_at hcj (by rw [tx_size]; exact hlt')
          have g := GD.out c w
          rw [HN.out c hcj] at g
          clear hcj
          go_wp2_with fail
          refine g.mono ?_
          rintro e w' ⟨rfl, rfl⟩
          clear g
          go_wp2_with fail
          go_ret
          exact ⟨rfl, Below.refl _ _⟩
        · have hlt2 : (s.length : Int) ≤ (R : Int) := by omega
          go_wp2_with fail
          go_ret
          exact ⟨rfl, Below.refl _ _⟩
      · obtain rfl : j = 0 := by omega
        obtain ⟨c, hcj⟩ : ∃ c, s[0]? = some c := ⟨s[0], List.getElem?_eq_getElem h0⟩
        have he := tx_at hcj (by rw [tx_size]; exact h0)
        have g := GD.out c w
        rw [HN.out c hcj] at g
        go_wp2_with fail
        refine g.mono ?_
        rintro e w' ⟨rfl, rfl⟩
        clear g he
        go_wp2_with fail
        go_loop [3] (fun v => ∃ j : Nat, j ≤ s.length ∧ v = .int .i64 j ∧ Hid ((s.take j).all isLet = true)) (fun v => s.length - (intOf v).toNat)
        case atStart => exact ⟨0, by omega, rfl, rfl⟩
        case round =>
          obtain ⟨j, hj, rfl, HB⟩ := hrel
          by_cases hgo : ∃ c, s[j]? = some c ∧ isLet c = true
          · obtain ⟨d, hdj, hd⟩ := hgo
            have hlt' : j < s.length := (List.getElem?_eq_some_iff.1 hdj).1
            have he := tx_at hdj (by rw [tx_size]; exact hlt')
            have g := GL.out d w'
            rw [hd] at g
            have HA2 : Hid ((s.take (j + 1)).all isLet = true) := by
              show (s.take (j + 1)).all isLet = true
              rw [take_snoc hdj, List.all_append, HB.out]
              simp [hd]
            clear hdj hd hcj
            go_wp2_with fail
            refine g.mono ?_
            rintro e w2 ⟨rfl, rfl⟩
            clear g
            go_wp2_with fail
            go_round
            case rel => exact ⟨j + 1, by omega, by go_num, HA2⟩
            case measure => simp [intOf]; omega
          · have HK : Hid ((s.takeWhile isLet).length = j) := takeWhile_stop HB.out hj (by
              by_cases h : j = s.length
              · exact Or.inl h
              · refine Or.inr ⟨s[j]'(by omega), List.getElem?_eq_getElem _, ?_⟩
                cases hd : isLet (s[j]'(by omega)) with
                | false => rfl
                | true => exact absurd ⟨_, List.getElem?_eq_getElem _, hd⟩ hgo)
            have HM : Hid (∀ c, s[j]? = some c → isLet c = false) := fun c hc => by
              cases hd : isLet c with
              | false => rfl
              | true => exact absurd ⟨c, hc, hd⟩ hgo
            clear hgo
            by_cases hjp : 0 < j
            · have hR : R = j := by
                have h1 := HK.out
                have h2 := HL.out HJ.out (by omega)
                omega
              subst hR
              have hjp2 : (0 : Int) < (R : Int) := by omega
              clear hcj
              by_cases hlt' : R < s.length
              · obtain ⟨d, hdj⟩ : ∃ c, s[R]? = some c := ⟨s[R], List.getElem?_eq_getElem hlt'⟩
                have he := tx_at hdj (by rw [tx_size]; exact hlt')
                have g := GL.out d w'
                rw [HM.out d hdj] at g
                clear hdj
                go_wp2_with fail
                refine g.mono ?_
                rintro e w2 ⟨rfl, rfl⟩
                clear g
                go_wp2_with fail
                go_ret
                exact ⟨rfl, Below.refl _ _⟩
              · have hlt2 : (s.length : Int) ≤ (R : Int) := by omega
                go_wp2_with fail
                go_ret
                exact ⟨rfl, Below.refl _ _⟩
            · obtain rfl : j = 0 := by omega
              have he := tx_at hcj (by rw [tx_size]; exact h0)
              have g := GL.out c w'
              rw [HM.out c hcj] at g
              have hS := HS.out HJ.out HK.out
              have HS2 : Hid _ := hS
              have HC : Hid (s.take 1 = [c]) := take_snoc (j := 0) hcj
              clear hS hcj
              go_wp2_with fail
              refine g.mono ?_
              rintro e w2 ⟨rfl, rfl⟩
              clear g
              go_wp2_with fail
              have hx2 : 2 ≤ s.length → (ByteArray.mk s.toArray).extract 0 2 = ⟨(s.take 2).toArray⟩ := fun _ => tx_take s 2
              have hx1 : (ByteArray.mk s.toArray).extract 0 1 = ⟨(s.take 1).toArray⟩ := tx_take s 1
              have HX2 : Hid _ := hx2
              clear hx2
              go_loopw [39] (fun v wr => ∃ (i : Int) (m : Nat), v = .int .i64 i ∧ wr = (w2.alloc (.cells #[.int .i64 2, .int .i64 1] 3)).drewN m ∧ (i = 0 ∨ (i = 1 ∧ ¬ (2 ≤ s.length ∧ isSign (s.take 2) = true)) ∨ (i = 2 ∧ ¬ (2 ≤ s.length ∧ isSign (s.take 2) = true) ∧ ¬ (s.take 1 = [40] ∨ s.take 1 = [41] ∨ isSign (s.take 1) = true)))) (fun v _ => 2 - (intOf v).toNat)
              case atStart => exact ⟨0, 0, rfl, rfl, Or.inl rfl⟩
              case round =>
                obtain ⟨i, mo, rfl, rfl, hi⟩ := hrel
                rcases hi with rfl | ⟨rfl, hA⟩ | ⟨rfl, hA, hB⟩
                · by_cases h2 : 2 ≤ s.length
                  · have h2' : (2 : Int) ≤ s.length := by omega
                    have h2d : decide ((s.length : Int) < 2) = false := decide_eq_false (by omega)
                    have hx2 := HX2.out h2
                    go_wp2_with fail
                    go_loopw [6] (fun v wr => ∃ (k m : Nat), (3 ≤ k ∧ k ≤ 20) ∧ v = .int .i64 k ∧ wr = (w2.alloc (.cells #[.int .i64 2, .int .i64 1] 3)).drewN m ∧ Hid (∀ i, 3 ≤ i → i < k → signN i ≠ s.take 2)) (fun v _ => 20 - (intOf v).toNat)
                    case atStart => exact ⟨3, _, by omega, rfl, rfl, fun i h1 h2 => by omega⟩
                    case round =>
                      obtain ⟨k, mw, hk, rfl, rfl, HQ⟩ := hrel
                      by_cases hk19 : k ≤ 19
                      · have g := fun w1 : World => l3Sign_nat k hk.1 hk19 w1
                        by_cases hq : signN k = s.take 2
                        · rw [hq] at g
                          have hR : R = 2 := by rw [HS2.out, if_pos ⟨h2, isSign_iff.2 ⟨k, by omega, by omega, hq⟩⟩]
                          subst hR
                          have hkk : (k : Int) ≤ 19 := by omega
                          clear hq
                          have G : Hid _ := g
                          clear g
                          go_wp2_with fail
                          go_region_with (go_at_call 60; refine (G.out _).mono ?_; rintro e w3 ⟨rfl, rfl⟩)
                          all_goals
                            go_wp2_with fail
                            go_ret
                            exact ⟨rfl, below_drewN ((Below.refl _ _).alloc (Nat.le_refl _) _) _⟩
                        · have HQ2 : Hid (∀ i, 3 ≤ i → i < k + 1 → signN i ≠ s.take 2) := fun i h1 h2 => by
                            by_cases e : i = k
                            · subst e; exact hq
                            · exact HQ.out i h1 (by omega)
                          have hq2 : (signN k == s.take 2) = false := beq_eq_false_iff_ne.2 hq
                          clear hq
                          generalize signN k = sk at *
                          have hkk : (k : Int) ≤ 19 := by omega
                          have G : Hid _ := g
                          clear g
                          go_wp2_with fail
                          go_region_with (go_at_call 60; refine (G.out _).mono ?_; rintro e w3 ⟨rfl, rfl⟩)
                          all_goals
                            go_wp2_with fail
                            go_roundw
                            case rel => exact ⟨k + 1, _, by omega, by go_num, rfl, HQ2⟩
                            case measure => simp [intOf]; omega
                      · obtain rfl : k = 20 := by omega
                        have HNS : Hid (isSign (s.take 2) = false) := by
                          show isSign (s.take 2) = false
                          cases e : isSign (s.take 2) with
                          | false => rfl
                          | true =>
                            obtain ⟨i, h1, h2, h3⟩ := isSign_iff.1 e
                            exact absurd h3 (HQ.out i h1 (by omega))
                        go_wp2_with fail
                        go_roundw
                        case rel => exact ⟨1, _, by go_num, rfl, Or.inr (Or.inl ⟨rfl, fun h => by have h1 := HNS.out; rw [h.2] at h1; cases h1⟩)⟩
                        case measure => simp [intOf]
                  · have h2' : (s.length : Int) < 2 := by omega
                    go_wp2_with fail
                    go_roundw
                    case rel => exact ⟨1, _, by go_num, rfl, Or.inr (Or.inl ⟨rfl, fun h => h2 h.1⟩)⟩
                    case measure => simp [intOf]
                · have h1' : (1 : Int) ≤ s.length := by omega
                  have h1d : decide ((s.length : Int) < 1) = false := decide_eq_false (by omega)
                  have HA1 : Hid _ := hA
                  clear hA
                  by_cases hp : c = 40
                  · have hR : R = 1 := by rw [HS2.out, if_neg HA1.out, if_pos ⟨by omega, Or.inl (by rw [HC.out, hp])⟩]
                    subst hR hp
                    go_wp2_with fail
                    go_ret
                    exact ⟨rfl, below_drewN ((Below.refl _ _).alloc (Nat.le_refl _) _) _⟩
                  · by_cases hp2 : c = 41
                    · have hR : R = 1 := by rw [HS2.out, if_neg HA1.out, if_pos ⟨by omega, Or.inr (Or.inl (by rw [HC.out, hp2]))⟩]
                      subst hR hp2
                      go_wp2_with fail
                      go_ret
                      exact ⟨rfl, below_drewN ((Below.refl _ _).alloc (Nat.le_refl _) _) _⟩
                    · have n40 : ¬ (c.toNat : Int) = 40 := fun h => hp (byte_of (n := 40) (by omega))
                      have n41 : ¬ (c.toNat : Int) = 41 := fun h => hp2 (byte_of (n := 41) (by omega))
                      have d40 : ((c.toNat : Int) == 40) = false := beq_eq_false_iff_ne.2 n40
                      have d41 : ((c.toNat : Int) == 41) = false := beq_eq_false_iff_ne.2 n41
                      go_wp2_with fail
                      go_loopw [6] (fun v wr => ∃ (k m : Nat), (3 ≤ k ∧ k ≤ 20) ∧ v = .int .i64 k ∧ wr = (w2.alloc (.cells #[.int .i64 2, .int .i64 1] 3)).drewN m ∧ Hid (∀ i, 3 ≤ i → i < k → signN i ≠ s.take 1)) (fun v _ => 20 - (intOf v).toNat)
                      case atStart => exact ⟨3, _, by omega, rfl, rfl, fun i h1 h2 => by omega⟩
                      case round =>
                        obtain ⟨k, mw, hk, rfl, rfl, HQ⟩ := hrel
                        by_cases hk19 : k ≤ 19
                        · have g := fun w1 : World => l3Sign_nat k hk.1 hk19 w1
                          by_cases hq : signN k = s.take 1
                          · rw [hq] at g
                            have hR : R = 1 := by rw [HS2.out, if_neg HA1.out, if_pos ⟨by omega, Or.inr (Or.inr (isSign_iff.2 ⟨k, by omega, by omega, hq⟩))⟩]
                            subst hR
                            have hkk : (k : Int) ≤ 19 := by omega
                            clear hq
                            have G : Hid _ := g
                            clear g
                            go_wp2_with fail
                            go_region_with (go_at_call 60; refine (G.out _).mono ?_; rintro e w3 ⟨rfl, rfl⟩)
                            all_goals
                              go_wp2_with fail
                              go_ret
                              exact ⟨rfl, below_drewN ((Below.refl _ _).alloc (Nat.le_refl _) _) _⟩
                          · have HQ2 : Hid (∀ i, 3 ≤ i → i < k + 1 → signN i ≠ s.take 1) := fun i h1 h2 => by
                              by_cases e : i = k
                              · subst e; exact hq
                              · exact HQ.out i h1 (by omega)
                            have hq2 : (signN k == s.take 1) = false := beq_eq_false_iff_ne.2 hq
                            clear hq
                            generalize signN k = sk at *
                            have hkk : (k : Int) ≤ 19 := by omega
                            have G : Hid _ := g
                            clear g
                            go_wp2_with fail
                            go_region_with (go_at_call 60; refine (G.out _).mono ?_; rintro e w3 ⟨rfl, rfl⟩)
                            all_goals
                              go_wp2_with fail
                              go_roundw
                              case rel => exact ⟨k + 1, _, by omega, by go_num, rfl, HQ2⟩
                              case measure => simp [intOf]; omega
                        · obtain rfl : k = 20 := by omega
                          have HNS : Hid (isSign (s.take 1) = false) := by
                            show isSign (s.take 1) = false
                            cases e : isSign (s.take 1) with
                            | false => rfl
                            | true =>
                              obtain ⟨i, h1, h2, h3⟩ := isSign_iff.1 e
                              exact absurd h3 (HQ.out i h1 (by omega))
                          go_wp2_with fail
                          go_roundw
                          case rel => exact ⟨2, _, by go_num, rfl, Or.inr (Or.inr ⟨rfl, HA1.out, fun h => by
                                rcases h with h | h | h
                                · rw [HC.out] at h; exact hp (List.cons.inj h).1
                                · rw [HC.out] at h; exact hp2 (List.cons.inj h).1
                                · have h1 := HNS.out; rw [h] at h1; cases h1⟩)⟩
                          case measure => simp [intOf]
                · have hR : R = 0 := by rw [HS2.out, if_neg hA, if_neg (fun h => hB h.2)]
                  subst hR
                  clear hA hB
                  go_wp2_with fail
                  go_ret
                  exact ⟨rfl, below_drewN ((Below.refl _ _).alloc (Nat.le_refl _) _) _⟩
theorem l3Long_nil (w : World) : Calls Tryz.prog 52 #[tx []] w fun e w' => e = .returned (.int .i64 0) ∧ Below w.heap.size w w' := by
  go_enter Tryz.func52, Tryz.ntmps52
  go_wp2_with fail
  go_loop [3] (fun v => v = .int .i64 0) (fun _ => 0)
  case atStart => rfl
  case round =>
    obtain rfl := hrel
    go_wp2_with fail
    go_loop [3] (fun v => v = .int .i64 0) (fun _ => 0)
    case atStart => rfl
    case round =>
      obtain rfl := hrel
      go_wp2_with fail
      go_loop [39] (fun v => ∃ i : Int, v = .int .i64 i ∧ (i = 0 ∨ i = 1 ∨ i = 2)) (fun v => 2 - (intOf v).toNat)
      case atStart => exact ⟨0, rfl, Or.inl rfl⟩
      case round =>
        obtain ⟨i, rfl, hi⟩ := hrel
        rcases hi with rfl | rfl | rfl
        · go_wp2_with fail
          go_round
          case rel => exact ⟨1, by go_num, Or.inr (Or.inl rfl)⟩
          case measure => simp [intOf]
        · go_wp2_with fail
          go_round
          case rel => exact ⟨2, by go_num, Or.inr (Or.inr rfl)⟩
          case measure => simp [intOf]
        · go_wp2_with fail
          go_ret
          exact ⟨rfl, (Below.refl _ _).alloc (Nat.le_refl _) _⟩
theorem l3Long_any (s : Tx) (hl : s.length ≤ 800) (w : World) : Calls Tryz.prog 52 #[tx s] w fun e w' => e = .returned (.int .i64 (longL s : Int)) ∧ Below w.heap.size w w' := by
  match s, hl with
  | [], _ => exact l3Long_nil w
  | c :: r, hl => exact l3Long_cons (c :: r) (by simp) hl w
end Go.Proofs.YtkfplichekebdaaGreatDoor
