/-
  The program's leastRound and leastTurn.
-/
import Derived.Test.YthamdefkcjfjpaaIBetw
import Derived.Test.YthamdefkcjfjpaaEqu9
import Derived.Lib.QuietBelow
import Derived.BigQuiet
namespace Go.Proofs.Ythamdefkcjfjpaa
open Go Go.RowKit
open Go.Sort
open M
set_option linter.unusedVariables false
set_option linter.unusedSimpArgs false

/-- the slice of a list from a place on, and up to a place -/
theorem ints_cutfrom {w : World} {b off cap r : Nat} {t : List Int} (hr : r ≤ t.length) (h : IntsAt w (.slice (some ⟨b, off, none⟩) t.length cap) t) :
    IntsAt w (.slice (if cap = r then some (⟨b, off, none⟩ : Addr) else some ⟨b, off + r, none⟩) (t.length - r) (cap - r)) (t.drop r) ∨ cap = r ∧ r < t.length := by
  by_cases e : cap = r
  · by_cases e2 : r = t.length
    · refine Or.inl ⟨by rw [List.length_drop]; have := h.1; omega, Or.inl ⟨List.length_eq_zero_iff.1 (by rw [List.length_drop]; omega), _, _, by rw [e2, Nat.sub_self]⟩⟩
    · exact Or.inr ⟨e, by omega⟩
  · rw [if_neg e]
    refine Or.inl ⟨by rw [List.length_drop]; have := h.1; omega, ?_⟩
    rcases h.2 with ⟨h1, _⟩ | ⟨b', off', cap', hv, hlt, hc'⟩
    · exact Or.inl ⟨by rw [h1]; simp, _, _, by rw [show t.length - r = 0 from by rw [h1]; simp]⟩
    · injection hv with e1
      injection e1 with e1
      injection e1 with e1 e2
      subst e1 e2
      refine Or.inr ⟨b, off + r, cap - r, by rw [List.length_drop], hlt, fun i x hx => ?_⟩
      rw [List.getElem?_drop] at hx
      rw [Nat.add_assoc]
      exact hc' _ x hx
theorem ints_cutupto {w : World} {b off cap k : Nat} {t : List Int} (hk : k ≤ t.length) (h : IntsAt w (.slice (some ⟨b, off, none⟩) t.length cap) t) : IntsAt w (.slice (some ⟨b, off, none⟩) k cap) (t.take k) := by
  have hl : (t.take k).length = k := List.length_take_of_le hk
  refine ⟨by rw [hl]; have := h.1; omega, ?_⟩
  rcases h.2 with ⟨h1, _⟩ | ⟨b', off', cap', hv, hlt, hc'⟩
  · subst h1
    have : k = 0 := by simpa using hk
    subst this
    exact Or.inl ⟨rfl, _, _, rfl⟩
  · injection hv with e1
    injection e1 with e1
    injection e1 with e1 e2
    subst e1 e2
    refine Or.inr ⟨b, off, cap, by rw [hl], hlt, fun i x hx => ?_⟩
    have hi : i < k := by
      have := (List.getElem?_eq_some_iff.1 hx).1
      omega
    rw [List.getElem?_take_of_lt hi] at hx
    exact hc' i x hx
theorem isRound_def (l : La) (r : Nat) : isRound l r = (decide (l.2.length % r = 0) && decide (l.2.drop r = l.2.take (l.2.length - r))) := rfl
set_option maxRecDepth 100000 in
set_option maxHeartbeats 800000 in
theorem leastRound_any (v : Value) (l : La) (hg : goodLa l = true) (w : World) (h : AtLS w v l) :
    Calls Try.prog 49 #[v] w fun e w' => e = .returned (.int .i64 (roundL l)) ∧ Below w.heap.size w w' := by
  obtain ⟨q1, q2, q3⟩ := good_lens hg
  obtain ⟨g, o, rfl, h1, h2, _, h4⟩ := h
  obtain ⟨ga, gc, rfl⟩ := h1.shape
  obtain ⟨a', n', oc, e, _, _, hcap⟩ := h4
  rcases h2.2 with ⟨hz, _⟩ | ⟨b, off, oc', e', hlt, hcell⟩
  · rw [hz] at q2
    simp at q2
  rw [e'] at e
  injection e with e3 e4 e5
  subst e3 e4 e5 e'
  have HSUB : Hid (∀ r K : Nat, r ≤ l.2.length → l.2.length - r = K → ∀ w1 : World, Below w.heap.size w w1 → Calls Try.prog 46 #[.slice (if oc' = r then some (⟨b, off, none⟩ : Addr) else some ⟨b, off + r, none⟩) K (oc' - r), .slice (some ⟨b, off, none⟩) K oc'] w1 fun e w' => e = .returned (.bool (decide (l.2.drop r = l.2.take K))) ∧ Below w1.heap.size w1 w') := fun r K hr hK w1 hb => by
    subst hK
    have k1 : IntsAt w1 (.slice (if oc' = r then some (⟨b, off, none⟩ : Addr) else some ⟨b, off + r, none⟩) (l.2.length - r) (oc' - r)) (l.2.drop r) := by
      rcases ints_cutfrom hr (h2.below hb) with h9 | ⟨h9, h10⟩
      · exact h9
      · omega
    exact equalI_any _ _ _ _ w1 k1 (ints_cutupto (by omega) (h2.below hb))
  have HIS : Hid (∀ q : Nat, isRound l q = (decide (l.2.length % q = 0) && decide (l.2.drop q = l.2.take (l.2.length - q)))) := fun q => rfl
  have HEND : Hid (∀ r : Nat, 1 ≤ r → r ≤ l.2.length → isRound l r = true → (∀ q, 1 ≤ q → q < r → isRound l q = false) → roundL l = r) := fun r h1 h2 h3 h4 => findN_is (isRound l) (l.2.length - 1) 1 r h1 (by omega) h3 h4
  have HLAST : Hid (isRound l l.2.length = true) := isRound_len q2
  have HB0 : Hid (Below w.heap.size w (w.alloc (.cells #[.slice ga l.1.length gc, .slice (some ⟨b, off, none⟩) l.2.length oc'] 26))) := (Below.refl _ _).alloc (Nat.le_refl _) _
  have x0 := box2_alloc w 26 (.slice ga l.1.length gc) (.slice (some ⟨b, off, none⟩) l.2.length oc')
  have hw0z : (w.alloc (.cells #[.slice ga l.1.length gc, .slice (some ⟨b, off, none⟩) l.2.length oc'] 26)).heap.size = w.heap.size + 1 := World.size_alloc _ _
  have HXP : Hid (∀ w3, Below (w.heap.size + 1) (w.alloc (.cells #[.slice ga l.1.length gc, .slice (some ⟨b, off, none⟩) l.2.length oc'] 26)) w3 → Box2 w3 w.heap.size 26 (.slice ga l.1.length gc) (.slice (some ⟨b, off, none⟩) l.2.length oc')) := fun w3 hb3 => x0.below hb3 (by omega)
  have HBX0 : Hid (Below (w.heap.size + 1) (w.alloc (.cells #[.slice ga l.1.length gc, .slice (some ⟨b, off, none⟩) l.2.length oc'] 26)) (w.alloc (.cells #[.slice ga l.1.length gc, .slice (some ⟨b, off, none⟩) l.2.length oc'] 26))) := Below.refl _ _
  have HX0 : Hid _ := x0
  obtain ⟨a0, a1⟩ := x0.cells
  have ah := x0.heap
  have al := x0.lt
  generalize roundL l = RL at *
  generalize isRound l = IR at *
  generalize l.2.drop = DR at *
  generalize l.2.take = TK at *
  generalize l.1.length = gn at *
  generalize l.2.length = on at *
  clear h1 h2 hg x0 hcell
  go_enter Try.func49, Try.ntmps49
  go_wp2_with fail
  clear a0 a1 ah al
  generalize w.alloc (.cells #[.slice ga gn gc, .slice (some ⟨b, off, none⟩) on oc'] 26) = w0 at *
  go_loopw [4] (fun i wr => ∃ r : Nat, 1 ≤ r ∧ r ≤ on ∧ i = .int .i64 r ∧ Hid (∀ q, 1 ≤ q → q < r → IR q = false) ∧ Hid (Below w.heap.size w wr) ∧ Hid (Below (w.heap.size + 1) w0 wr)) (fun i _ => on - (intOf i).toNat)
  case atStart => exact ⟨1, Nat.le_refl _, q2, rfl, fun q h1 h2 => by omega, HB0, HBX0⟩
  case round =>
    obtain ⟨r, hr1, hr2, rfl, HN, HB, HBX⟩ := hrel
    clear HB0 HBX0 HX0
    have x1 := HXP.out _ HBX.out
    obtain ⟨c0, c1⟩ := x1.cells
    have k0 := cell_regrown c0
    have k1 := cell_regrown c1
    have hh : ∀ d os', (Sort.grow (redrawn wr d) os').heap[w.heap.size]? = some (.cells #[.slice ga gn gc, .slice (some ⟨b, off, none⟩) on oc'] 26 (0, 0)) := fun d os' => (x1.below (below_regrown wr d os') x1.lt).heap
    have HSZ : Hid (w.heap.size + 1 ≤ wr.heap.size) := by
      show _ ≤ _
      have := HBX.out.size
      omega
    have hmod : (on : Int).tmod (r : Int) = ((on % r : Nat) : Int) := rfl
    have hmlt := Nat.mod_lt on (show 0 < r by omega)
    have hIS := HIS.out r
    have HIR := HLAST.out
    generalize hRR : on % r = R at *
    have HRR : Hid _ := hRR
    clear hRR x1
    by_cases hR0 : R = 0
    · subst hR0
      rw [decide_eq_true rfl, Bool.true_and] at hIS
      obtain ⟨K, hK⟩ : ∃ K, on - r = K := ⟨_, rfl⟩
      have hKi : (on : Int) - (r : Int) = (K : Int) := by omega
      have hKw : IntKind.i64.wrap ((on : Int) - (r : Int)) = (K : Int) := by rw [hKi]; exact IntWalk.i64_in _ ⟨by omega, by omega⟩
      have hKw2 : IntKind.i64.wrap (K : Int) = (K : Int) := IntWalk.i64_in _ ⟨by omega, by omega⟩
      have hKon : K ≤ on := by omega
      have hKoc : K ≤ oc' := by omega
      have hroc : r ≤ oc' := by omega
      obtain ⟨asl, hasl⟩ : ∃ asl, (if oc' = r then some (⟨b, off, none⟩ : Addr) else some ⟨b, off + r, none⟩) = asl := ⟨_, rfl⟩
      have cC := HSUB.out r K hr2 hK
      rw [hasl] at cC
      rw [hK] at hIS
      rw [← hIS] at cC
      have cC2 : ∀ d os', Calls Try.prog 46 #[.slice asl K (oc' - r), .slice (some ⟨b, off, none⟩) K oc'] (Sort.grow (redrawn wr d) os') fun e w'' => e = .returned (.bool (IR r)) ∧ ∃ p : Regrown, w'' = Sort.grow (redrawn wr p.d) p.os := fun d os' => Calls.regrown_of (cC _ (HB.out.trans ((below_regrown wr d os').mono HB.out.size)))
      have HIR2 : Hid _ := hIS
      clear cC hIS HSUB HIS hmlt
      rcases Bool.eq_false_or_eq_true (IR r) with hir | hir
      · rw [hir] at cC2
        have HE : Hid (RL = r) := HEND.out r hr1 hr2 hir HN.out
        clear hir HEND HLAST HIR HN
        go_wp2_with fail
        refine wp_region_quiet_below (by kernel_rfl) (by kernel_rfl) ?_
        repeat (go_big_quiet_step (exact cC2 _ _))
        refine wpQuiet_nil ?_
        intro _ hw'
        obtain ⟨⟨dq, osq⟩, hw''⟩ := hw'
        subst hw''
        have HBQ : Hid (Below w.heap.size w (Sort.grow (redrawn wr dq) osq)) := HB.out.trans ((below_regrown wr dq osq).mono HB.out.size)
        clear HB
        go_wp2_with fail
        go_ret
        exact ⟨ret_int (by rw [HE.out]), HBQ.out⟩
      · rw [hir] at cC2
        have HN2 : Hid (∀ q, 1 ≤ q → q < r + 1 → IR q = false) := fun q h1 h2 => by
          by_cases e : q = r
          · rw [e]; exact hir
          · exact HN.out q h1 (by omega)
        have HNE : Hid (r ≠ on) := fun e => by rw [e] at hir; rw [hir] at HIR; cases HIR
        clear hir HEND HLAST HIR HN
        go_wp2_with fail
        refine wp_region_quiet_below (by kernel_rfl) (by kernel_rfl) ?_
        repeat (go_big_quiet_step (exact cC2 _ _))
        refine wpQuiet_nil ?_
        intro _ hw'
        obtain ⟨⟨dq, osq⟩, hw''⟩ := hw'
        subst hw''
        have HBQ : Hid (Below w.heap.size w (Sort.grow (redrawn wr dq) osq)) := HB.out.trans ((below_regrown wr dq osq).mono HB.out.size)
        have HBXQ : Hid (Below (w.heap.size + 1) w0 (Sort.grow (redrawn wr dq) osq)) := HBX.out.trans ((below_regrown wr dq osq).mono HSZ.out)
        clear HB HBX k0 k1 hh c0 c1
        go_wp2_with fail
        go_roundw
        case rel => exact ⟨r + 1, by omega, by have := HNE.out; omega, by go_num, HN2, HBQ, HBXQ⟩
        case measure => have := HNE.out; simp [intOf]; omega
    · have hir : IR r = false := by rw [hIS, decide_eq_false hR0, Bool.false_and]
      have HN2 : Hid (∀ q, 1 ≤ q → q < r + 1 → IR q = false) := fun q h1 h2 => by
        by_cases e : q = r
        · rw [e]; exact hir
        · exact HN.out q h1 (by omega)
      have HNE : Hid (r ≠ on) := fun e => by rw [e] at hir; rw [hir] at HIR; cases HIR
      have hR1 : ¬ ((R : Int) = 0) := by omega
      have hRd : decide ((R : Int) = 0) = false := decide_eq_false hR1
      have hRb : ((R : Int) == 0) = false := beq_eq_false_iff_ne.2 hR1
      have hRn : ((R : Int) != 0) = true := bne_iff_ne.2 hR1
      clear hir HEND HLAST HIR HN hIS HSUB HIS
      go_wp2_with fail
      refine wp_region_quiet_below (by kernel_rfl) (by kernel_rfl) ?_
      repeat (go_big_quiet_step (fail))
      refine wpQuiet_nil ?_
      intro _ hw'
      obtain ⟨⟨dq, osq⟩, hw''⟩ := hw'
      subst hw''
      have HBQ : Hid (Below w.heap.size w (Sort.grow (redrawn wr dq) osq)) := HB.out.trans ((below_regrown wr dq osq).mono HB.out.size)
      have HBXQ : Hid (Below (w.heap.size + 1) w0 (Sort.grow (redrawn wr dq) osq)) := HBX.out.trans ((below_regrown wr dq osq).mono HSZ.out)
      clear HB HBX k0 k1 hh c0 c1
      go_wp2_with fail
      go_roundw
      case rel => exact ⟨r + 1, by omega, by have := HNE.out; omega, by go_num, HN2, HBQ, HBXQ⟩
      case measure => have := HNE.out; simp [intOf]; omega
end Go.Proofs.Ythamdefkcjfjpaa
