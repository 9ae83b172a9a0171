/-
  The depth of a term: the model's l3Depth and DepthOf.
-/
import Derived.Test.YtkfplichekebdaaDoorFrom
import Derived.Test.YtkfplichekebdaaDoorText
namespace Go.Proofs.YtkfplichekebdaaDoor
open Go Go.RowKit
open M
set_option linter.unusedVariables false

theorem treeT_len {wide vars : Int} {t : List Nd} {k : Nat} {e : Ent Tr} (h : TreeAt wide vars Tr.leaf Tr.one Tr.two t k e) : e.val.size ≤ t.length := by
  obtain ⟨r, hr⟩ := h
  have h2 := congrArg List.length (pileT_ok _ _ hr).2
  rw [List.length_flatMap, List.map_reverse, List.sum_reverse, List.map_cons, List.sum_cons, Tr.flat_len, List.length_take] at h2
  omega
theorem treeT_depth {wide vars : Int} {t : List Nd} {k : Nat} {e : Ent Tr} (h : TreeAt wide vars Tr.leaf Tr.one Tr.two t k e) : trDepth e.val ≤ t.length := Nat.le_trans (trDepth_le _) (treeT_len h)
set_option maxRecDepth 100000 in
set_option maxHeartbeats 1000000 in
theorem l3Depth_step {wide vars : Int} (b off cap : Nat) (t : List Nd) (hl : t.length ≤ 1048576) (w : World) (hc : Cells w b off t) (k : Nat) (e0 : Ent Tr) (ht : TreeAt wide vars Tr.leaf Tr.one Tr.two t k e0)
    (ih : ∀ (i : Int) (e1 : Ent Tr), 0 ≤ i → i < k → TreeAt wide vars Tr.leaf Tr.one Tr.two t i.toNat e1 →
      Calls Tryd.prog 51 #[.slice (some ⟨b, off, none⟩) t.length cap, .int .i64 i] w fun e w' => e = .returned (.int .i64 (trDepth e1.val : Int)) ∧ w' = w) :
    Calls Tryd.prog 51 #[.slice (some ⟨b, off, none⟩) t.length cap, .int .i64 k] w fun e w' => e = .returned (.int .i64 (trDepth e0.val : Int)) ∧ w' = w := by
  obtain ⟨⟨op, n⟩, hx, n1, n2, hcase⟩ := tree_cases ht
  have hk : k < t.length := (List.getElem?_eq_some_iff.1 hx).1
  obtain ⟨c0, c1⟩ := hc k (op, n) hx
  have g := l2Need_any op w
  have HC : Hid (Cells w b off t) := hc
  simp only at hcase n1 n2 c0 c1
  clear hx n1 n2 ht hc
  rcases hcase with ⟨m0, rfl⟩ | ⟨m1, hk1, d, hd, _, hdk, rfl⟩ | ⟨m2, hk1, d, c, hd, _, hd1, hdk, hcc, _, hck, rfl⟩
  · rw [m0] at g
    clear ih
    generalize ownOf op = o at *
    generalize partOf op = q at *
    clear m0
    show Calls Tryd.prog 51 #[.slice (some ⟨b, off, none⟩) t.length cap, .int .i64 k] w fun e w' => e = .returned (.int .i64 1) ∧ w' = w
    go_enter Tryd.func51, Tryd.ntmps51
    go_wp2_with fail
    refine g.mono ?_
    rintro e w' ⟨rfl, rfl⟩
    clear g
    go_wp2_with fail
    go_ret
    exact ⟨rfl, rfl⟩
  · rw [m1] at g
    have ih1 := fun (i : Int) (h0 : 0 ≤ i) (h1 : i < k) (h2 : i.toNat = k - 1) => ih i d h0 h1 (h2 ▸ hd)
    have hdd := treeT_depth hd
    have e1 : (trDepth (Tr.one (op, n) d.val) : Int) = (trDepth d.val : Int) + 1 := rfl
    rw [e1]
    have HI : Hid _ := ih1
    clear ih ih1 m1 hd e1
    generalize trDepth d.val = da at *
    generalize ownOf op = o at *
    generalize partOf op = q at *
    go_enter Tryd.func51, Tryd.ntmps51
    go_wp2_with fail
    refine g.mono ?_
    rintro e w' ⟨rfl, rfl⟩
    clear g
    go_wp2_with fail
    refine (HI.out _ (by omega) (by omega) (by omega)).mono ?_
    rintro e w' ⟨rfl, rfl⟩
    go_wp2_with fail
    go_ret
    exact ⟨by go_num, rfl⟩
  · rw [m2] at g
    have ih1 := fun (i : Int) (h0 : 0 ≤ i) (h1 : i < k) (h2 : i.toNat = k - 1) => ih i d h0 h1 (h2 ▸ hd)
    have ih2 := fun (i : Int) (h0 : 0 ≤ i) (h1 : i < k) (h2 : i.toNat = d.at0 - 1) => ih i c h0 h1 (h2 ▸ hcc)
    have gf : Hid (∀ i : Int, i.toNat = k - 1 → 0 ≤ i → Calls Tryd.prog 67 #[.slice (some ⟨b, off, none⟩) t.length cap, .int .i64 i] w fun e w' => e = .returned (.int .i64 d.at0) ∧ w' = w) := by
      intro i hi h0
      have g := l2From_any b off cap t hl w HC.out (k - 1) (k - 1) (Nat.le_refl _) d hd
      rw [show ((k - 1 : Nat) : Int) = i from by omega] at g
      exact g
    have hdd := treeT_depth hd
    have hcd := treeT_depth hcc
    have HI : Hid _ := ih1
    have HI2 : Hid _ := ih2
    have e1 : (trDepth (Tr.two (op, n) c.val d.val) : Int) = max (trDepth c.val : Int) (trDepth d.val : Int) + 1 := by
      simp only [trDepth]
      omega
    rw [e1]
    clear ih ih1 ih2 m2 hd hcc e1
    generalize d.at0 = dz at *
    generalize trDepth d.val = da at *
    generalize trDepth c.val = ca at *
    generalize ownOf op = o at *
    generalize partOf op = q at *
    by_cases hgt : da < ca
    · rw [show max (ca : Int) (da : Int) = ca from by omega]
      go_enter Tryd.func51, Tryd.ntmps51
      go_wp2_with fail
      refine g.mono ?_
      rintro e w' ⟨rfl, rfl⟩
      clear g
      go_wp2_with fail
      refine (HI.out _ (by omega) (by omega) (by omega)).mono ?_
      rintro e w' ⟨rfl, rfl⟩
      go_wp2_with fail
      refine (gf.out _ (by omega) (by omega)).mono ?_
      rintro e w' ⟨rfl, rfl⟩
      go_wp2_with fail
      refine (HI2.out _ (by omega) (by omega) (by omega)).mono ?_
      rintro e w' ⟨rfl, rfl⟩
      go_wp2_with fail
      go_ret
      exact ⟨by go_num, rfl⟩
    · rw [show max (ca : Int) (da : Int) = da from by omega]
      go_enter Tryd.func51, Tryd.ntmps51
      go_wp2_with fail
      refine g.mono ?_
      rintro e w' ⟨rfl, rfl⟩
      clear g
      go_wp2_with fail
      refine (HI.out _ (by omega) (by omega) (by omega)).mono ?_
      rintro e w' ⟨rfl, rfl⟩
      go_wp2_with fail
      refine (gf.out _ (by omega) (by omega)).mono ?_
      rintro e w' ⟨rfl, rfl⟩
      go_wp2_with fail
      refine (HI2.out _ (by omega) (by omega) (by omega)).mono ?_
      rintro e w' ⟨rfl, rfl⟩
      go_wp2_with fail
      go_ret
      exact ⟨by go_num, rfl⟩
theorem l3Depth_any {wide vars : Int} (b off cap : Nat) (t : List Nd) (hl : t.length ≤ 1048576) (w : World) (hc : Cells w b off t) : ∀ (n k : Nat), k ≤ n → ∀ (e0 : Ent Tr), TreeAt wide vars Tr.leaf Tr.one Tr.two t k e0 →
    Calls Tryd.prog 51 #[.slice (some ⟨b, off, none⟩) t.length cap, .int .i64 k] w fun e w' => e = .returned (.int .i64 (trDepth e0.val : Int)) ∧ w' = w
  | 0, k, hk, e0, ht => l3Depth_step b off cap t hl w hc k e0 ht (fun i e1 h0 h1 _ => by omega)
  | n + 1, k, hk, e0, ht => l3Depth_step b off cap t hl w hc k e0 ht (fun i e1 h0 h1 h2 => by
    have g := l3Depth_any b off cap t hl w hc n i.toNat (by omega) e1 h2
    rw [Int.toNat_of_nonneg h0] at g
    exact g)
/-- the depth of a good term, 0 of another one -/
def depthL (wide vars : Int) (t : List Nd) : Int :=
  if 0 < kindL wide vars t then
    match pileT wide vars t t.length with
    | some [e] => (trDepth e.val : Int)
    | _ => 0
  else 0
theorem depthL_yes {wide vars : Int} {t : List Nd} {r : Tr} (hk : 0 < kindL wide vars t) (hr : pileT wide vars t t.length = some [⟨0, r.kind, r⟩]) : depthL wide vars t = trDepth r := by
  unfold depthL
  rw [if_pos hk, hr]
theorem depthL_no {wide vars : Int} {t : List Nd} (hk : ¬ 0 < kindL wide vars t) : depthL wide vars t = 0 := by
  unfold depthL
  rw [if_neg hk]
set_option maxRecDepth 100000 in
theorem depthOf_any (wide vars : Int) (v : Value) (t : List Nd) (w : World) (h : NodesAt w v t) :
    Calls Tryd.prog 27 #[.int .i64 wide, .int .i64 vars, v] w fun e w' => e = .returned (.tuple #[.int .i64 (depthL wide vars t), .bool (decide (0 < kindL wide vars t))]) ∧ Below w.heap.size w w' := by
  have gg := goodTerm_any wide vars v t w h
  by_cases hk : 0 < kindL wide vars t
  · obtain ⟨_, _, _, h4, h5, r, hr, _⟩ := root_tree hk
    rw [depthL_yes hk hr, decide_eq_true hk]
    rw [decide_eq_true hk] at gg
    obtain ⟨hok, hlen, hN⟩ := h
    rcases hN with ⟨rfl, _⟩ | ⟨b, off, cap, rfl, hlt, hc⟩
    · simp at h4
    have GD : Hid (∀ (i : Int) (w1 : World), i.toNat = t.length - 1 → 0 ≤ i → Below w.heap.size w w1 → Calls Tryd.prog 51 #[.slice (some ⟨b, off, none⟩) t.length cap, .int .i64 i] w1 fun e w' => e = .returned (.int .i64 (trDepth r : Int)) ∧ w' = w1) := by
      intro i w1 hi h0 hb
      have hc1 : Cells w1 b off t := by
        intro i x hx
        rw [hb.cell (p := ⟨b, off + i * 2, none⟩) hlt, hb.cell (p := ⟨b, off + i * 2 + 1, none⟩) hlt]
        exact hc i x hx
      have g := l3Depth_any (wide := wide) (vars := vars) b off cap t (by omega) w1 hc1 (t.length - 1) (t.length - 1) (Nat.le_refl _) ⟨0, r.kind, r⟩ ⟨[], by rw [show t.length - 1 + 1 = t.length from by omega]; exact hr⟩
      rw [show ((t.length - 1 : Nat) : Int) = i from by omega] at g
      exact g
    clear hr hk hc hok
    generalize trDepth r = D at *
    go_enter Tryd.func27, Tryd.ntmps27
    go_wp2_with fail
    refine gg.mono ?_
    rintro e w1 ⟨rfl, hb⟩
    have HB : Hid _ := hb
    clear gg hb
    go_wp2_with fail
    refine (GD.out _ _ (by omega) (by omega) HB.out).mono ?_
    rintro e w2 ⟨rfl, rfl⟩
    go_wp2_with fail
    go_ret2
    exact ⟨rfl, HB.out⟩
  · rw [depthL_no hk, decide_eq_false hk]
    rw [decide_eq_false hk] at gg
    clear hk h
    go_enter Tryd.func27, Tryd.ntmps27
    go_wp2_with fail
    refine gg.mono ?_
    rintro e w1 ⟨rfl, hb⟩
    have HB : Hid _ := hb
    clear gg hb
    go_wp2_with fail
    go_ret2
    exact ⟨rfl, HB.out⟩
end Go.Proofs.YtkfplichekebdaaDoor
