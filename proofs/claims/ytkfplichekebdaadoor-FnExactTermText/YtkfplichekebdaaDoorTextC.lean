/-
  The text of a term: the model's l3Text and TermText.
-/
import Derived.Test.YtkfplichekebdaaDoorDepth
import Derived.Test.YtkfplichekebdaaDoorSign
import Derived.Outline
namespace Go.Proofs.YtkfplichekebdaaDoor
open Go Go.RowKit
open M
set_option linter.unusedVariables false

/-- texts one behind the other -/
theorem add_tx (a b : Tx) (h : a.length + b.length ≤ 100000) (w : World) : (Op.stringOp .add (⟨a.toArray⟩ : ByteArray) ⟨b.toArray⟩).run Tryd.prog w = .ok (tx (a ++ b)) w := by
  have h1 := run_string_add_sum (P := Tryd.prog) w ⟨a.toArray⟩ ⟨b.toArray⟩ (by simp [ByteArray.size]; omega)
  rw [ByteArray.mk_append_mk] at h1
  exact h1
/-- a tree's own text, where its numbers are words -/
theorem treeT_wd {wide vars : Int} {t : List Nd} (hok : ∀ x ∈ t, NdOk x) : ∀ (n k : Nat), k ≤ n → ∀ e : Ent Tr, TreeAt wide vars Tr.leaf Tr.one Tr.two t k e → Wd e.val
  | n, k, hk, e, ht => by
    obtain ⟨x, hx, n1, n2, hcase⟩ := tree_cases ht
    have hxo := hok x (List.mem_of_getElem? hx)
    rcases hcase with ⟨m0, rfl⟩ | ⟨m1, hk1, d, hd, _, hdk, rfl⟩ | ⟨m2, hk1, d, c, hd, _, hd1, hdk, hcc, _, hck, rfl⟩
    · exact ⟨hxo.2.2.1, by have := hxo.2.2.2; omega⟩
    · match n, hk with
      | 0, hk => omega
      | n' + 1, hk => exact treeT_wd hok n' (k - 1) (by omega) d hd
    · match n, hk with
      | 0, hk => omega
      | n' + 1, hk => exact ⟨treeT_wd hok n' (d.at0 - 1) (by omega) c hcc, treeT_wd hok n' (k - 1) (by omega) d hd⟩
section
variable {b off cap : Nat} {t : List Nd}
set_option maxRecDepth 100000 in
set_option maxHeartbeats 1000000 in
theorem l3Text_leaf (j : Nat) (op n : Int) (hj : j < t.length) (hl : t.length ≤ 48) (h0 : 0 ≤ n) (h1 : n < 18446744073709551616) (hop : op = 1 ∨ op = 2 ∧ n < 4 ∨ op = 20 ∧ n ≤ 1) (w : World)
    (c0 : w.cell? ⟨b, off + j * 2, none⟩ = some (.int .i64 op)) (c1 : w.cell? ⟨b, off + j * 2 + 1, none⟩ = some (.int .u64 n)) :
    Calls Tryd.prog 39 #[.slice (some ⟨b, off, none⟩) t.length cap, .int .i64 j] w fun e w' => e = .returned (tx (leafL (op, n))) ∧ Below w.heap.size w w' := by
  obtain ⟨m, rfl⟩ := Int.eq_ofNat_of_zero_le h0
  have g := l2Need_any op (w.alloc (.cells #[.int .i64 op, .int .u64 (m : Int)] 62))
  have HB : Hid (Below w.heap.size w (w.alloc (.cells #[.int .i64 op, .int .u64 (m : Int)] 62))) := (Below.refl _ _).alloc (Nat.le_refl _) _
  rcases hop with rfl | ⟨rfl, hv⟩ | ⟨rfl, hv⟩
  · have e1 : leafL (1, (m : Int)) = numL m := rfl
    have GN : Hid (∀ w1 : World, Calls Tryd.prog 29 #[.int .u64 (m : Int)] w1 fun e w' => e = .returned (tx (numL m)) ∧ Below w1.heap.size w1 w') := fun w1 => l1Num_any m (by omega) w1
    rw [e1]
    generalize numL m = l at *
    generalize (m : Int) = n at *
    go_enter Tryd.func39, Tryd.ntmps39
    go_wp2_with fail
    refine g.mono ?_
    rintro e w1 ⟨rfl, rfl⟩
    clear g
    have g2 := GN.out (w.alloc (.cells #[.int .i64 1, .int .u64 n] 62))
    go_wp2_with fail
    refine g2.mono ?_
    rintro e w2 ⟨rfl, hb2⟩
    have HB2 : Hid (Below w.heap.size w w2) := HB.out.trans (hb2.mono HB.out.size)
    clear g2 hb2
    go_wp2_with fail
    go_ret
    exact ⟨rfl, HB2.out⟩
  · have e1 : leafL (2, (m : Int)) = nameL m := rfl
    have GN : Hid (∀ w1 : World, Calls Tryd.prog 66 #[.int .i64 (m : Int)] w1 fun e w' => e = .returned (tx (nameL m)) ∧ Below w1.heap.size w1 w') := fun w1 => l3Name_any m (by omega) w1
    rw [e1]
    generalize nameL m = l at *
    go_enter Tryd.func39, Tryd.ntmps39
    go_wp2_with fail
    refine g.mono ?_
    rintro e w1 ⟨rfl, rfl⟩
    clear g
    have g2 := GN.out (w.alloc (.cells #[.int .i64 2, .int .u64 (m : Int)] 62))
    go_wp2_with fail
    refine g2.mono ?_
    rintro e w2 ⟨rfl, hb2⟩
    have HB2 : Hid (Below w.heap.size w w2) := HB.out.trans (hb2.mono HB.out.size)
    clear g2 hb2
    go_wp2_with fail
    go_ret
    exact ⟨rfl, HB2.out⟩
  · rcases (show m = 0 ∨ m = 1 by omega) with rfl | rfl
    · have e1 : leafL (20, ((0 : Nat) : Int)) = noL := rfl
      rw [e1]
      go_enter Tryd.func39, Tryd.ntmps39
      go_wp2_with fail
      refine g.mono ?_
      rintro e w1 ⟨rfl, rfl⟩
      clear g
      go_wp2_with fail
      go_ret
      exact ⟨rfl, HB.out⟩
    · have e1 : leafL (20, ((1 : Nat) : Int)) = yesL := rfl
      rw [e1]
      go_enter Tryd.func39, Tryd.ntmps39
      go_wp2_with fail
      refine g.mono ?_
      rintro e w1 ⟨rfl, rfl⟩
      clear g
      go_wp2_with fail
      go_ret
      exact ⟨rfl, HB.out⟩
set_option maxRecDepth 100000 in
set_option maxHeartbeats 1000000 in
theorem l3Text_one (j : Nat) (op n : Int) (la : Tx) (hla : la.length ≤ 2000) (hj : j < t.length) (hj1 : 1 ≤ j) (hl : t.length ≤ 48) (hop : op = 13 ∨ op = 19) (w : World)
    (c0 : w.cell? ⟨b, off + j * 2, none⟩ = some (.int .i64 op)) (c1 : w.cell? ⟨b, off + j * 2 + 1, none⟩ = some (.int .u64 n))
    (ih : ∀ (i : Int) (w1 : World), i.toNat = j - 1 → 0 ≤ i → Below w.heap.size w w1 → Calls Tryd.prog 39 #[.slice (some ⟨b, off, none⟩) t.length cap, .int .i64 i] w1 fun e w' => e = .returned (tx la) ∧ Below w1.heap.size w1 w') :
    Calls Tryd.prog 39 #[.slice (some ⟨b, off, none⟩) t.length cap, .int .i64 j] w fun e w' => e = .returned (tx (signL op ++ la)) ∧ Below w.heap.size w w' := by
  have g := l2Need_any op (w.alloc (.cells #[.int .i64 op, .int .u64 n] 62))
  have HB : Hid (Below w.heap.size w (w.alloc (.cells #[.int .i64 op, .int .u64 n] 62))) := (Below.refl _ _).alloc (Nat.le_refl _) _
  have GS : Hid (∀ w1 : World, Calls Tryd.prog 58 #[.int .i64 op] w1 fun e w' => e = .returned (tx (signL op)) ∧ w' = w1) := fun w1 => l3Sign_any op w1
  have ha := fun w : World => add_tx (signL op) la (by have := signL_len op; omega) w
  have IH : Hid _ := ih
  clear ih
  rw [show manyOf op = 1 from by unfold manyOf; rw [if_pos hop]] at g
  have e2 : (op == 2) = false := beq_eq_false_iff_ne.2 (by omega)
  have e20 : (op == 20) = false := beq_eq_false_iff_ne.2 (by omega)
  generalize signL op = sg at *
  generalize hsum : sg ++ la = S at *
  clear hsum hop
  generalize ownOf op = o at *
  generalize partOf op = q at *
  go_enter Tryd.func39, Tryd.ntmps39
  go_wp2_with fail
  refine g.mono ?_
  rintro e w1 ⟨rfl, rfl⟩
  clear g
  go_wp2_with fail
  refine (GS.out _).mono ?_
  rintro e w1 ⟨rfl, rfl⟩
  clear GS
  go_wp2_with fail
  refine (IH.out _ _ (by omega) (by omega) HB.out).mono ?_
  rintro e w2 ⟨rfl, hb2⟩
  have HB2 : Hid (Below w.heap.size w w2) := HB.out.trans (hb2.mono HB.out.size)
  clear hb2 IH
  go_wp2_with fail
  go_ret
  exact ⟨rfl, HB2.out⟩
set_option maxRecDepth 100000 in
set_option maxHeartbeats 2000000 in
theorem l3Text_two (j da : Nat) (op n : Int) (la lb : Tx) (hla : la.length ≤ 2000) (hlb : lb.length ≤ 2000) (hj : j < t.length) (hj1 : 1 ≤ j) (hd1 : 1 ≤ da) (hdj : da ≤ j - 1) (hl : t.length ≤ 48) (hop : (3 ≤ op ∧ op ≤ 12) ∨ (14 ≤ op ∧ op ≤ 18)) (w : World)
    (c0 : w.cell? ⟨b, off + j * 2, none⟩ = some (.int .i64 op)) (c1 : w.cell? ⟨b, off + j * 2 + 1, none⟩ = some (.int .u64 n))
    (ihf : ∀ (i : Int) (w1 : World), i.toNat = j - 1 → 0 ≤ i → Below w.heap.size w w1 → Calls Tryd.prog 67 #[.slice (some ⟨b, off, none⟩) t.length cap, .int .i64 i] w1 fun e w' => e = .returned (.int .i64 da) ∧ w' = w1)
    (ihc : ∀ (i : Int) (w1 : World), i.toNat = da - 1 → 0 ≤ i → Below w.heap.size w w1 → Calls Tryd.prog 39 #[.slice (some ⟨b, off, none⟩) t.length cap, .int .i64 i] w1 fun e w' => e = .returned (tx la) ∧ Below w1.heap.size w1 w')
    (ihd : ∀ (i : Int) (w1 : World), i.toNat = j - 1 → 0 ≤ i → Below w.heap.size w w1 → Calls Tryd.prog 39 #[.slice (some ⟨b, off, none⟩) t.length cap, .int .i64 i] w1 fun e w' => e = .returned (tx lb) ∧ Below w1.heap.size w1 w') :
    Calls Tryd.prog 39 #[.slice (some ⟨b, off, none⟩) t.length cap, .int .i64 j] w fun e w' => e = .returned (tx ([40] ++ la ++ signL op ++ lb ++ [41])) ∧ Below w.heap.size w w' := by
  have g := l2Need_any op (w.alloc (.cells #[.int .i64 op, .int .u64 n] 62))
  have HB : Hid (Below w.heap.size w (w.alloc (.cells #[.int .i64 op, .int .u64 n] 62))) := (Below.refl _ _).alloc (Nat.le_refl _) _
  have GS : Hid (∀ w1 : World, Calls Tryd.prog 58 #[.int .i64 op] w1 fun e w' => e = .returned (tx (signL op)) ∧ w' = w1) := fun w1 => l3Sign_any op w1
  have hsl := signL_len op
  have ha1 := fun w : World => add_tx [40] la (by simp; omega) w
  have ha2 := fun w : World => add_tx ([40] ++ la) (signL op) (by simp; omega) w
  have ha3 := fun w : World => add_tx ([40] ++ la ++ signL op) lb (by simp; omega) w
  have ha4 := fun w : World => add_tx ([40] ++ la ++ signL op ++ lb) [41] (by simp; omega) w
  have HC : Hid (∀ w2, Below (w.heap.size + 1) (w.alloc (.cells #[.int .i64 op, .int .u64 n] 62)) w2 → w2.cell? ⟨w.heap.size, 0, none⟩ = some (.int .i64 op)) := by
    intro w2 hb
    rw [hb.cell (p := ⟨w.heap.size, 0, none⟩) (by simp), World.cell?_alloc_new]
    rfl
  have IHF : Hid _ := ihf
  have IHC : Hid _ := ihc
  have IHD : Hid _ := ihd
  clear ihf ihc ihd
  rw [show manyOf op = 2 from by unfold manyOf; rw [if_neg (by omega), if_pos (by omega)]] at g
  have e2 : (op == 2) = false := beq_eq_false_iff_ne.2 (by omega)
  have e20 : (op == 20) = false := beq_eq_false_iff_ne.2 (by omega)
  generalize h4 : [40] ++ la ++ signL op ++ lb ++ [41] = S4 at *
  generalize h3 : [40] ++ la ++ signL op ++ lb = S3 at *
  generalize h2 : [40] ++ la ++ signL op = S2 at *
  generalize h1 : [40] ++ la = S1 at *
  generalize signL op = sg at *
  clear h1 h2 h3 h4 hop
  generalize ownOf op = o at *
  generalize partOf op = q at *
  go_enter Tryd.func39, Tryd.ntmps39
  go_wp2_with fail
  refine g.mono ?_
  rintro e w1 ⟨rfl, rfl⟩
  clear g
  go_wp2_with fail
  go_region_with (first | (go_at_call 67; refine (IHF.out _ _ (by first | omega | (rw [IntWalk.i64_in _ ⟨by omega, by omega⟩]; omega)) (by first | omega | (rw [IntWalk.i64_in _ ⟨by omega, by omega⟩]; omega)) (by first | exact HB.out | exact HB.out.drew | exact HB.out.drew.drew)).mono ?_; rintro e w2 ⟨rfl, rfl⟩) | (go_at_call 58; refine (GS.out _).mono ?_; rintro e w2 ⟨rfl, rfl⟩) | (go_at_call 39; refine (IHC.out _ _ (by first | omega | (rw [IntWalk.i64_in _ ⟨by omega, by omega⟩]; omega)) (by first | omega | (rw [IntWalk.i64_in _ ⟨by omega, by omega⟩]; omega)) (by first | exact HB.out | exact HB.out.drew | exact HB.out.drew.drew)).mono ?_; rintro e w2 ⟨rfl, hb2⟩; have R2 : Hid (Below (w.heap.size + 1) (w.alloc (.cells #[.int .i64 op, .int .u64 n] 62)) w2) := (by first | exact hb2.mono (by simp) | exact (Below.refl _ _).drew.trans (hb2.mono (by simp)) | exact (Below.refl _ _).drew.drew.trans (hb2.mono (by simp))); have HB2 : Hid (Below w.heap.size w w2) := HB.out.trans (R2.out.mono (by omega)); have cell2 := HC.out w2 R2.out; clear hb2) | (go_at_call 39; refine (IHD.out _ _ (by first | omega | (rw [IntWalk.i64_in _ ⟨by omega, by omega⟩]; omega)) (by first | omega | (rw [IntWalk.i64_in _ ⟨by omega, by omega⟩]; omega)) (by first | exact HB2.out | exact HB2.out.drew | exact HB2.out.drew.drew)).mono ?_; rintro e w3 ⟨rfl, hb3⟩; have HB3 : Hid (Below w.heap.size w w3) := (by first | exact HB2.out.trans (hb3.mono HB2.out.size) | exact HB2.out.drew.trans (hb3.mono HB2.out.size)); clear hb3))
  all_goals
    clear IHF IHC IHD GS HC
    go_wp2_with fail
    go_ret
    exact ⟨rfl, Hid.out (p := Below w.heap.size w w3) (by assumption)⟩
end
end Go.Proofs.YtkfplichekebdaaDoor
