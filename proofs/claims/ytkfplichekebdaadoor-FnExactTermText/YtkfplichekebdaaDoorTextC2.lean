/-
  The text of a term: the model's l3Text whole, TermText.
-/
import Derived.Test.YtkfplichekebdaaDoorTextC
namespace Go.Proofs.YtkfplichekebdaaDoor
open Go Go.RowKit
open M
set_option linter.unusedVariables false

theorem leaf_ops {wide vars op n : Int} (hv : vars ≤ 4) (n1 : ¬ ownOf op = 0) (n2 : okN wide vars op n = true) (m0 : manyOf op = 0) : op = 1 ∨ op = 2 ∧ n < 4 ∨ op = 20 ∧ n ≤ 1 := by
  have hop : op = 1 ∨ op = 2 ∨ op = 20 := by
    unfold manyOf at m0
    unfold ownOf at n1
    split at m0
    · omega
    · split at m0
      · omega
      · split at n1
        · omega
        · split at n1 <;> omega
  rcases hop with rfl | rfl | rfl
  · exact Or.inl rfl
  · unfold okN at n2
    simp at n2
    exact Or.inr (Or.inl ⟨rfl, by omega⟩)
  · unfold okN at n2
    simp at n2
    exact Or.inr (Or.inr ⟨rfl, by omega⟩)
theorem one_ops {op : Int} (m1 : manyOf op = 1) : op = 13 ∨ op = 19 := by
  unfold manyOf at m1
  split at m1
  · assumption
  · split at m1 <;> omega
theorem two_ops {op : Int} (m2 : manyOf op = 2) : (3 ≤ op ∧ op ≤ 12) ∨ (14 ≤ op ∧ op ≤ 18) := by
  unfold manyOf at m2
  split at m2
  · cases m2
  · split at m2 <;> omega
theorem treeT_text {wide vars : Int} {t : List Nd} (hok : ∀ x ∈ t, NdOk x) (hl : t.length ≤ 48) {k : Nat} {e : Ent Tr} (h : TreeAt wide vars Tr.leaf Tr.one Tr.two t k e) : (trText e.val).length ≤ 960 := by
  have h1 := trText_len e.val (treeT_wd hok k k (Nat.le_refl _) e h)
  have h2 := treeT_len h
  omega
theorem l3Text_any {wide vars : Int} {b off cap : Nat} {t : List Nd} (hv : vars ≤ 4) (hok : ∀ x ∈ t, NdOk x) (hl : t.length ≤ 48) :
    ∀ (m j : Nat), j ≤ m → ∀ (e0 : Ent Tr), TreeAt wide vars Tr.leaf Tr.one Tr.two t j e0 → ∀ (w : World), b < w.heap.size → Cells w b off t →
    Calls Tryd.prog 39 #[.slice (some ⟨b, off, none⟩) t.length cap, .int .i64 j] w fun e w' => e = .returned (tx (trText e0.val)) ∧ Below w.heap.size w w'
  | m, j, hjm, e0, ht, w, hlt, hc => by
    have hcb : ∀ w1, Below w.heap.size w w1 → Cells w1 b off t := fun w1 hb i x hx => by
      rw [hb.cell (p := ⟨b, off + i * 2, none⟩) hlt, hb.cell (p := ⟨b, off + i * 2 + 1, none⟩) hlt]
      exact hc i x hx
    obtain ⟨⟨op, n⟩, hx, n1, n2, hcase⟩ := tree_cases ht
    have hj : j < t.length := (List.getElem?_eq_some_iff.1 hx).1
    have hno := hok (op, n) (List.mem_of_getElem? hx)
    obtain ⟨c0, c1⟩ := hc j (op, n) hx
    simp only at hcase n1 n2 c0 c1
    have hn0 := hno.2.2.1
    have hn1 := hno.2.2.2
    simp only at hn0 hn1
    rcases hcase with ⟨m0, rfl⟩ | ⟨m1, hj1, d, hd, hdk, hdj, rfl⟩ | ⟨m2, hj1, d, c, hd, hdk, hd1, hdj, hcc, hck, hcd, rfl⟩
    · exact l3Text_leaf j op n hj hl hn0 (by omega) (leaf_ops hv n1 n2 m0) w c0 c1
    · match m, hjm with
      | 0, hjm => omega
      | m' + 1, hjm =>
        have hta := treeT_text hok hl hd
        exact l3Text_one j op n (trText d.val) (by omega) hj hj1 hl (one_ops m1) w c0 c1 (fun i w1 hi h0 hb => by
          have g := l3Text_any hv hok hl (cap := cap) m' (j - 1) (by omega) d hd w1 (Nat.lt_of_lt_of_le hlt hb.size) (hcb w1 hb)
          rw [show ((j - 1 : Nat) : Int) = i from by omega] at g
          exact g)
    · match m, hjm with
      | 0, hjm => omega
      | m' + 1, hjm =>
        have hta := treeT_text hok hl hcc
        have htb := treeT_text hok hl hd
        exact l3Text_two j d.at0 op n (trText c.val) (trText d.val) (by omega) (by omega) hj hj1 hd1 hdj hl (two_ops m2) w c0 c1 (fun i w1 hi h0 hb => by
          have g := l2From_any b off cap t (by omega) w1 (hcb w1 hb) (j - 1) (j - 1) (Nat.le_refl _) d hd
          rw [show ((j - 1 : Nat) : Int) = i from by omega] at g
          exact g) (fun i w1 hi h0 hb => by
          have g := l3Text_any hv hok hl (cap := cap) m' (d.at0 - 1) (by omega) c hcc w1 (Nat.lt_of_lt_of_le hlt hb.size) (hcb w1 hb)
          rw [show ((d.at0 - 1 : Nat) : Int) = i from by omega] at g
          exact g) (fun i w1 hi h0 hb => by
          have g := l3Text_any hv hok hl (cap := cap) m' (j - 1) (by omega) d hd w1 (Nat.lt_of_lt_of_le hlt hb.size) (hcb w1 hb)
          rw [show ((j - 1 : Nat) : Int) = i from by omega] at g
          exact g)
/-- the text of a good term whose text is not too long, and whether there is one -/
def textB (wide vars : Int) (t : List Nd) : Bool :=
  decide (0 < kindL wide vars t) && (match pileT wide vars t t.length with | some [e] => decide ((trText e.val).length ≤ 800) | _ => false)
def textL (wide vars : Int) (t : List Nd) : Tx :=
  if textB wide vars t = true then (match pileT wide vars t t.length with | some [e] => trText e.val | _ => []) else []
theorem textB_no {wide vars : Int} {t : List Nd} (hk : ¬ 0 < kindL wide vars t) : textB wide vars t = false ∧ textL wide vars t = [] := by
  have h : textB wide vars t = false := by unfold textB; rw [decide_eq_false hk]; rfl
  exact ⟨h, by unfold textL; rw [h]; rfl⟩
theorem textB_yes {wide vars : Int} {t : List Nd} {r : Tr} (hk : 0 < kindL wide vars t) (hr : pileT wide vars t t.length = some [⟨0, r.kind, r⟩]) (hl : (trText r).length ≤ 800) : textB wide vars t = true ∧ textL wide vars t = trText r := by
  have h : textB wide vars t = true := by unfold textB; rw [decide_eq_true hk, hr]; simp [hl]
  exact ⟨h, by unfold textL; rw [h, hr]; rfl⟩
theorem textB_long {wide vars : Int} {t : List Nd} {r : Tr} (hk : 0 < kindL wide vars t) (hr : pileT wide vars t t.length = some [⟨0, r.kind, r⟩]) (hl : ¬ (trText r).length ≤ 800) : textB wide vars t = false ∧ textL wide vars t = [] := by
  have h : textB wide vars t = false := by unfold textB; rw [decide_eq_true hk, hr]; simp [hl]
  exact ⟨h, by unfold textL; rw [h]; rfl⟩
set_option maxRecDepth 100000 in
theorem termText_any (wide vars : Int) (v : Value) (t : List Nd) (w : World) (h : NodesAt w v t) :
    Calls Tryd.prog 19 #[.int .i64 wide, .int .i64 vars, v] w fun e w' => e = .returned (.tuple #[tx (textL wide vars t), .bool (textB wide vars t)]) ∧ Below w.heap.size w w' := by
  have gg := goodTerm_any wide vars v t w h
  by_cases hk : 0 < kindL wide vars t
  · obtain ⟨_, _, hv4, h4, h5, r, hr, _⟩ := root_tree hk
    rw [decide_eq_true hk] at gg
    obtain ⟨hok, hlen, hN⟩ := h
    rcases hN with ⟨rfl, _⟩ | ⟨b, off, cap, rfl, hlt, hc⟩
    · simp at h4
    have htr : TreeAt wide vars Tr.leaf Tr.one Tr.two t (t.length - 1) ⟨0, r.kind, r⟩ := ⟨[], by rw [show t.length - 1 + 1 = t.length from by omega]; exact hr⟩
    have hbd := treeT_text hok h5 htr
    have GD : Hid (∀ (i : Int) (w1 : World), i.toNat = t.length - 1 → 0 ≤ i → Below w.heap.size w w1 → Calls Tryd.prog 39 #[.slice (some ⟨b, off, none⟩) t.length cap, .int .i64 i] w1 fun e w' => e = .returned (tx (trText r)) ∧ Below w1.heap.size w1 w') := by
      intro i w1 hi h0 hb
      have hc1 : Cells w1 b off t := by
        intro i x hx
        rw [hb.cell (p := ⟨b, off + i * 2, none⟩) hlt, hb.cell (p := ⟨b, off + i * 2 + 1, none⟩) hlt]
        exact hc i x hx
      have g := l3Text_any (cap := cap) hv4 hok h5 (t.length - 1) (t.length - 1) (Nat.le_refl _) ⟨0, r.kind, r⟩ htr w1 (Nat.lt_of_lt_of_le hlt hb.size) hc1
      rw [show ((t.length - 1 : Nat) : Int) = i from by omega] at g
      exact g
    by_cases h8 : (trText r).length ≤ 800
    · obtain ⟨e1, e2⟩ := textB_yes hk hr h8
      rw [e1, e2]
      simp only at hbd
      clear hr hk hc hok htr e1 e2
      generalize trText r = D at *
      go_enter Tryd.func19, Tryd.ntmps19
      go_wp2_with fail
      refine gg.mono ?_
      rintro e w1 ⟨rfl, hb⟩
      have HB : Hid _ := hb
      clear gg hb
      go_wp2_with fail
      refine (GD.out _ _ (by omega) (by omega) HB.out).mono ?_
      rintro e w2 ⟨rfl, hb2⟩
      have HB2 : Hid (Below w.heap.size w w2) := HB.out.trans (hb2.mono HB.out.size)
      clear hb2 GD
      go_wp2_with fail
      go_ret2
      exact ⟨rfl, HB2.out⟩
    · obtain ⟨e1, e2⟩ := textB_long hk hr h8
      rw [e1, e2]
      simp only at hbd
      clear hr hk hc hok htr e1 e2
      generalize trText r = D at *
      go_enter Tryd.func19, Tryd.ntmps19
      go_wp2_with fail
      refine gg.mono ?_
      rintro e w1 ⟨rfl, hb⟩
      have HB : Hid _ := hb
      clear gg hb
      go_wp2_with fail
      refine (GD.out _ _ (by omega) (by omega) HB.out).mono ?_
      rintro e w2 ⟨rfl, hb2⟩
      have HB2 : Hid (Below w.heap.size w w2) := HB.out.trans (hb2.mono HB.out.size)
      clear hb2 GD
      go_wp2_with fail
      go_ret2
      exact ⟨rfl, HB2.out⟩
  · obtain ⟨e1, e2⟩ := textB_no hk
    rw [e1, e2]
    rw [decide_eq_false hk] at gg
    clear hk h e1 e2
    go_enter Tryd.func19, Tryd.ntmps19
    go_wp2_with fail
    refine gg.mono ?_
    rintro e w1 ⟨rfl, hb⟩
    have HB : Hid _ := hb
    clear gg hb
    go_wp2_with fail
    go_ret2
    exact ⟨rfl, HB.out⟩
end Go.Proofs.YtkfplichekebdaaDoor
