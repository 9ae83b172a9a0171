/-
  What is put for variables: the model's PutAll whole.
-/
import Derived.Test.YtkmgcgmeibhnmaaDoorPuts
namespace Go.Proofs.YtkmgcgmeibhnmaaDoor
open Go Go.RowKit
open M
set_option linter.unusedVariables false

theorem NodesSS.shape {w : World} {v : Value} {bs : List (List Nd)} (h : NodesSS w v bs) : ∃ (a : Option Addr) (cap : Nat), v = .slice a bs.length cap := by
  rcases h.2 with ⟨rfl, a, cap, h⟩ | ⟨b, off, cap, h, _⟩
  · exact ⟨a, cap, h⟩
  · exact ⟨_, cap, h⟩
def canPut (wide vars : Int) (t : List Nd) (bs : List (List Nd)) : Bool := decide (0 < kindL wide vars t) && (decide ((bs.length : Int) = vars) && bs.all fun u => decide (kindL wide vars u = 1))
def saidPut (wide vars : Int) (t : List Nd) (bs : List (List Nd)) : Bool := canPut wide vars t bs && decide (0 < kindL wide vars (putsL bs t))
def putAllL (wide vars : Int) (t : List Nd) (bs : List (List Nd)) : List Nd := if canPut wide vars t bs = true then madeL wide vars (putsL bs t) else []
set_option maxRecDepth 100000 in
theorem putAll_bad (wide vars : Int) (v : Value) (a : Option Addr) (n cp : Nat) (t : List Nd) (hk : decide (0 < kindL wide vars t) = false) (w : World) (h : NodesAt w v t) :
    Calls Tryd.prog 17 #[.int .i64 wide, .int .i64 vars, v, .slice a n cp] w fun e w' => e = .returned (.tuple #[.slice none 0 0, .bool false]) ∧ Below w.heap.size w w' := by
  have g := goodTerm_any wide vars v t w h
  rw [hk] at g
  clear hk h
  go_enter Tryd.func17, Tryd.ntmps17
  go_wp2_with fail
  refine g.mono ?_
  rintro e w1 ⟨rfl, hb1⟩
  have HB : Hid (Below w.heap.size w w1) := hb1
  clear g hb1
  go_wp2_with fail
  go_ret2
  exact ⟨rfl, HB.out⟩
set_option maxRecDepth 100000 in
theorem putAll_other (wide vars : Int) (v : Value) (a : Option Addr) (n cp : Nat) (t : List Nd) (hk : decide (0 < kindL wide vars t) = true) (hn : (n : Int) ≠ vars) (hl : n ≤ 9223372036854775807) (w : World) (h : NodesAt w v t) :
    Calls Tryd.prog 17 #[.int .i64 wide, .int .i64 vars, v, .slice a n cp] w fun e w' => e = .returned (.tuple #[.slice none 0 0, .bool false]) ∧ Below w.heap.size w w' := by
  have g := goodTerm_any wide vars v t w h
  rw [hk] at g
  have hne : ((n : Int) != vars) = true := bne_iff_ne.2 hn
  clear hk h hn
  go_enter Tryd.func17, Tryd.ntmps17
  go_wp2_with fail
  refine g.mono ?_
  rintro e w1 ⟨rfl, hb1⟩
  have HB : Hid (Below w.heap.size w w1) := hb1
  clear g hb1
  go_wp2_with fail
  go_ret2
  exact ⟨rfl, HB.out⟩
set_option maxRecDepth 100000 in
set_option maxHeartbeats 2000000 in
theorem putAll_kind (wide vars : Int) (v : Value) (c o cp : Nat) (t : List Nd) (bs : List (List Nd)) (hk : decide (0 < kindL wide vars t) = true) (hn : (bs.length : Int) = vars) (hl : bs.length ≤ 1048576) (w : World) (h : NodesAt w v t) (hclt : c < w.heap.size)
    (hcs : ∀ (i : Nat) (u : List Nd), bs[i]? = some u → ∃ z : Value, w.cell? ⟨c, o + i, none⟩ = some z ∧ NodesAt w z u) (hbad : ¬ ∀ u ∈ bs, kindL wide vars u = 1) :
    Calls Tryd.prog 17 #[.int .i64 wide, .int .i64 vars, v, .slice (some ⟨c, o, none⟩) bs.length cp] w fun e w' => e = .returned (.tuple #[.slice none 0 0, .bool false]) ∧ Below w.heap.size w w' := by
  have g1 := goodTerm_any wide vars v t w h
  rw [hk] at g1
  have GK : Hid (∀ (z : Value) (u : List Nd) (w1 : World), NodesAt w1 z u → Calls Tryd.prog 64 #[.int .i64 wide, .int .i64 vars, z] w1 fun e w' => e = .returned (.int .i64 (kindL wide vars u)) ∧ Below w1.heap.size w1 w') := fun z u w1 hz => l2Kind_any wide vars z u w1 hz
  have HBAD : Hid _ := hbad
  have HCS : Hid _ := hcs
  clear hcs hk h hbad
  subst hn
  go_enter Tryd.func17, Tryd.ntmps17
  go_wp2_with fail
  refine g1.mono ?_
  rintro e w1 ⟨rfl, hb1⟩
  clear g1
  have HB1 : Hid (Below w.heap.size w w1) := hb1
  clear hb1
  go_wp2_with fail
  go_loopw [28] (fun i wr => ∃ j : Nat, j ≤ bs.length ∧ i = .int .i64 j ∧ Hid (∀ u ∈ bs.take j, kindL wide bs.length u = 1) ∧ Hid (Below w.heap.size w wr)) (fun i _ => bs.length - (intOf i).toNat)
  case atStart => exact ⟨0, by omega, rfl, (by intro u hu; simp at hu : ∀ u ∈ bs.take 0, kindL wide bs.length u = 1), HB1⟩
  case round =>
    obtain ⟨j, hj, rfl, HA, HB⟩ := hrel
    by_cases hlt' : j < bs.length
    · obtain ⟨u, hu⟩ : ∃ u, bs[j]? = some u := ⟨bs[j], List.getElem?_eq_getElem hlt'⟩
      obtain ⟨z, cz, hz⟩ := HCS.out j u hu
      rw [← HB.out.cell (p := ⟨c, o + j, none⟩) hclt] at cz
      have g := GK.out z u wr (hz.below HB.out)
      have HE : Hid (bs.take (j + 1) = bs.take j ++ [u]) := by
        show bs.take (j + 1) = bs.take j ++ [u]
        rw [List.take_add_one, hu]
        rfl
      obtain ⟨za, zc, rfl⟩ := hz.shape
      clear hu hz
      by_cases h1 : kindL wide bs.length u = 1
      · rw [h1] at g
        have HA2 : Hid (∀ u ∈ bs.take (j + 1), kindL wide bs.length u = 1) := by
          show ∀ u ∈ bs.take (j + 1), kindL wide bs.length u = 1
          rw [HE.out]
          intro y hy
          rcases List.mem_append.1 hy with hy | hy
          · exact HA.out y hy
          · simp at hy
            subst hy
            exact h1
        clear h1 HE HA
        go_wp2_with fail
        refine g.mono ?_
        rintro e w2 ⟨rfl, hb2⟩
        have HB2 : Hid (Below w.heap.size w w2) := HB.out.trans (hb2.mono HB.out.size)
        clear g hb2
        go_wp2_with fail
        go_roundw
        case rel => exact ⟨j + 1, by omega, by go_num, HA2, HB2⟩
        case measure => simp [intOf]; omega
      · have hne : (kindL wide bs.length u != 1) = true := bne_iff_ne.2 h1
        clear h1 HE HA
        generalize kindL wide bs.length u = q at *
        go_wp2_with fail
        refine g.mono ?_
        rintro e w2 ⟨rfl, hb2⟩
        have HB2 : Hid (Below w.heap.size w w2) := HB.out.trans (hb2.mono HB.out.size)
        clear g hb2
        go_wp2_with fail
        go_ret2
        exact ⟨rfl, HB2.out⟩
    · exfalso
      obtain rfl : j = bs.length := by omega
      have h := HA.out
      rw [List.take_length] at h
      exact HBAD.out h
theorem putAll_any (wide vars : Int) (v bv : Value) (t : List Nd) (bs : List (List Nd)) (w : World) (h : NodesAt w v t) (hs : NodesSS w bv bs) :
    Calls Tryd.prog 17 #[.int .i64 wide, .int .i64 vars, v, bv] w fun e w' => ∃ v', e = .returned (.tuple #[v', .bool (saidPut wide vars t bs)]) ∧ OwnNodes w' w.heap.size v' (putAllL wide vars t bs) ∧ Below w.heap.size w w' := by
  cases hk : decide (0 < kindL wide vars t) with
  | false =>
    obtain ⟨a, cp, rfl⟩ := hs.shape
    have e1 : canPut wide vars t bs = false := by unfold canPut; rw [hk]; rfl
    unfold saidPut putAllL
    rw [e1]
    refine (putAll_bad wide vars v a bs.length cp t hk w h).mono ?_
    rintro e w' ⟨rfl, hb⟩
    exact ⟨_, rfl, World.ownsRow_nil _ _ _ _, hb⟩
  | true =>
    by_cases hn : (bs.length : Int) = vars
    · obtain ⟨hv4, hl1, hl48, hvar⟩ := good_var (of_decide_eq_true hk)
      obtain ⟨_, hv1, _⟩ := tree_root (f0 := fun _ => (0 : Int)) (f1 := fun _ _ => 0) (f2 := fun _ _ _ => 0) (of_decide_eq_true hk)
      rcases hs.2 with ⟨rfl, _⟩ | ⟨c, o, cp, rfl, hclt, hcs⟩
      · simp at hn
        omega
      by_cases hall : ∀ u ∈ bs, kindL wide vars u = 1
      · have e1 : canPut wide vars t bs = true := by
          unfold canPut
          rw [hk, decide_eq_true hn]
          simp only [Bool.true_and, List.all_eq_true, decide_eq_true_eq]
          exact hall
        unfold saidPut putAllL
        rw [e1]
        simp only [Bool.true_and, if_true]
        have hkk := of_decide_eq_true hk
        obtain ⟨hok, _, hN⟩ := h
        rcases hN with ⟨rfl, _⟩ | ⟨b, off, cap, rfl, hlt, hc⟩
        · simp at hl1
        exact putAll_yes wide vars b off cap c o cp t bs w hlt hl48 hn hv4 hc hok hvar hkk hclt hcs hall
      · have e1 : canPut wide vars t bs = false := by
          cases hcp : canPut wide vars t bs with
          | false => rfl
          | true =>
            unfold canPut at hcp
            rw [hk, decide_eq_true hn] at hcp
            simp only [Bool.true_and, List.all_eq_true, decide_eq_true_eq] at hcp
            exact absurd hcp hall
        unfold saidPut putAllL
        rw [e1]
        refine (putAll_kind wide vars v c o cp t bs hk hn (by omega) w h hclt hcs hall).mono ?_
        rintro e w' ⟨rfl, hb⟩
        exact ⟨_, rfl, World.ownsRow_nil _ _ _ _, hb⟩
    · obtain ⟨a, cp, rfl⟩ := hs.shape
      have e1 : canPut wide vars t bs = false := by unfold canPut; rw [hk, decide_eq_false hn]; rfl
      unfold saidPut putAllL
      rw [e1]
      refine (putAll_other wide vars v a bs.length cp t hk hn hs.1 w h).mono ?_
      rintro e w' ⟨rfl, hb⟩
      exact ⟨_, rfl, World.ownsRow_nil _ _ _ _, hb⟩
end Go.Proofs.YtkmgcgmeibhnmaaDoor
