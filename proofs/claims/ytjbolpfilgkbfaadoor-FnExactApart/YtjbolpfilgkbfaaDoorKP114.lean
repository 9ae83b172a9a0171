/-
  The model's l7Meet, Apart.
  The program's changed, read: what a command changes and reads.
  A region whose operations come up in whatever order, by an invariant (as in the part Reg5 of chapter 5); what has come up of l7Do's.
  What has come up of the last region of the program's disturbs.
  The program's meets, disturbs.
  What has come up of the last region of the program's TouchedBy.
  The program's TouchedBy.
  What has come up of the region of the program's Apart that lays both commands.
  The program's Apart.
-/
import Derived.Test.YtjbolpfilgkbfaaDoorKP113
import Derived.Test.YtjbolpfilgkbfaaDoorKP112
import Derived.Test.YtjbolpfilgkbfaaDoorNeed
import Derived.Test.YtjbolpfilgkbfaaDoorKP111
namespace Go.Proofs.YtjbolpfilgkbfaaDoor
open Go Go.RowKit
open M
set_option linter.unusedVariables false

/-- whether two lists have something in common -/
def meetL (a b : List Int) : Bool := a.any (fun x => decide (x ∈ b))
def apartB (p : Pg) (k m : Int) : Bool := touchB p k && touchB p m
def apartR (p : Pg) (k m : Int) : Bool := apartB p k m && (!meetL (touchW p k) (touchR p m) && !meetL (touchW p k) (touchW p m) && !meetL (touchW p m) (touchR p k))
set_option maxRecDepth 100000 in
set_option maxHeartbeats 2000000 in
theorem l7Meet_any (u v : Value) (a b : List Int) (w : World) (ha : IntsAt w u a) (hb : IntsAt w v b) :
    Calls Tryd.prog 78 #[u, v] w fun e w' => e = .returned (.bool (meetL a b)) ∧ w' = w := by
  have GH : Hid (∀ x : Int, Calls Tryd.prog 100 #[v, .int .i64 x] w fun e w' => e = .returned (.bool (decide (x ∈ b))) ∧ w' = w) := fun x => l1Has_any v b x w hb
  have hl := ha.1
  obtain ⟨aa, acap, rfl, hc⟩ := ha.opened
  obtain ⟨ba, bcap, rfl, _⟩ := hb.opened
  have HC : Hid _ := hc
  have hbl := hb.1
  clear ha hb hc
  go_enter Tryd.func78, Tryd.ntmps78
  go_wp2_with fail
  go_loop [9] (fun i => ∃ j : Nat, j ≤ a.length ∧ i = .int .i64 j ∧ Hid ((a.take j).any (fun x => decide (x ∈ b)) = false)) (fun i => a.length - (intOf i).toNat)
  case atStart => exact ⟨0, by omega, rfl, rfl⟩
  case round =>
    obtain ⟨j, hj, rfl, HA⟩ := hrel
    by_cases hlt : j < a.length
    · obtain ⟨x, hx⟩ : ∃ x, a[j]? = some x := ⟨a[j], List.getElem?_eq_getElem hlt⟩
      obtain ⟨bb, off, rfl, _, c0⟩ := HC.out j x hx
      have g := GH.out x
      cases hp : decide (x ∈ b) with
      | true =>
        rw [hp] at g
        have HN : Hid (meetL a b = true) := by
          show meetL a b = true
          unfold meetL
          rw [List.any_eq_true]
          exact ⟨x, List.mem_of_getElem? hx, hp⟩
        clear HC GH hx HA hp
        go_wp2_with fail
        refine g.mono ?_
        rintro e w2 ⟨rfl, rfl⟩
        clear g
        go_wp2_with fail
        go_ret
        exact ⟨ret_bool HN.out.symm, rfl⟩
      | false =>
        rw [hp] at g
        have HN : Hid ((a.take (j + 1)).any (fun x => decide (x ∈ b)) = false) := by
          show (a.take (j + 1)).any (fun x => decide (x ∈ b)) = false
          rw [any_take _ hx, HA.out, hp]
          rfl
        clear HC GH hx HA hp
        go_wp2_with fail
        refine g.mono ?_
        rintro e w2 ⟨rfl, rfl⟩
        clear g
        go_wp2_with fail
        go_round
        case rel => exact ⟨j + 1, by omega, by go_num, HN⟩
        case measure => simp [intOf]; omega
    · obtain rfl : j = a.length := by omega
      have HN : Hid (meetL a b = false) := by
        have h1 := HA.out
        rw [List.take_length] at h1
        exact h1
      clear HC GH HA
      go_wp2_with fail
      go_ret
      exact ⟨ret_bool HN.out.symm, rfl⟩
set_option maxRecDepth 100000 in
set_option maxHeartbeats 4000000 in
theorem sApart_any (v : Value) (p : Pg) (ok : PgOk p) (k m : Int) (hk : Fit k) (hm : Fit m) (w : World) (h : AtProg w v p) :
    Calls Tryd.prog 33 #[v, .int .i64 k, .int .i64 m] w fun e w' => e = .returned (.tuple #[.bool (apartR p k m), .bool (apartB p k m)]) ∧ Below w.heap.size w w' := by
  have GT : Hid (∀ (n : Int), Fit n → ∀ w1 : World, Below w.heap.size w w1 → Calls Tryd.prog 34 #[v, .int .i64 n] w1 fun e w' => ∃ r0 r1, e = .returned (.tuple #[r0, r1, .bool (touchB p n)]) ∧ OwnIS w' w1.heap.size w'.heap.size r0 (touchR p n) ∧ OwnIS w' w1.heap.size w'.heap.size r1 (touchW p n) ∧ Ap2 r0 r1 ∧ Below w1.heap.size w1 w') := fun n hn w1 hb => sTouched_any v p ok n hn w1 (h.below hb)
  have hR : apartR p k m = (apartB p k m && (!meetL (touchW p k) (touchR p m) && !meetL (touchW p k) (touchW p m) && !meetL (touchW p m) (touchR p k))) := rfl
  have hB : apartB p k m = (touchB p k && touchB p m) := rfl
  have l1 := touchR_len p k
  have l2 := touchW_len (n := k) ok
  have l3 := touchR_len p m
  have l4 := touchW_len (n := m) ok
  obtain ⟨sa, sn, sc, ca, cn, cc, rfl⟩ := h.shape
  have HB0 : Hid (Below w.heap.size w (w.alloc (.cells #[.int .i64 p.1, .int .i64 p.2.1, .slice sa sn sc, .slice ca cn cc] 27))) := (Below.refl _ _).alloc (Nat.le_refl _) _
  have x0 := box4_alloc w 27 (.int .i64 p.1) (.int .i64 p.2.1) (.slice sa sn sc) (.slice ca cn cc)
  have HX0 : Hid _ := x0
  have g1 := GT.out k hk _ HB0.out
  have GM : Hid _ := GT.out m hm
  rw [hR, hB]
  clear h ok x0 GT hR hB
  generalize touchR p k = RK at *
  generalize touchW p k = WK at *
  generalize touchR p m = RM at *
  generalize touchW p m = WM at *
  generalize touchB p k = BK at *
  generalize touchB p m = BM at *
  have HM : Hid (∀ (u v : Value) (a b : List Int) (wq : World), IntsAt wq u a → IntsAt wq v b → Calls Tryd.prog 78 #[u, v] wq fun e w' => e = .returned (.bool (meetL a b)) ∧ w' = wq) := fun u v a b wq ha hb => l7Meet_any u v a b wq ha hb
  have HM1 : Hid (∀ (u v : Value) (wq : World), IntsAt wq u WK → IntsAt wq v RM → Calls Tryd.prog 78 #[u, v] wq fun e w' => e = .returned (.bool (meetL WK RM)) ∧ w' = wq) := fun u v wq ha hb => HM.out u v WK RM wq ha hb
  have HM2 : Hid (∀ (u v : Value) (wq : World), IntsAt wq u WK → IntsAt wq v WM → Calls Tryd.prog 78 #[u, v] wq fun e w' => e = .returned (.bool (meetL WK WM)) ∧ w' = wq) := fun u v wq ha hb => HM.out u v WK WM wq ha hb
  have HM3 : Hid (∀ (u v : Value) (wq : World), IntsAt wq u WM → IntsAt wq v RK → Calls Tryd.prog 78 #[u, v] wq fun e w' => e = .returned (.bool (meetL WM RK)) ∧ w' = wq) := fun u v wq ha hb => HM.out u v WM RK wq ha hb
  clear HM
  generalize meetL WK RM = Q1 at *
  generalize meetL WK WM = Q2 at *
  generalize meetL WM RK = Q3 at *
  generalize p.1 = pw at *
  generalize p.2.1 = pv at *
  go_enter Tryd.func33, Tryd.ntmps33
  go_wp2_with fail
  refine g1.mono ?_
  generalize w.alloc (.cells #[.int .i64 pw, .int .i64 pv, .slice sa sn sc, .slice ca cn cc] 27) = w0 at *
  rintro e w1 ⟨r0, r1, rfl, o0, o1, _, hs⟩
  have HB1 : Hid (Below w.heap.size w w1) := Below.step HB0.out HB0.out.size hs
  have x1 := HX0.out.below hs HX0.out.lt
  obtain ⟨a0, a1, a2, a3⟩ := x1.cells
  have ah := x1.heap
  have al := x1.lt
  have i0 := o0.reads l1
  have i1 := o1.reads l2
  have I0 : Hid _ := i0
  have I1 : Hid _ := i1
  have hr0 := o0.shape
  have hr1 := o1.shape
  clear g1 hs x1 HX0 o0 o1 i0 i1
  go_wp2_with fail
  refine (GM.out _ HB1.out).mono ?_
  rintro e w2 ⟨r2, r3, rfl, o2, o3, _, hs⟩
  have HB2 : Hid (Below w.heap.size w w2) := HB1.out.trans (hs.mono HB1.out.size)
  have j0 := IntsAt.below I0.out hs
  have j1 := IntsAt.below I1.out hs
  have j2 := o2.reads l3
  have j3 := o3.reads l4
  have m1 := HM1.out r1 r2 w2 j1 j2
  have m2 := HM2.out r1 r3 w2 j1 j3
  have m3 := HM3.out r3 r0 w2 j3 j0
  have M1 : Hid _ := m1
  have M2 : Hid _ := m2
  have M3 : Hid _ := m3
  obtain ⟨ra0, rn0, rc0, rfl⟩ := hr0
  obtain ⟨ra1, rn1, rc1, rfl⟩ := hr1
  obtain ⟨ra2, rn2, rc2, rfl⟩ := o2.shape
  obtain ⟨ra3, rn3, rc3, rfl⟩ := o3.shape
  clear hs o2 o3 I0 I1 j0 j1 j2 j3 m1 m2 m3 GM a0 a1 a2 a3 ah al HM1 HM2 HM3
  cases BK with
  | false =>
    clear M1 M2 M3
    go_wp2_with fail
    go_ret2
    exact ⟨rfl, HB2.out⟩
  | true =>
    cases BM with
    | false =>
      clear M1 M2 M3
      go_wp2_with fail
      go_ret2
      exact ⟨rfl, HB2.out⟩
    | true =>
      have g1 := M1.out
      cases Q1 with
      | true =>
        clear M1 M2 M3
        go_wp2_with fail
        refine Calls.mono g1 ?_
        rintro e w3 ⟨rfl, rfl⟩
        clear g1
        go_wp2_with fail
        go_ret2
        exact ⟨rfl, HB2.out⟩
      | false =>
        have g2 := M2.out
        cases Q2 with
        | true =>
          clear M1 M2 M3
          go_wp2_with fail
          refine Calls.mono g1 ?_
          rintro e w3 ⟨rfl, rfl⟩
          clear g1
          go_wp2_with fail
          refine Calls.mono g2 ?_
          rintro e w3 ⟨rfl, rfl⟩
          clear g2
          go_wp2_with fail
          go_ret2
          exact ⟨rfl, HB2.out⟩
        | false =>
          have g3 := M3.out
          clear M1 M2 M3
          go_wp2_with fail
          refine Calls.mono g1 ?_
          rintro e w3 ⟨rfl, rfl⟩
          clear g1
          go_wp2_with fail
          refine Calls.mono g2 ?_
          rintro e w3 ⟨rfl, rfl⟩
          clear g2
          go_wp2_with fail
          refine Calls.mono g3 ?_
          rintro e w3 ⟨rfl, rfl⟩
          clear g3
          go_wp2_with fail
          go_ret2
          exact ⟨by cases Q3 <;> rfl, HB2.out⟩
end Go.Proofs.YtjbolpfilgkbfaaDoor

namespace Go.Proofs.YtjbolpfilgkbfaaDoor
open Go Go.RowKit
open M
set_option linter.unusedVariables false

/-- four truths as they lie in a block -/
abbrev BoxB (w : World) (b : Nat) (f : Int → Bool) : Prop := Box4 w b 113 (.bool (f 0)) (.bool (f 1)) (.bool (f 2)) (.bool (f 3))
abbrev aggB (f : Int → Bool) : Value := .agg #[.bool (f 0), .bool (f 1), .bool (f 2), .bool (f 3)]
theorem results_v4 {fn : Func} {p : Tmp} (h : fn.results = #[.cell p 113]) (tmps : Array Value) (w : World) (g : Nat) (t : TypeId) (cs : Array Value) (fr : Nat × Nat)
    (hp : tmps.getD p undef = .pointer (some ⟨g, 0, none⟩)) (hg : w.heap[g]? = some (.cells cs t fr)) (hi : cs.size = 4 := by rfl) :
    (results fn tmps).run Tryd.prog w = .ok (.agg cs) w := by
  have hp' : tmps[p]?.getD undef = .pointer (some ⟨g, 0, none⟩) := by simpa using hp
  have h4 : (Tryd.prog.info? 113).map (·.size) = some 4 := by kernel_rfl
  simp [results, h, hp', asAddr, run_loadVar_row w g t 113 cs fr _ hg Tryd.underlying113 rfl (by rw [hi]; exact h4)]
theorem boxB_cell {w : World} {b i : Nat} {f : Int → Bool} (h : BoxB w b f) (hi : i < 4) : w.cell? ⟨b, i, none⟩ = some (.bool (f i)) := by
  obtain ⟨c0, c1, c2, c3⟩ := h.cells
  rcases (show i = 0 ∨ i = 1 ∨ i = 2 ∨ i = 3 by omega) with rfl | rfl | rfl | rfl
  · exact c0
  · exact c1
  · exact c2
  · exact c3
theorem boxB_set {w : World} {b i : Nat} {f : Int → Bool} (h : BoxB w b f) (hi : i < 4) : BoxB (w.setCell ⟨b, i, none⟩ (.bool true)) b (fun j => f j || j == (i : Int)) := by
  show Box4 _ _ _ _ _ _ _
  rcases (show i = 0 ∨ i = 1 ∨ i = 2 ∨ i = 3 by omega) with rfl | rfl | rfl | rfl
  · simpa using h.set0 (.bool true)
  · simpa using h.set1 (.bool true)
  · simpa using h.set2 (.bool true)
  · simpa using h.set3 (.bool true)
set_option maxRecDepth 100000 in
set_option maxHeartbeats 4000000 in
theorem changed_any (c : Cm) (wide vars : Int) (x y : Value) (hv1 : 1 ≤ vars) (hv4 : vars ≤ 4) (hch : chsB wide vars 0 c.2 = true) (w : World) (hel : CmEl w (Old w) wide vars c x y) :
    Calls Tryd.prog 73 #[.agg #[x, y]] w fun e w' => e = .returned (aggB (changeF c)) ∧ Below w.heap.size w w' := by
  have hin := chsB_mem wide vars c.2 0 hch
  have hcl := chsB_len wide vars c.2 0 hch (by omega)
  have HCR : Hid (∀ w1 : World, Below w.heap.size w w1 → CrAt w1 (Old w1) wide vars y c.2) := fun w1 hb => hel.2.frame hb.size (fun i hi => Nat.lt_of_lt_of_le hi hb.size) (fun i hi => hb.block i hi)
  obtain ⟨_, xb, rfl, _⟩ := hel.1
  obtain ⟨ya, yc, rfl⟩ : ∃ a cc, y = .slice a c.2.length cc := by
    rcases hel.2 with ⟨e, rfl⟩ | ⟨g, cap, rfl, _⟩
    · rw [e]
      exact ⟨_, _, rfl⟩
    · exact ⟨_, _, rfl⟩
  have hb3 : Below w.heap.size w (((w.alloc (.cells #[ptr xb, .slice ya c.2.length yc] 108)).alloc (.cells #[.bool false, .bool false, .bool false, .bool false] 113)).alloc (.cells #[.bool false, .bool false, .bool false, .bool false] 113)) := (((Below.refl _ _).alloc (Nat.le_refl _) _).alloc (by rw [World.size_alloc]; omega) _).alloc (by rw [World.size_alloc, World.size_alloc]; omega) _
  have z0 := (box4_alloc (w.alloc (.cells #[ptr xb, .slice ya c.2.length yc] 108)) 113 (.bool false) (.bool false) (.bool false) (.bool false)).alloc (.cells #[.bool false, .bool false, .bool false, .bool false] 113)
  have r0 := box4_alloc ((w.alloc (.cells #[ptr xb, .slice ya c.2.length yc] 108)).alloc (.cells #[.bool false, .bool false, .bool false, .bool false] 113)) 113 (.bool false) (.bool false) (.bool false) (.bool false)
  have k0 := ((box2_alloc w 108 (ptr xb) (.slice ya c.2.length yc)).alloc (.cells #[.bool false, .bool false, .bool false, .bool false] 113)).alloc (.cells #[.bool false, .bool false, .bool false, .bool false] 113)
  simp only [World.size_alloc] at z0 r0
  have HB0 : Hid _ := hb3
  have HZ0 : Hid (BoxB (((w.alloc (.cells #[ptr xb, .slice ya c.2.length yc] 108)).alloc (.cells #[.bool false, .bool false, .bool false, .bool false] 113)).alloc (.cells #[.bool false, .bool false, .bool false, .bool false] 113)) (w.heap.size + 1) (fun _ => false)) := z0
  have HR0 : Hid (BoxB (((w.alloc (.cells #[ptr xb, .slice ya c.2.length yc] 108)).alloc (.cells #[.bool false, .bool false, .bool false, .bool false] 113)).alloc (.cells #[.bool false, .bool false, .bool false, .bool false] 113)) (w.heap.size + 1 + 1) (changeJ c 0)) := by
    rw [changeJ_zero]
    exact r0
  obtain ⟨k1, k2⟩ := k0.cells
  have kh := k0.heap
  have kl := k0.lt
  have HIN : Hid (∀ d ∈ c.2, ∃ i : Nat, d.1 = i ∧ i < 4) := fun d hd => by
    have := hin d hd
    exact ⟨d.1.toNat, by omega, by omega⟩
  have HJ : Hid (∀ (j : Nat) (d : Ch), c.2[j]? = some d → changeJ c (j + 1) = fun i => changeJ c j i || i == d.1) := fun j d h => changeJ_succ h
  have HA : Hid (changeJ c c.2.length = changeF c) := changeJ_all c
  have h4 : (Tryd.prog.info? 113).map (·.size) = some 4 := by kernel_rfl
  clear hb3 z0 r0 k0 hel hin hch
  go_enter Tryd.func73, Tryd.ntmps73
  go_wp2_with fail
  go_loopw [9] (fun i wr => ∃ j : Nat, j ≤ c.2.length ∧ i = .int .i64 j ∧ Hid (BoxB wr (w.heap.size + 1 + 1) (changeJ c j)) ∧ Hid (Below w.heap.size w wr) ∧ Hid (BoxB wr (w.heap.size + 1) (fun _ => false))) (fun i _ => c.2.length - (intOf i).toNat)
  case atStart => exact ⟨0, by omega, rfl, HR0, HB0, HZ0⟩
  case round =>
    obtain ⟨j, hj, rfl, HR, HB, HZ⟩ := hrel
    clear HR0 HB0 HZ0 k1 k2 kh kl
    by_cases hlt : j < c.2.length
    · obtain ⟨d, hd⟩ : ∃ d, c.2[j]? = some d := ⟨c.2[j], List.getElem?_eq_getElem hlt⟩
      obtain ⟨i, hi1, hi4⟩ := HIN.out d (List.mem_of_getElem? hd)
      obtain ⟨b2, rfl, u, v, cx, cy, rfl, hv⟩ : ∃ b2 : Nat, ya = some ⟨b2, 0, none⟩ ∧ ∃ u v : Value, wr.cell? ⟨b2, j * 2, none⟩ = some u ∧ wr.cell? ⟨b2, j * 2 + 1, none⟩ = some v ∧ u = .int .i64 d.1 ∧ RtAt wr (Old wr) wide vars 1 d.2 v := by
        rcases HCR.out wr HB.out with ⟨e, _⟩ | ⟨g', cap', e, _, _, hcc⟩
        · rw [e] at hd
          simp at hd
        · injection e with e1 _ _
          obtain ⟨u, v, k1, k2, k3⟩ := hcc j d hd
          exact ⟨g', e1, u, v, k1, k2, k3.1, k3.2⟩
      obtain ⟨_, zb, rfl, _⟩ := hv
      have hj1 := HJ.out j d hd
      rw [hi1] at cx hj1
      have hal : Below wr.heap.size wr (wr.alloc (.cells #[.int .i64 (i : Int), ptr zb] 147)) := (Below.refl _ _).alloc (Nat.le_refl _) _
      have hr2 := HR.out.below hal HR.out.lt
      have HZ2 : Hid _ := HZ.out.below hal HZ.out.lt
      have HB2 : Hid _ := HB.out.trans (hal.mono HB.out.size)
      have cn := boxB_cell hr2 hi4
      have fn := hr2.frozen i
      have nl := hr2.lt
      have HR3 : Hid (BoxB ((wr.alloc (.cells #[.int .i64 (i : Int), ptr zb] 147)).setCell ⟨w.heap.size + 1 + 1, i, none⟩ (.bool true)) (w.heap.size + 1 + 1) (changeJ c (j + 1))) := by
        rw [hj1]
        exact boxB_set hr2 hi4
      have hii : ((i : Int) < 4) := by omega
      clear hr2 hal hj1 hd HCR HIN HJ HA HR HB HZ hi1
      go_wp2_with fail
      go_roundw
      case rel => exact ⟨j + 1, by omega, by go_num, HR3, HB2.out.setCell (by show w.heap.size ≤ w.heap.size + 1 + 1; omega) _, HZ2.out.other (by omega) _⟩
      case measure => simp [intOf]; omega
    · obtain rfl : j = c.2.length := by omega
      obtain ⟨q0, q1, q2, q3⟩ := HR.out.cells
      have qh := HR.out.heap
      have ql := HR.out.lt
      obtain ⟨z0, z1, z2, z3⟩ := HZ.out.cells
      have zh := HZ.out.heap
      have zl := HZ.out.lt
      have f0 := HZ.out.frozen 0
      have f1 := HZ.out.frozen 1
      have f2 := HZ.out.frozen 2
      have f3 := HZ.out.frozen 3
      clear HCR HIN HJ
      generalize changeJ c c.2.length = FF at *
      go_wp2_with fail
      refine bodyPost_ret (results_v4 rfl _ _ _ _ _ _ rfl ((((HZ.out.set0 (.bool (FF 0))).set1 (.bool (FF 1))).set2 (.bool (FF 2))).set3 (.bool (FF 3))).heap) rfl ?_
      exact ⟨by rw [← HA.out], set4_below HB.out (Nat.le_succ _) _ _ _ _⟩
theorem nameR_any {wide vars kind : Int} {t : List Nd} (hpos : ∀ x ∈ t, 0 ≤ x.2) (hv4 : vars ≤ 4) (z : Value) (g : Nat) (f : Int → Bool) (w : World) (hr : RtAt w (OldNot w g) wide vars kind t z) (hh : w.heap[g]? = some (.cells (bools f) 113 (0, 0))) :
    Calls Tryd.prog 113 #[z, ptr g] w fun e w' => e = .returned (.tuple #[]) ∧ w'.heap[g]? = some (.cells (bools (fun i => f i || decide (((2, i) : Nd) ∈ t))) 113 (0, 0)) ∧ But g w w' := by
  obtain ⟨r, b, rfl, hf, hok, _, _, htr⟩ := hr
  have h := nameVars_any r b g f w htr hh (fun x hx h2 => by
    have a := ok_vars hok x hx h2
    have b := hpos x (by rw [← hf]; exact hx)
    omega) ⟨wide, vars, hok⟩
  rw [hf] at h
  exact h
set_option maxRecDepth 100000 in
set_option maxHeartbeats 4000000 in
theorem read_any (c : Cm) (ok : CmOk c) (wide vars : Int) (x y : Value) (hv1 : 1 ≤ vars) (hv4 : vars ≤ 4) (hch : chsB wide vars 0 c.2 = true) (w : World) (hel : CmEl w (Old w) wide vars c x y) :
    Calls Tryd.prog 71 #[.agg #[x, y]] w fun e w' => e = .returned (aggB (readF c)) ∧ Below w.heap.size w w' := by
  have hcl := chsB_len wide vars c.2 0 hch (by omega)
  have HCR : Hid (∀ w1 : World, Below w.heap.size w w1 → CrAt w1 (Old w1) wide vars y c.2) := fun w1 hb => hel.2.frame hb.size (fun i hi => Nat.lt_of_lt_of_le hi hb.size) (fun i hi => hb.block i hi)
  have GN0 : ∀ (w1 : World) (f : Int → Bool), Below w.heap.size w w1 → w.heap.size + 1 + 1 < w1.heap.size → w1.heap[w.heap.size + 1 + 1]? = some (.cells (bools f) 113 (0, 0)) → Calls Tryd.prog 113 #[x, ptr (w.heap.size + 1 + 1)] w1 fun e w' => e = .returned (.tuple #[]) ∧ w'.heap[w.heap.size + 1 + 1]? = some (.cells (bools (fun i => f i || decide (((2, i) : Nd) ∈ c.1))) 113 (0, 0)) ∧ But (w.heap.size + 1 + 1) w1 w' := fun w1 f hb hl hh =>
    nameR_any (ns_pos ok.1) hv4 x _ f w1 (hel.1.frame (fun i hi => ⟨Nat.lt_of_lt_of_le hi hb.size, by have : i < w.heap.size := hi; omega⟩) (fun i hi => hb.block i hi)) hh
  have GJ0 : ∀ (w1 : World) (f : Int → Bool) (z : Value) (d : Ch), d ∈ c.2 → RtAt w1 (OldNot w1 (w.heap.size + 1 + 1)) wide vars 1 d.2 z → w1.heap[w.heap.size + 1 + 1]? = some (.cells (bools f) 113 (0, 0)) → Calls Tryd.prog 113 #[z, ptr (w.heap.size + 1 + 1)] w1 fun e w' => e = .returned (.tuple #[]) ∧ w'.heap[w.heap.size + 1 + 1]? = some (.cells (bools (fun i => f i || decide (((2, i) : Nd) ∈ d.2))) 113 (0, 0)) ∧ But (w.heap.size + 1 + 1) w1 w' := fun w1 f z d hd hr hh =>
    nameR_any (ns_pos (ok.2.2 d hd).2) hv4 z _ f w1 hr hh
  have HRO : Hid (∀ (w1 : World), Below w.heap.size w w1 → ∀ (g cap : Nat) (hy : y = .slice (some ⟨g, 0, none⟩) c.2.length cap) (j : Nat) (d : Ch), c.2[j]? = some d → ∃ u v : Value, w1.cell? ⟨g, j * 2, none⟩ = some u ∧ w1.cell? ⟨g, j * 2 + 1, none⟩ = some v ∧ u = .int .i64 d.1 ∧ RtAt w (Old w) wide vars 1 d.2 v) := fun w1 hb g cap hy j d hd => by
    rcases hel.2 with ⟨e, _⟩ | ⟨g', cap', e, hg, _, hcc⟩
    · rw [e] at hd
      simp at hd
    · rw [hy] at e
      injection e with e1 _ _
      injection e1 with e1
      injection e1 with e1
      subst e1
      obtain ⟨u, v, k1, k2, k3⟩ := hcc j d hd
      exact ⟨u, v, by rw [hb.cell (p := ⟨g, j * 2, none⟩) (block_lt_of_cell k1)]; exact k1, by rw [hb.cell (p := ⟨g, j * 2 + 1, none⟩) (block_lt_of_cell k2)]; exact k2, k3.1, k3.2⟩
  obtain ⟨_, xb, rfl, _⟩ := hel.1
  obtain ⟨ya, yc, rfl⟩ : ∃ a cc, y = .slice a c.2.length cc := by
    rcases hel.2 with ⟨e, rfl⟩ | ⟨g, cap, rfl, _⟩
    · rw [e]
      exact ⟨_, _, rfl⟩
    · exact ⟨_, _, rfl⟩
  have hya : ∀ (j : Nat) (d : Ch), c.2[j]? = some d → ∃ b2 : Nat, ya = some ⟨b2, 0, none⟩ := fun j d hd => by
    rcases hel.2 with ⟨e, _⟩ | ⟨g', cap', e, _⟩
    · rw [e] at hd
      simp at hd
    · injection e with e1 _ _
      exact ⟨g', e1⟩
  have HYA : Hid _ := hya
  have hb3 : Below w.heap.size w (((w.alloc (.cells #[ptr xb, .slice ya c.2.length yc] 108)).alloc (.cells #[.bool false, .bool false, .bool false, .bool false] 113)).alloc (.cells #[.bool false, .bool false, .bool false, .bool false] 113)) := (((Below.refl _ _).alloc (Nat.le_refl _) _).alloc (by rw [World.size_alloc]; omega) _).alloc (by rw [World.size_alloc, World.size_alloc]; omega) _
  have hz3 : (((w.alloc (.cells #[ptr xb, .slice ya c.2.length yc] 108)).alloc (.cells #[.bool false, .bool false, .bool false, .bool false] 113)).alloc (.cells #[.bool false, .bool false, .bool false, .bool false] 113)).heap.size = w.heap.size + 1 + 1 + 1 := by rw [World.size_alloc, World.size_alloc, World.size_alloc]
  have z0 := (box4_alloc (w.alloc (.cells #[ptr xb, .slice ya c.2.length yc] 108)) 113 (.bool false) (.bool false) (.bool false) (.bool false)).alloc (.cells #[.bool false, .bool false, .bool false, .bool false] 113)
  have r0 := box4_alloc ((w.alloc (.cells #[ptr xb, .slice ya c.2.length yc] 108)).alloc (.cells #[.bool false, .bool false, .bool false, .bool false] 113)) 113 (.bool false) (.bool false) (.bool false) (.bool false)
  have k0 := ((box2_alloc w 108 (ptr xb) (.slice ya c.2.length yc)).alloc (.cells #[.bool false, .bool false, .bool false, .bool false] 113)).alloc (.cells #[.bool false, .bool false, .bool false, .bool false] 113)
  simp only [World.size_alloc] at z0 r0
  have g0 := GN0 _ (fun _ => false) hb3 (by omega) r0.heap
  have HB0 : Hid _ := hb3
  have HZ0 : Hid (BoxB (((w.alloc (.cells #[ptr xb, .slice ya c.2.length yc] 108)).alloc (.cells #[.bool false, .bool false, .bool false, .bool false] 113)).alloc (.cells #[.bool false, .bool false, .bool false, .bool false] 113)) (w.heap.size + 1) (fun _ => false)) := z0
  have HK0 : Hid _ := k0
  obtain ⟨k1, k2⟩ := k0.cells
  have kh := k0.heap
  have kl := k0.lt
  have HJ : Hid (∀ (j : Nat) (d : Ch), c.2[j]? = some d → readJ c (j + 1) = fun i => readJ c j i || decide (((2, i) : Nd) ∈ d.2)) := fun j d h => readJ_succ h
  have HA : Hid (readJ c c.2.length = readF c) := readJ_all c
  have HJ0 : Hid (readJ c 0 = fun i => decide (((2, i) : Nd) ∈ c.1)) := readJ_zero c
  have GJ : Hid _ := GJ0
  have h4 : (Tryd.prog.info? 113).map (·.size) = some 4 := by kernel_rfl
  clear hb3 z0 r0 k0 hel hch GN0 GJ0 hya ok
  go_enter Tryd.func71, Tryd.ntmps71
  go_wp2_with fail
  refine g0.mono ?_
  clear k1 k2 kh kl
  generalize (((w.alloc (.cells #[ptr xb, .slice ya c.2.length yc] 108)).alloc (.cells #[.bool false, .bool false, .bool false, .bool false] 113)).alloc (.cells #[.bool false, .bool false, .bool false, .bool false] 113)) = w0 at *
  rintro e w1 ⟨rfl, hh1, hbut⟩
  have HR1 : Hid (w1.heap[w.heap.size + 1 + 1]? = some (.cells (bools (readJ c 0)) 113 (0, 0))) := by
    show w1.heap[w.heap.size + 1 + 1]? = some (.cells (bools (readJ c 0)) 113 (0, 0))
    rw [hh1, HJ0.out]
    congr 2
  have HB1 : Hid (Below w.heap.size w w1) := HB0.out.trans (hbut.below (by omega) (by omega))
  have HZ1 : Hid (BoxB w1 (w.heap.size + 1) (fun _ => false)) := ⟨by rw [hbut.block _ (by omega) HZ0.out.lt]; exact HZ0.out.heap⟩
  have hk1 : Box2 w1 w.heap.size 108 (ptr xb) (.slice ya c.2.length yc) := ⟨by rw [hbut.block _ (by omega) HK0.out.lt]; exact HK0.out.heap⟩
  obtain ⟨k1, k2⟩ := hk1.cells
  have kh := hk1.heap
  have kl := hk1.lt
  clear g0 hh1 hbut hk1 HK0 HJ0 HB0 HZ0
  go_wp2_with fail
  go_loopw [12] (fun i wr => ∃ j : Nat, j ≤ c.2.length ∧ i = .int .i64 j ∧ Hid (wr.heap[w.heap.size + 1 + 1]? = some (.cells (bools (readJ c j)) 113 (0, 0))) ∧ Hid (Below w.heap.size w wr) ∧ Hid (BoxB wr (w.heap.size + 1) (fun _ => false))) (fun i _ => c.2.length - (intOf i).toNat)
  case atStart => exact ⟨0, by omega, rfl, HR1, HB1, HZ1⟩
  case round =>
    obtain ⟨j, hj, rfl, HR, HB, HZ⟩ := hrel
    clear HR1 HB1 HZ1 k1 k2 kh kl
    by_cases hlt : j < c.2.length
    · obtain ⟨d, hd⟩ : ∃ d, c.2[j]? = some d := ⟨c.2[j], List.getElem?_eq_getElem hlt⟩
      have hmem := List.mem_of_getElem? hd
      obtain ⟨b2, rfl⟩ := HYA.out j d hd
      obtain ⟨u, v, cx, cy, rfl, hv⟩ := HRO.out wr HB.out b2 yc rfl j d hd
      have hj1 := HJ.out j d hd
      have hal : Below wr.heap.size wr (wr.alloc (.cells #[.int .i64 d.1, v] 147)) := (Below.refl _ _).alloc (Nat.le_refl _) _
      have hgl : w.heap.size + 1 + 1 < wr.heap.size := (Array.getElem?_eq_some_iff.1 HR.out).1
      have hb2 := HB.out.trans (hal.mono HB.out.size)
      have hv2 : RtAt (wr.alloc (.cells #[.int .i64 d.1, v] 147)) (OldNot _ (w.heap.size + 1 + 1)) wide vars 1 d.2 v := hv.frame (fun i hi => ⟨Nat.lt_of_lt_of_le hi hb2.size, by have : i < w.heap.size := hi; omega⟩) (fun i hi => hb2.block i hi)
      have hh2 : (wr.alloc (.cells #[.int .i64 d.1, v] 147)).heap[w.heap.size + 1 + 1]? = some (.cells (bools (readJ c j)) 113 (0, 0)) := by rw [hal.block _ hgl]; exact HR.out
      have gj := GJ.out _ _ v d hmem hv2 hh2
      rw [← hj1] at gj
      have HB2 : Hid _ := hb2
      have HZ2 : Hid _ := HZ.out.below hal HZ.out.lt
      have hsz := hal.size
      obtain ⟨_, zb, rfl, _⟩ := hv
      clear hal hj1 hd HCR HRO HYA HJ HA HR HB HZ hv2 hh2 hmem GJ hb2
      generalize d.1 = dv at *
      go_wp2_with fail
      refine gj.mono ?_
      rintro e w3 ⟨rfl, hh3, hbut⟩
      have HR3 : Hid _ := hh3
      have HB3 : Hid (Below w.heap.size w w3) := HB2.out.trans (hbut.below (by omega) (by omega))
      have HZ3 : Hid (BoxB w3 (w.heap.size + 1) (fun _ => false)) := ⟨by rw [hbut.block _ (by omega) HZ2.out.lt]; exact HZ2.out.heap⟩
      clear gj hh3 hbut
      go_wp2_with fail
      go_roundw
      case rel => exact ⟨j + 1, by omega, by go_num, HR3, HB3, HZ3⟩
      case measure => simp [intOf]; omega
    · obtain rfl : j = c.2.length := by omega
      have hbx : BoxB wr (w.heap.size + 1 + 1) (readJ c c.2.length) := ⟨HR.out⟩
      obtain ⟨q0, q1, q2, q3⟩ := hbx.cells
      have qh := hbx.heap
      have ql := hbx.lt
      obtain ⟨z0, z1, z2, z3⟩ := HZ.out.cells
      have zh := HZ.out.heap
      have zl := HZ.out.lt
      have f0 := HZ.out.frozen 0
      have f1 := HZ.out.frozen 1
      have f2 := HZ.out.frozen 2
      have f3 := HZ.out.frozen 3
      clear HCR HRO HYA HJ hbx GJ
      generalize readJ c c.2.length = FF at *
      go_wp2_with fail
      refine bodyPost_ret (results_v4 rfl _ _ _ _ _ _ rfl ((((HZ.out.set0 (.bool (FF 0))).set1 (.bool (FF 1))).set2 (.bool (FF 2))).set3 (.bool (FF 3))).heap) rfl ?_
      exact ⟨by rw [← HA.out], set4_below HB.out (Nat.le_succ _) _ _ _ _⟩
end Go.Proofs.YtjbolpfilgkbfaaDoor

namespace Go.Proofs.YtjbolpfilgkbfaaDoor
open Go Go.RowKit
open M
set_option linter.unusedVariables false
set_option linter.unusedSimpArgs false

/-- how many operations have not come up -/
def undone (l : Array Bool) : Nat := (l.toList.filter (fun b => !b)).length
theorem filter_set : ∀ (l : List Bool) (i : Nat), l[i]? = some false → ((l.set i true).filter (fun b => !b)).length + 1 = (l.filter (fun b => !b)).length
  | [], i, h => by simp at h
  | x :: l, 0, h => by
    simp at h
    subst h
    simp
  | x :: l, i + 1, h => by
    have ih := filter_set l i (by simpa using h)
    cases x <;> simp [List.set, ih]
theorem undone_set {l : Array Bool} {i : Nat} (hi : l.getD i true = false) : undone (l.setIfInBounds i true) + 1 = undone l := by
  have h : l.toList[i]? = some false := by
    rw [Array.getElem?_toList]
    rw [Array.getD_eq_getD_getElem?] at hi
    cases e : l[i]? with
    | none => rw [e] at hi; simp at hi
    | some x => rw [e] at hi; simp at hi; rw [hi]
  unfold undone
  rw [Array.toList_setIfInBounds]
  exact filter_set l.toList i h
theorem wpAny_inv {P : Program} {md : Region.Mode} {ops : Array Oper} {Q : Exit → Act → World → Prop} (I : Array Bool → Act → World → Prop)
    (hdone : ∀ l a w, I l a w → Region.ready md ops l = [] → Q .normal a w) (hstep : ∀ l a w, I l a w → ∀ i ∈ Region.ready md ops l, wpOp P ops Q i (I (l.setIfInBounds i true)) a w) :
    ∀ (fuel : Nat) (l : Array Bool) (a : Act) (w : World), I l a w → undone l ≤ fuel → wpAny P md ops Q fuel l a w
  | 0, l, a, w, h, hu => by
    have hr : Region.ready md ops l = [] := by
      cases e : Region.ready md ops l with
      | nil => rfl
      | cons i r =>
        have hi : i ∈ Region.ready md ops l := by rw [e]; simp
        have := undone_set (mem_ready.1 hi).1
        omega
    exact ⟨hr, hdone l a w h hr⟩
  | fuel + 1, l, a, w, h, hu => ⟨hdone l a w h, fun i hi => wpOp_mono (fun a' w' h' => wpAny_inv I hdone hstep fuel _ a' w' h' (by have := undone_set (mem_ready.1 hi).1; omega)) (hstep l a w h i hi)⟩
theorem wpOp_run {P : Program} {ops : Array Oper} {Q : Exit → Act → World → Prop} {i : Nat} {o : Oper} {a : Act} {w : World} {K' : Act → World → Prop} (ho : ops[i]? = some o) (hg : o.guard = none)
    (h : ∀ K : Act → World → Prop, (∀ a w, K' a w → K a w) → o.wp P a w K Q) : wpOp P ops Q i K' a w := by
  unfold wpOp
  rw [ho]
  simp only
  rw [if_pos (by simp [Region.wanted, hg])]
  exact Or.inl (h K' (fun _ _ h => h))
theorem ready_none {md : Region.Mode} {ops : Array Oper} {l : Array Bool} (hr : Region.ready md ops l = []) (i : Nat) {o : Oper} (ho : ops[i]? = some o) (hl : l.getD i true = false) (hd : (o.after.toList.all fun e => l.getD e.on false) = true) : False := by
  have h : i ∈ Region.ready md ops l := mem_ready.2 ⟨hl, o, ho, fun e he _ => List.all_eq_true.1 hd e (Array.mem_def.1 he)⟩
  rw [hr] at h
  cases h
theorem ready_lt {md : Region.Mode} {ops : Array Oper} {l : Array Bool} {i : Nat} (hi : i ∈ Region.ready md ops l) : i < ops.size := by
  unfold Region.ready at hi
  rw [List.mem_filter, List.mem_range] at hi
  exact hi.1
theorem ready_dep {md : Region.Mode} {ops : Array Oper} {l : Array Bool} {i : Nat} {o : Oper} (hi : i ∈ Region.ready md ops l) (ho : ops[i]? = some o) : l.getD i true = false ∧ ∀ e ∈ o.after, Region.binds md e = true → l.getD e.on false = true := by
  obtain ⟨h1, o', h2, h3⟩ := mem_ready.1 hi
  rw [ho] at h2
  obtain rfl := Option.some.inj h2
  exact ⟨h1, h3⟩
structure RegD (W w' : World) (g7 i : Nat) (VV : Int) (l0 l1 l2 l3 l4 l5 l6 l7 l8 l9 l10 l11 l12 l13 l14 : Bool) (s0 s1 s2 s3 s4 s5 s6 s7 s8 s9 s10 s11 s12 s13 v0 v1 v2 v3 v4 v5 v6 v7 v8 v9 v10 v11 v12 v13 : Value) : Prop where
  (bel : l14 = false → Below W.heap.size W w')
  (fin : l14 = true → ∃ w4, Below W.heap.size W w4 ∧ w' = w4.setCell ⟨g7, i, none⟩ (.int .u64 VV))
  (all : l14 = true → l0 = true ∧ l1 = true ∧ l2 = true ∧ l3 = true ∧ l4 = true ∧ l5 = true ∧ l6 = true ∧ l7 = true ∧ l8 = true ∧ l9 = true ∧ l10 = true ∧ l11 = true ∧ l12 = true ∧ l13 = true)
  (d0 : l0 = true → s0 = v0 ∧ True)
  (d1 : l1 = true → s1 = v1 ∧ True)
  (d2 : l2 = true → s2 = v2 ∧ l1 = true)
  (d3 : l3 = true → s3 = v3 ∧ True)
  (d4 : l4 = true → s4 = v4 ∧ l3 = true)
  (d5 : l5 = true → s5 = v5 ∧ True)
  (d6 : l6 = true → s6 = v6 ∧ l5 = true)
  (d7 : l7 = true → s7 = v7 ∧ True)
  (d8 : l8 = true → s8 = v8 ∧ l7 = true)
  (d9 : l9 = true → s9 = v9 ∧ l8 = true)
  (d10 : l10 = true → s10 = v10 ∧ l9 = true)
  (d11 : l11 = true → s11 = v11 ∧ True)
  (d12 : l12 = true → s12 = v12 ∧ l4 = true ∧ l6 = true ∧ l10 = true ∧ l11 = true)
  (d13 : l13 = true → s13 = v13 ∧ l0 = true ∧ l2 = true)
end Go.Proofs.YtjbolpfilgkbfaaDoor

namespace Go.Proofs.YtjbolpfilgkbfaaDoor
open Go Go.RowKit
open M
set_option linter.unusedVariables false
set_option linter.unusedSimpArgs false

theorem wpOp_skip {P : Program} {ops : Array Oper} {Q : Exit → Act → World → Prop} {i : Nat} {o : Oper} {a : Act} {w : World} {K' : Act → World → Prop} (ho : ops[i]? = some o) (hw : Region.wanted o (yielded ops a.tmps) = false) (h : K' (a.put o.dst undef) w) : wpOp P ops Q i K' a w := by
  unfold wpOp
  rw [ho]
  simp only
  rw [if_neg (by rw [hw]; decide)]
  exact h
theorem wpOp_want {P : Program} {ops : Array Oper} {Q : Exit → Act → World → Prop} {i : Nat} {o : Oper} {a : Act} {w : World} {K' : Act → World → Prop} (ho : ops[i]? = some o) (hw : Region.wanted o (yielded ops a.tmps) = true)
    (h : ∀ K : Act → World → Prop, (∀ a w, K' a w → K a w) → o.wp P a w K Q) : wpOp P ops Q i K' a w := by
  unfold wpOp
  rw [ho]
  simp only
  rw [if_pos hw]
  exact Or.inl (h K' (fun _ _ h => h))
structure RegM (W w' : World) (cv dv rv wv : Value) (Q1 Q2 : Bool) (l0 l1 l2 l3 l4 l5 l6 l7 l8 l9 l10 : Bool) (s0 s1 s2 s3 s4 s5 s6 s7 s8 s9 s10 : Value) : Prop where
  (bel : Below W.heap.size W w')
  (d0 : l0 = true → s0 = cv ∧ True)
  (d1 : l1 = true → s1 = dv ∧ True)
  (d2 : l2 = true → s2 = rv ∧ l1 = true)
  (d3 : l3 = true → s3 = .bool Q1 ∧ l0 = true ∧ l2 = true)
  (d4 : l4 = true → s4 = .bool Q1 ∧ l3 = true)
  (d5 : l5 = true → (Q1 = false → s5 = cv) ∧ l4 = true)
  (d6 : l6 = true → (Q1 = false → s6 = dv) ∧ l4 = true)
  (d7 : l7 = true → (Q1 = false → s7 = wv) ∧ l6 = true ∧ l4 = true)
  (d8 : l8 = true → (Q1 = false → s8 = .bool Q2) ∧ l5 = true ∧ l7 = true ∧ l4 = true)
  (d9 : l9 = true → s9 = .bool (Q1 || Q2) ∧ l4 = true ∧ l8 = true)
  (d10 : l10 = true → s10 = .bool (Q1 || Q2) ∧ l9 = true)
theorem RegM.below {W w' w2 : World} {cv dv rv wv : Value} {Q1 Q2 : Bool} {l0 l1 l2 l3 l4 l5 l6 l7 l8 l9 l10 : Bool} {s0 s1 s2 s3 s4 s5 s6 s7 s8 s9 s10 : Value} (h : RegM W w' cv dv rv wv Q1 Q2 l0 l1 l2 l3 l4 l5 l6 l7 l8 l9 l10 s0 s1 s2 s3 s4 s5 s6 s7 s8 s9 s10) (hb : Below w'.heap.size w' w2) : RegM W w2 cv dv rv wv Q1 Q2 l0 l1 l2 l3 l4 l5 l6 l7 l8 l9 l10 s0 s1 s2 s3 s4 s5 s6 s7 s8 s9 s10 :=
  { bel := h.bel.trans (hb.mono h.bel.size), d0 := h.d0, d1 := h.d1, d2 := h.d2, d3 := h.d3, d4 := h.d4, d5 := h.d5, d6 := h.d6, d7 := h.d7, d8 := h.d8, d9 := h.d9, d10 := h.d10 }
end Go.Proofs.YtjbolpfilgkbfaaDoor

namespace Go.Proofs.YtjbolpfilgkbfaaDoor
open Go Go.RowKit
open M
set_option linter.unusedVariables false

/-- whether two of four truths meet ahead of a place -/
def meetJ (F G : Int → Bool) (j : Nat) : Bool := (List.range j).any (fun (i : Nat) => F i && G i)
def meetF (F G : Int → Bool) : Bool := meetJ F G 4
theorem meetJ_hit {F G : Int → Bool} {j : Nat} (hj : j < 4) (h : (F j && G j) = true) : meetF F G = true := by
  unfold meetF meetJ
  rw [List.any_eq_true]
  exact ⟨j, List.mem_range.2 hj, h⟩
theorem meetJ_miss {F G : Int → Bool} {j : Nat} (h0 : meetJ F G j = false) (h : (F j && G j) = false) : meetJ F G (j + 1) = false := by
  unfold meetJ at *
  rw [List.range_succ, List.any_append, h0]
  simp [h]
set_option maxRecDepth 100000 in
set_option maxHeartbeats 2000000 in
theorem meets_any (F G : Int → Bool) (w : World) :
    Calls Tryd.prog 115 #[aggB F, aggB G] w fun e w' => e = .returned (.bool (meetF F G)) ∧ Below w.heap.size w w' := by
  have HH : Hid (∀ j : Nat, j < 4 → (F j && G j) = true → meetF F G = true) := fun j hj h => meetJ_hit hj h
  have HM : Hid (∀ j : Nat, meetJ F G j = false → (F j && G j) = false → meetJ F G (j + 1) = false) := fun j h0 h => meetJ_miss h0 h
  have HE : Hid (meetJ F G 4 = meetF F G) := rfl
  have HB2 : Hid (Below w.heap.size w (w.alloc (.cells #[.bool (F 0), .bool (F 1), .bool (F 2), .bool (F 3)] 113))) := (Below.refl _ _).alloc (Nat.le_refl _) _
  have HB3 : Hid (Below w.heap.size w ((w.alloc (.cells #[.bool (F 0), .bool (F 1), .bool (F 2), .bool (F 3)] 113)).alloc (.cells #[.bool (G 0), .bool (G 1), .bool (G 2), .bool (G 3)] 113))) := ((Below.refl _ _).alloc (Nat.le_refl _) _).alloc (by rw [World.size_alloc]; omega) _
  have HO0 : Hid (Box4 ((w.alloc (.cells #[.bool (F 0), .bool (F 1), .bool (F 2), .bool (F 3)] 113)).alloc (.cells #[.bool (G 0), .bool (G 1), .bool (G 2), .bool (G 3)] 113)) (w.heap.size + 1) 113 (.bool (G 0)) (.bool (G 1)) (.bool (G 2)) (.bool (G 3))) := by
    have x := box4_alloc (w.alloc (.cells #[.bool (F 0), .bool (F 1), .bool (F 2), .bool (F 3)] 113)) 113 (.bool (G 0)) (.bool (G 1)) (.bool (G 2)) (.bool (G 3))
    simp only [World.size_alloc] at x
    exact x
  go_enter Tryd.func115, Tryd.ntmps115
  go_wp2_with fail
  go_loopw [8] (fun i wr => ∃ j : Nat, j ≤ 4 ∧ i = .int .i64 j ∧ Hid (meetJ F G j = false) ∧ Hid (Box4 wr (w.heap.size + 1) 113 (.bool (G 0)) (.bool (G 1)) (.bool (G 2)) (.bool (G 3))) ∧ Hid (Below w.heap.size w wr)) (fun i _ => 4 - (intOf i).toNat)
  case atStart => exact ⟨0, by omega, rfl, rfl, HO0, HB3⟩
  case round =>
    obtain ⟨j, hj, rfl, HJ, HO, HB⟩ := hrel
    clear HO0 HB2 HB3
    by_cases hlt' : j < 4
    · obtain ⟨o0, o1, o2, o3⟩ := HO.out.cells
      have ol := HO.out.lt
      have oh := HO.out.heap
      rcases (show j = 0 ∨ j = 1 ∨ j = 2 ∨ j = 3 by omega) with rfl | rfl | rfl | rfl
      · have ix := index4_0
        have hh := HH.out 0 (by omega)
        have hm := HM.out 0 HJ.out
        change ((F 0 && G 0) = true → _) at hh
        change ((F 0 && G 0) = false → _) at hm
        cases hF : F 0 with
        | false =>
          rw [hF] at hm
          have HN : Hid (meetJ F G 1 = false) := hm rfl
          clear hh hm HH HM
          go_wp2_with fail
          go_roundw
          case rel => exact ⟨1, by omega, by go_num, HN, HO, HB⟩
          case measure => simp [intOf]
        | true =>
          rw [hF] at hh hm
          rcases Bool.eq_false_or_eq_true (G 0) with hG | hG
          case inr =>
            rw [hG] at hm
            have HN : Hid (meetJ F G 1 = false) := hm rfl
            rw [hG] at o0
            clear hh hm HH HM
            go_wp2_with fail
            go_roundw
            case rel => exact ⟨1, by omega, by go_num, HN, HO, HB⟩
            case measure => simp [intOf]
          case inl =>
            rw [hG] at hh
            have HN : Hid (meetF F G = true) := hh rfl
            rw [hG] at o0
            clear hh hm HH HM
            go_wp2_with fail
            go_ret
            exact ⟨ret_bool HN.out.symm, HB.out⟩
      · have ix := index4_1
        have hh := HH.out 1 (by omega)
        have hm := HM.out 1 HJ.out
        change ((F 1 && G 1) = true → _) at hh
        change ((F 1 && G 1) = false → _) at hm
        cases hF : F 1 with
        | false =>
          rw [hF] at hm
          have HN : Hid (meetJ F G 2 = false) := hm rfl
          clear hh hm HH HM
          go_wp2_with fail
          go_roundw
          case rel => exact ⟨2, by omega, by go_num, HN, HO, HB⟩
          case measure => simp [intOf]
        | true =>
          rw [hF] at hh hm
          rcases Bool.eq_false_or_eq_true (G 1) with hG | hG
          case inr =>
            rw [hG] at hm
            have HN : Hid (meetJ F G 2 = false) := hm rfl
            rw [hG] at o1
            clear hh hm HH HM
            go_wp2_with fail
            go_roundw
            case rel => exact ⟨2, by omega, by go_num, HN, HO, HB⟩
            case measure => simp [intOf]
          case inl =>
            rw [hG] at hh
            have HN : Hid (meetF F G = true) := hh rfl
            rw [hG] at o1
            clear hh hm HH HM
            go_wp2_with fail
            go_ret
            exact ⟨ret_bool HN.out.symm, HB.out⟩
      · have ix := index4_2
        have hh := HH.out 2 (by omega)
        have hm := HM.out 2 HJ.out
        change ((F 2 && G 2) = true → _) at hh
        change ((F 2 && G 2) = false → _) at hm
        cases hF : F 2 with
        | false =>
          rw [hF] at hm
          have HN : Hid (meetJ F G 3 = false) := hm rfl
          clear hh hm HH HM
          go_wp2_with fail
          go_roundw
          case rel => exact ⟨3, by omega, by go_num, HN, HO, HB⟩
          case measure => simp [intOf]
        | true =>
          rw [hF] at hh hm
          rcases Bool.eq_false_or_eq_true (G 2) with hG | hG
          case inr =>
            rw [hG] at hm
            have HN : Hid (meetJ F G 3 = false) := hm rfl
            rw [hG] at o2
            clear hh hm HH HM
            go_wp2_with fail
            go_roundw
            case rel => exact ⟨3, by omega, by go_num, HN, HO, HB⟩
            case measure => simp [intOf]
          case inl =>
            rw [hG] at hh
            have HN : Hid (meetF F G = true) := hh rfl
            rw [hG] at o2
            clear hh hm HH HM
            go_wp2_with fail
            go_ret
            exact ⟨ret_bool HN.out.symm, HB.out⟩
      · have ix := index4_3
        have hh := HH.out 3 (by omega)
        have hm := HM.out 3 HJ.out
        change ((F 3 && G 3) = true → _) at hh
        change ((F 3 && G 3) = false → _) at hm
        cases hF : F 3 with
        | false =>
          rw [hF] at hm
          have HN : Hid (meetJ F G 4 = false) := hm rfl
          clear hh hm HH HM
          go_wp2_with fail
          go_roundw
          case rel => exact ⟨4, by omega, by go_num, HN, HO, HB⟩
          case measure => simp [intOf]
        | true =>
          rw [hF] at hh hm
          rcases Bool.eq_false_or_eq_true (G 3) with hG | hG
          case inr =>
            rw [hG] at hm
            have HN : Hid (meetJ F G 4 = false) := hm rfl
            rw [hG] at o3
            clear hh hm HH HM
            go_wp2_with fail
            go_roundw
            case rel => exact ⟨4, by omega, by go_num, HN, HO, HB⟩
            case measure => simp [intOf]
          case inl =>
            rw [hG] at hh
            have HN : Hid (meetF F G = true) := hh rfl
            rw [hG] at o3
            clear hh hm HH HM
            go_wp2_with fail
            go_ret
            exact ⟨ret_bool HN.out.symm, HB.out⟩
    · obtain rfl : j = 4 := by omega
      have HN : Hid (meetF F G = false) := HE.out.symm.trans HJ.out
      clear HH HM HE HJ
      go_wp2_with fail
      go_ret
      exact ⟨ret_bool HN.out.symm, HB.out⟩
def distB (c d : Cm) : Bool := meetF (changeF c) (readF d) || meetF (changeF c) (changeF d)
set_option maxRecDepth 100000 in
set_option maxHeartbeats 4000000 in
theorem disturbs_any (c d : Cm) (okd : CmOk d) (wide vars : Int) (x y u v : Value) (hv1 : 1 ≤ vars) (hv4 : vars ≤ 4) (hch : chsB wide vars 0 c.2 = true) (hdh : chsB wide vars 0 d.2 = true) (w : World) (hc : CmEl w (Old w) wide vars c x y) (hd : CmEl w (Old w) wide vars d u v) :
    Calls Tryd.prog 77 #[.agg #[x, y], .agg #[u, v]] w fun e w' => e = .returned (.bool (distB c d)) ∧ Below w.heap.size w w' := by
  have GC : Hid (∀ w1 : World, Below w.heap.size w w1 → Calls Tryd.prog 73 #[.agg #[x, y]] w1 fun e w' => e = .returned (aggB (changeF c)) ∧ Below w1.heap.size w1 w') := fun w1 hb => changed_any c wide vars x y hv1 hv4 hch w1 (hc.frame hb.size (fun i hi => Nat.lt_of_lt_of_le hi hb.size) (fun i hi => hb.block i hi))
  have GD : Hid (∀ w1 : World, Below w.heap.size w w1 → Calls Tryd.prog 73 #[.agg #[u, v]] w1 fun e w' => e = .returned (aggB (changeF d)) ∧ Below w1.heap.size w1 w') := fun w1 hb => changed_any d wide vars u v hv1 hv4 hdh w1 (hd.frame hb.size (fun i hi => Nat.lt_of_lt_of_le hi hb.size) (fun i hi => hb.block i hi))
  have GR : Hid (∀ w1 : World, Below w.heap.size w w1 → Calls Tryd.prog 71 #[.agg #[u, v]] w1 fun e w' => e = .returned (aggB (readF d)) ∧ Below w1.heap.size w1 w') := fun w1 hb => read_any d okd wide vars u v hv1 hv4 hdh w1 (hd.frame hb.size (fun i hi => Nat.lt_of_lt_of_le hi hb.size) (fun i hi => hb.block i hi))
  have GM : Hid (∀ (F G : Int → Bool) (w1 : World), Calls Tryd.prog 115 #[aggB F, aggB G] w1 fun e w' => e = .returned (.bool (meetF F G)) ∧ Below w1.heap.size w1 w') := meets_any
  obtain ⟨_, xb, rfl, _⟩ := hc.1
  obtain ⟨_, ub, rfl, _⟩ := hd.1
  obtain ⟨ya, yn, yc, rfl⟩ : ∃ a n cc, y = .slice a n cc := by
    rcases hc.2 with ⟨e, rfl⟩ | ⟨g, cap, rfl, _⟩
    · exact ⟨_, _, _, rfl⟩
    · exact ⟨_, _, _, rfl⟩
  obtain ⟨va, vn, vc, rfl⟩ : ∃ a n cc, v = .slice a n cc := by
    rcases hd.2 with ⟨e, rfl⟩ | ⟨g, cap, rfl, _⟩
    · exact ⟨_, _, _, rfl⟩
    · exact ⟨_, _, _, rfl⟩
  clear hc hd hch hdh okd
  have HQ : Hid (distB c d = (meetF (changeF c) (readF d) || meetF (changeF c) (changeF d))) := rfl
  have GM1 : Hid (∀ w1 : World, Calls Tryd.prog 115 #[aggB (changeF c), aggB (readF d)] w1 fun e w' => e = .returned (.bool (meetF (changeF c) (readF d))) ∧ Below w1.heap.size w1 w') := GM.out _ _
  have GM2 : Hid (∀ w1 : World, Calls Tryd.prog 115 #[aggB (changeF c), aggB (changeF d)] w1 fun e w' => e = .returned (.bool (meetF (changeF c) (changeF d))) ∧ Below w1.heap.size w1 w') := GM.out _ _
  clear GM
  rw [HQ.out]
  clear HQ
  generalize meetF (changeF c) (readF d) = Q1 at *
  generalize meetF (changeF c) (changeF d) = Q2 at *
  generalize changeF c = CF at *
  generalize changeF d = WF at *
  generalize readF d = RF at *
  have HBA : Hid (Below w.heap.size w ((w.alloc (.cells #[ptr xb, .slice ya yn yc] 108)).alloc (.cells #[ptr ub, .slice va vn vc] 108))) := ((Below.refl _ _).alloc (Nat.le_refl _) _).alloc (by rw [World.size_alloc]; omega) _
  have kd := box2_alloc (w.alloc (.cells #[ptr xb, .slice ya yn yc] 108)) 108 (ptr ub) (.slice va vn vc)
  have kc := (box2_alloc w 108 (ptr xb) (.slice ya yn yc)).alloc (.cells #[ptr ub, .slice va vn vc] 108)
  simp only [World.size_alloc] at kd
  have HKD : Hid _ := kd
  obtain ⟨c0, c1⟩ := kc.cells
  have ch := kc.heap
  have cl := kc.lt
  have g1 := GC.out _ HBA.out
  clear kd kc GC
  go_enter Tryd.func77, Tryd.ntmps77
  go_wp2_with fail
  refine g1.mono ?_
  generalize (w.alloc (.cells #[ptr xb, .slice ya yn yc] 108)).alloc (.cells #[ptr ub, .slice va vn vc] 108) = w0 at *
  rintro e w1 ⟨rfl, hs1⟩
  have HB1 : Hid (Below w.heap.size w w1) := HBA.out.trans (hs1.mono HBA.out.size)
  have x1 := HKD.out.below hs1 HKD.out.lt
  have hz9 := HBA.out.size
  have hz1 := hs1.size
  have hz2 := HKD.out.lt
  have HBD : Hid (Below w.heap.size w (w1.alloc (.cells #[.bool (CF 0), .bool (CF 1), .bool (CF 2), .bool (CF 3)] 113)).drew) := (HB1.out.alloc HB1.out.size _).drew
  have hk := x1.alloc (.cells #[.bool (CF 0), .bool (CF 1), .bool (CF 2), .bool (CF 3)] 113)
  have HK : Hid (Box2 (w1.alloc (.cells #[.bool (CF 0), .bool (CF 1), .bool (CF 2), .bool (CF 3)] 113)).drew (w.heap.size + 1) 108 (ptr ub) (.slice va vn vc)) := ⟨hk.heap⟩
  have hv := box4_alloc w1 113 (.bool (CF 0)) (.bool (CF 1)) (.bool (CF 2)) (.bool (CF 3))
  have HCH : Hid (Box4 (w1.alloc (.cells #[.bool (CF 0), .bool (CF 1), .bool (CF 2), .bool (CF 3)] 113)).drew w1.heap.size 113 (.bool (CF 0)) (.bool (CF 1)) (.bool (CF 2)) (.bool (CF 3))) := ⟨hv.heap⟩
  clear g1 hs1 x1 hk hv HKD HBA HB1 hz9 hz1 hz2 c0 c1 ch cl
  go_wp2_with fail
  refine wp_region_any (by kernel_rfl) ?_
  change wpAny _ _ _ _ _ _ _ (World.drew _)
  refine wpAny_inv (fun l a w' => ∃ (l0 l1 l2 l3 l4 l5 l6 l7 l8 l9 l10 : Bool) (s0 s1 s2 s3 s4 s5 s6 s7 s8 s9 s10 : Value), l = #[l0, l1, l2, l3, l4, l5, l6, l7, l8, l9, l10] ∧ a = { tmps := (.agg #[ptr xb, .slice ya yn yc] :: .agg #[ptr ub, .slice va vn vc] :: .pointer (some ⟨w.heap.size, 0, none⟩) :: .pointer (some ⟨w.heap.size + 1, 0, none⟩) :: s10 :: .pointer (some ⟨w1.heap.size, 0, none⟩) :: .agg #[ptr xb, .slice ya yn yc] :: .agg #[.bool (CF 0), .bool (CF 1), .bool (CF 2), .bool (CF 3)] :: s0 :: s1 :: s2 :: s3 :: s4 :: s5 :: s6 :: s7 :: s8 :: s9 :: ([] : List Value)).toArray, defers := [] } ∧ RegM (w1.alloc (.cells #[.bool (CF 0), .bool (CF 1), .bool (CF 2), .bool (CF 3)] 113)).drew w' (.agg #[.bool (CF 0), .bool (CF 1), .bool (CF 2), .bool (CF 3)]) (.agg #[ptr ub, .slice va vn vc]) (.agg #[.bool (RF 0), .bool (RF 1), .bool (RF 2), .bool (RF 3)]) (.agg #[.bool (WF 0), .bool (WF 1), .bool (WF 2), .bool (WF 3)]) Q1 Q2 l0 l1 l2 l3 l4 l5 l6 l7 l8 l9 l10 s0 s1 s2 s3 s4 s5 s6 s7 s8 s9 s10) ?done ?step 11 _ _ _ ⟨false, false, false, false, false, false, false, false, false, false, false, _, _, _, _, _, _, _, _, _, _, _, rfl, rfl, ?init⟩ (by decide)
  case init => exact { bel := Below.refl _ _, d0 := fun e => (by cases e), d1 := fun e => (by cases e), d2 := fun e => (by cases e), d3 := fun e => (by cases e), d4 := fun e => (by cases e), d5 := fun e => (by cases e), d6 := fun e => (by cases e), d7 := fun e => (by cases e), d8 := fun e => (by cases e), d9 := fun e => (by cases e), d10 := fun e => (by cases e) }
  case step =>
    rintro l a w3 ⟨l0, l1, l2, l3, l4, l5, l6, l7, l8, l9, l10, s0, s1, s2, s3, s4, s5, s6, s7, s8, s9, s10, rfl, rfl, h⟩
    intro q hq
    have hlt9 := ready_lt hq
    match q, hq, hlt9 with
    | 0, hq, _ =>
      have hr := ready_dep hq rfl
      have hme : l0 = false := hr.1
      clear hr hq
      obtain ⟨k0, k1, k2, k3⟩ := (HCH.out.below h.bel HCH.out.lt).cells
      have kh := (HCH.out.below h.bel HCH.out.lt).heap
      have kl := (HCH.out.below h.bel HCH.out.lt).lt
      refine wpOp_run rfl rfl (fun K hK => ?_)
      go_simp
      refine hK _ _ ⟨true, l1, l2, l3, l4, l5, l6, l7, l8, l9, l10, _, _, _, _, _, _, _, _, _, _, _, rfl, rfl, ?_⟩
      exact { bel := h.bel, d0 := fun _ => ⟨rfl, trivial⟩, d1 := h.d1, d2 := h.d2, d3 := fun e => absurd (h.d3 e).2.1 (by rw [hme]; decide), d4 := h.d4, d5 := h.d5, d6 := h.d6, d7 := h.d7, d8 := h.d8, d9 := h.d9, d10 := h.d10 }
    | 1, hq, _ =>
      have hr := ready_dep hq rfl
      have hme : l1 = false := hr.1
      clear hr hq
      obtain ⟨k0, k1⟩ := (HK.out.below h.bel HK.out.lt).cells
      have kh := (HK.out.below h.bel HK.out.lt).heap
      have kl := (HK.out.below h.bel HK.out.lt).lt
      refine wpOp_run rfl rfl (fun K hK => ?_)
      go_simp
      refine hK _ _ ⟨l0, true, l2, l3, l4, l5, l6, l7, l8, l9, l10, _, _, _, _, _, _, _, _, _, _, _, rfl, rfl, ?_⟩
      exact { bel := h.bel, d0 := h.d0, d1 := fun _ => ⟨rfl, trivial⟩, d2 := fun e => absurd (h.d2 e).2 (by rw [hme]; decide), d3 := h.d3, d4 := h.d4, d5 := h.d5, d6 := h.d6, d7 := h.d7, d8 := h.d8, d9 := h.d9, d10 := h.d10 }
    | 2, hq, _ =>
      have hr := ready_dep hq rfl
      have hme : l2 = false := hr.1
      have e1 : l1 = true := hr.2 ⟨1, .data⟩ (by simp) (by kernel_rfl)
      clear hr hq
      obtain rfl := (h.d1 e1).1
      refine wpOp_run rfl rfl (fun K hK => ?_)
      go_simp
      go_at_call 71
      refine Calls.mono (GR.out w3 (HBD.out.trans (h.bel.mono HBD.out.size))) ?_
      rintro e w4 ⟨rfl, hs4⟩
      have h4 := h.below hs4
      refine hK _ _ ⟨l0, l1, true, l3, l4, l5, l6, l7, l8, l9, l10, _, _, _, _, _, _, _, _, _, _, _, rfl, rfl, ?_⟩
      exact { bel := h4.bel, d0 := h4.d0, d1 := h4.d1, d2 := fun _ => ⟨rfl, e1⟩, d3 := fun e => absurd (h4.d3 e).2.2 (by rw [hme]; decide), d4 := h4.d4, d5 := h4.d5, d6 := h4.d6, d7 := h4.d7, d8 := h4.d8, d9 := h4.d9, d10 := h4.d10 }
    | 3, hq, _ =>
      have hr := ready_dep hq rfl
      have hme : l3 = false := hr.1
      have e0 : l0 = true := hr.2 ⟨0, .data⟩ (by simp) (by kernel_rfl)
      have e2 : l2 = true := hr.2 ⟨2, .data⟩ (by simp) (by kernel_rfl)
      clear hr hq
      obtain rfl := (h.d0 e0).1
      obtain rfl := (h.d2 e2).1
      refine wpOp_run rfl rfl (fun K hK => ?_)
      go_simp
      go_at_call 115
      refine Calls.mono (GM1.out w3) ?_
      rintro e w4 ⟨rfl, hs4⟩
      have h4 := h.below hs4
      refine hK _ _ ⟨l0, l1, l2, true, l4, l5, l6, l7, l8, l9, l10, _, _, _, _, _, _, _, _, _, _, _, rfl, rfl, ?_⟩
      exact { bel := h4.bel, d0 := h4.d0, d1 := h4.d1, d2 := h4.d2, d3 := fun _ => ⟨rfl, e0, e2⟩, d4 := fun e => absurd (h4.d4 e).2 (by rw [hme]; decide), d5 := h4.d5, d6 := h4.d6, d7 := h4.d7, d8 := h4.d8, d9 := h4.d9, d10 := h4.d10 }
    | 4, hq, _ =>
      have hr := ready_dep hq rfl
      have hme : l4 = false := hr.1
      have e3 : l3 = true := hr.2 ⟨3, .data⟩ (by simp) (by kernel_rfl)
      clear hr hq
      obtain rfl := (h.d3 e3).1
      refine wpOp_run rfl rfl (fun K hK => ?_)
      go_simp
      refine hK _ _ ⟨l0, l1, l2, l3, true, l5, l6, l7, l8, l9, l10, _, _, _, _, _, _, _, _, _, _, _, rfl, rfl, ?_⟩
      exact { bel := h.bel, d0 := h.d0, d1 := h.d1, d2 := h.d2, d3 := h.d3, d4 := fun _ => ⟨rfl, e3⟩, d5 := fun e => absurd (h.d5 e).2 (by rw [hme]; decide), d6 := fun e => absurd (h.d6 e).2 (by rw [hme]; decide), d7 := fun e => absurd (h.d7 e).2.2 (by rw [hme]; decide), d8 := fun e => absurd (h.d8 e).2.2.2 (by rw [hme]; decide), d9 := fun e => absurd (h.d9 e).2.1 (by rw [hme]; decide), d10 := h.d10 }
    | 5, hq, _ =>
      have hr := ready_dep hq rfl
      have hme : l5 = false := hr.1
      have e4 : l4 = true := hr.2 ⟨4, .guard⟩ (by simp) (by kernel_rfl)
      clear hr hq
      obtain rfl := (h.d4 e4).1
      cases Q1 with
      | true =>
        refine wpOp_skip rfl rfl ?_
        refine ⟨l0, l1, l2, l3, l4, true, l6, l7, l8, l9, l10, _, _, _, _, _, _, _, _, _, _, _, rfl, rfl, ?_⟩
        exact { bel := h.bel, d0 := h.d0, d1 := h.d1, d2 := h.d2, d3 := h.d3, d4 := h.d4, d5 := fun _ => ⟨fun e => (by cases e), e4⟩, d6 := h.d6, d7 := h.d7, d8 := fun e => absurd (h.d8 e).2.1 (by rw [hme]; decide), d9 := h.d9, d10 := h.d10 }
      | false =>
        obtain ⟨k0, k1, k2, k3⟩ := (HCH.out.below h.bel HCH.out.lt).cells
        have kh := (HCH.out.below h.bel HCH.out.lt).heap
        have kl := (HCH.out.below h.bel HCH.out.lt).lt
        refine wpOp_want rfl rfl (fun K hK => ?_)
        go_simp
        refine hK _ _ ⟨l0, l1, l2, l3, l4, true, l6, l7, l8, l9, l10, _, _, _, _, _, _, _, _, _, _, _, rfl, rfl, ?_⟩
        exact { bel := h.bel, d0 := h.d0, d1 := h.d1, d2 := h.d2, d3 := h.d3, d4 := h.d4, d5 := fun _ => ⟨fun _ => rfl, e4⟩, d6 := h.d6, d7 := h.d7, d8 := fun e => absurd (h.d8 e).2.1 (by rw [hme]; decide), d9 := h.d9, d10 := h.d10 }
    | 6, hq, _ =>
      have hr := ready_dep hq rfl
      have hme : l6 = false := hr.1
      have e4 : l4 = true := hr.2 ⟨4, .guard⟩ (by simp) (by kernel_rfl)
      clear hr hq
      obtain rfl := (h.d4 e4).1
      cases Q1 with
      | true =>
        refine wpOp_skip rfl rfl ?_
        refine ⟨l0, l1, l2, l3, l4, l5, true, l7, l8, l9, l10, _, _, _, _, _, _, _, _, _, _, _, rfl, rfl, ?_⟩
        exact { bel := h.bel, d0 := h.d0, d1 := h.d1, d2 := h.d2, d3 := h.d3, d4 := h.d4, d5 := h.d5, d6 := fun _ => ⟨fun e => (by cases e), e4⟩, d7 := fun e => absurd (h.d7 e).2.1 (by rw [hme]; decide), d8 := h.d8, d9 := h.d9, d10 := h.d10 }
      | false =>
        obtain ⟨k0, k1⟩ := (HK.out.below h.bel HK.out.lt).cells
        have kh := (HK.out.below h.bel HK.out.lt).heap
        have kl := (HK.out.below h.bel HK.out.lt).lt
        refine wpOp_want rfl rfl (fun K hK => ?_)
        go_simp
        refine hK _ _ ⟨l0, l1, l2, l3, l4, l5, true, l7, l8, l9, l10, _, _, _, _, _, _, _, _, _, _, _, rfl, rfl, ?_⟩
        exact { bel := h.bel, d0 := h.d0, d1 := h.d1, d2 := h.d2, d3 := h.d3, d4 := h.d4, d5 := h.d5, d6 := fun _ => ⟨fun _ => rfl, e4⟩, d7 := fun e => absurd (h.d7 e).2.1 (by rw [hme]; decide), d8 := h.d8, d9 := h.d9, d10 := h.d10 }
    | 7, hq, _ =>
      have hr := ready_dep hq rfl
      have hme : l7 = false := hr.1
      have e6 : l6 = true := hr.2 ⟨6, .data⟩ (by simp) (by kernel_rfl)
      have e4 : l4 = true := hr.2 ⟨4, .guard⟩ (by simp) (by kernel_rfl)
      clear hr hq
      obtain rfl := (h.d4 e4).1
      cases Q1 with
      | true =>
        refine wpOp_skip rfl rfl ?_
        refine ⟨l0, l1, l2, l3, l4, l5, l6, true, l8, l9, l10, _, _, _, _, _, _, _, _, _, _, _, rfl, rfl, ?_⟩
        exact { bel := h.bel, d0 := h.d0, d1 := h.d1, d2 := h.d2, d3 := h.d3, d4 := h.d4, d5 := h.d5, d6 := h.d6, d7 := fun _ => ⟨fun e => (by cases e), e6, e4⟩, d8 := fun e => absurd (h.d8 e).2.2.1 (by rw [hme]; decide), d9 := h.d9, d10 := h.d10 }
      | false =>
        obtain rfl := (h.d6 e6).1 rfl
        refine wpOp_want rfl rfl (fun K hK => ?_)
        go_simp
        go_at_call 73
        refine Calls.mono (GD.out w3 (HBD.out.trans (h.bel.mono HBD.out.size))) ?_
        rintro e w4 ⟨rfl, hs4⟩
        have h4 := h.below hs4
        refine hK _ _ ⟨l0, l1, l2, l3, l4, l5, l6, true, l8, l9, l10, _, _, _, _, _, _, _, _, _, _, _, rfl, rfl, ?_⟩
        exact { bel := h4.bel, d0 := h4.d0, d1 := h4.d1, d2 := h4.d2, d3 := h4.d3, d4 := h4.d4, d5 := h4.d5, d6 := h4.d6, d7 := fun _ => ⟨fun _ => rfl, e6, e4⟩, d8 := fun e => absurd (h4.d8 e).2.2.1 (by rw [hme]; decide), d9 := h4.d9, d10 := h4.d10 }
    | 8, hq, _ =>
      have hr := ready_dep hq rfl
      have hme : l8 = false := hr.1
      have e5 : l5 = true := hr.2 ⟨5, .data⟩ (by simp) (by kernel_rfl)
      have e7 : l7 = true := hr.2 ⟨7, .data⟩ (by simp) (by kernel_rfl)
      have e4 : l4 = true := hr.2 ⟨4, .guard⟩ (by simp) (by kernel_rfl)
      clear hr hq
      obtain rfl := (h.d4 e4).1
      cases Q1 with
      | true =>
        refine wpOp_skip rfl rfl ?_
        refine ⟨l0, l1, l2, l3, l4, l5, l6, l7, true, l9, l10, _, _, _, _, _, _, _, _, _, _, _, rfl, rfl, ?_⟩
        exact { bel := h.bel, d0 := h.d0, d1 := h.d1, d2 := h.d2, d3 := h.d3, d4 := h.d4, d5 := h.d5, d6 := h.d6, d7 := h.d7, d8 := fun _ => ⟨fun e => (by cases e), e5, e7, e4⟩, d9 := fun e => absurd (h.d9 e).2.2 (by rw [hme]; decide), d10 := h.d10 }
      | false =>
        obtain rfl := (h.d5 e5).1 rfl
        obtain rfl := (h.d7 e7).1 rfl
        refine wpOp_want rfl rfl (fun K hK => ?_)
        go_simp
        go_at_call 115
        refine Calls.mono (GM2.out w3) ?_
        rintro e w4 ⟨rfl, hs4⟩
        have h4 := h.below hs4
        refine hK _ _ ⟨l0, l1, l2, l3, l4, l5, l6, l7, true, l9, l10, _, _, _, _, _, _, _, _, _, _, _, rfl, rfl, ?_⟩
        exact { bel := h4.bel, d0 := h4.d0, d1 := h4.d1, d2 := h4.d2, d3 := h4.d3, d4 := h4.d4, d5 := h4.d5, d6 := h4.d6, d7 := h4.d7, d8 := fun _ => ⟨fun _ => rfl, e5, e7, e4⟩, d9 := fun e => absurd (h4.d9 e).2.2 (by rw [hme]; decide), d10 := h4.d10 }
    | 9, hq, _ =>
      have hr := ready_dep hq rfl
      have hme : l9 = false := hr.1
      have e4 : l4 = true := hr.2 ⟨4, .data⟩ (by simp) (by kernel_rfl)
      have e8 : l8 = true := hr.2 ⟨8, .data⟩ (by simp) (by kernel_rfl)
      clear hr hq
      obtain rfl := (h.d4 e4).1
      cases Q1 with
      | true =>
        refine wpOp_run rfl rfl (fun K hK => ?_)
        go_simp
        refine hK _ _ ⟨l0, l1, l2, l3, l4, l5, l6, l7, l8, true, l10, _, _, _, _, _, _, _, _, _, _, _, rfl, rfl, ?_⟩
        exact { bel := h.bel, d0 := h.d0, d1 := h.d1, d2 := h.d2, d3 := h.d3, d4 := h.d4, d5 := h.d5, d6 := h.d6, d7 := h.d7, d8 := h.d8, d9 := fun _ => ⟨rfl, e4, e8⟩, d10 := fun e => absurd (h.d10 e).2 (by rw [hme]; decide) }
      | false =>
        obtain rfl := (h.d8 e8).1 rfl
        refine wpOp_run rfl rfl (fun K hK => ?_)
        go_simp
        refine hK _ _ ⟨l0, l1, l2, l3, l4, l5, l6, l7, l8, true, l10, _, _, _, _, _, _, _, _, _, _, _, rfl, rfl, ?_⟩
        exact { bel := h.bel, d0 := h.d0, d1 := h.d1, d2 := h.d2, d3 := h.d3, d4 := h.d4, d5 := h.d5, d6 := h.d6, d7 := h.d7, d8 := h.d8, d9 := fun _ => ⟨rfl, e4, e8⟩, d10 := fun e => absurd (h.d10 e).2 (by rw [hme]; decide) }
    | 10, hq, _ =>
      have hr := ready_dep hq rfl
      have hme : l10 = false := hr.1
      have e9 : l9 = true := hr.2 ⟨9, .data⟩ (by simp) (by kernel_rfl)
      clear hr hq
      obtain rfl := (h.d9 e9).1
      refine wpOp_run rfl rfl (fun K hK => ?_)
      go_simp
      refine hK _ _ ⟨l0, l1, l2, l3, l4, l5, l6, l7, l8, l9, true, _, _, _, _, _, _, _, _, _, _, _, rfl, rfl, ?_⟩
      exact { bel := h.bel, d0 := h.d0, d1 := h.d1, d2 := h.d2, d3 := h.d3, d4 := h.d4, d5 := h.d5, d6 := h.d6, d7 := h.d7, d8 := h.d8, d9 := h.d9, d10 := fun _ => ⟨rfl, e9⟩ }
  case done =>
    rintro l a w3 ⟨l0, l1, l2, l3, l4, l5, l6, l7, l8, l9, l10, s0, s1, s2, s3, s4, s5, s6, s7, s8, s9, s10, rfl, rfl, h⟩ hr
    cases l0
    · exact (ready_none hr 0 rfl rfl rfl).elim
    cases l1
    · exact (ready_none hr 1 rfl rfl rfl).elim
    cases l2
    · exact (ready_none hr 2 rfl rfl rfl).elim
    cases l3
    · exact (ready_none hr 3 rfl rfl rfl).elim
    cases l4
    · exact (ready_none hr 4 rfl rfl rfl).elim
    cases l5
    · exact (ready_none hr 5 rfl rfl rfl).elim
    cases l6
    · exact (ready_none hr 6 rfl rfl rfl).elim
    cases l7
    · exact (ready_none hr 7 rfl rfl rfl).elim
    cases l8
    · exact (ready_none hr 8 rfl rfl rfl).elim
    cases l9
    · exact (ready_none hr 9 rfl rfl rfl).elim
    cases l10
    · exact (ready_none hr 10 rfl rfl rfl).elim
    have HB3E := h.bel
    obtain rfl := (h.d10 rfl).1
    have HBE : Hid (Below w.heap.size w w3) := HBD.out.trans (HB3E.mono HBD.out.size)
    clear hr h HB3E
    go_wp2_with fail
    go_ret
    exact ⟨rfl, HBE.out⟩
end Go.Proofs.YtjbolpfilgkbfaaDoor

namespace Go.Proofs.YtjbolpfilgkbfaaDoor
open Go Go.RowKit
open M
set_option linter.unusedVariables false

structure RegT (W w' : World) (cv rv wv : Value) (lr lw : List Int) (l0 l1 l2 l3 l4 l5 l6 l7 l8 : Bool) (s0 s1 s2 s3 s4 s5 s6 s7 s8 : Value) : Prop where
  (bel : Below W.heap.size W w')
  (d0 : l0 = true → s0 = cv ∧ True)
  (d1 : l1 = true → s1 = rv ∧ l0 = true)
  (d2 : l2 = true → OwnInts w' W.heap.size s2 lr ∧ l1 = true)
  (d3 : l3 = true → s3 = cv ∧ True)
  (d4 : l4 = true → s4 = wv ∧ l3 = true)
  (d5 : l5 = true → OwnInts w' W.heap.size s5 lw ∧ l4 = true)
  (d6 : l6 = true → s6 = s2 ∧ l2 = true)
  (d7 : l7 = true → s7 = s5 ∧ l5 = true)
  (d8 : l8 = true → s8 = .bool true ∧ True)
  (ap : l2 = true → l5 = true → Ap2 s2 s5)
theorem RegT.below {W w' w2 : World} {cv rv wv : Value} {lr lw : List Int} {l0 l1 l2 l3 l4 l5 l6 l7 l8 : Bool} {s0 s1 s2 s3 s4 s5 s6 s7 s8 : Value} (h : RegT W w' cv rv wv lr lw l0 l1 l2 l3 l4 l5 l6 l7 l8 s0 s1 s2 s3 s4 s5 s6 s7 s8) (hb : Below w'.heap.size w' w2) : RegT W w2 cv rv wv lr lw l0 l1 l2 l3 l4 l5 l6 l7 l8 s0 s1 s2 s3 s4 s5 s6 s7 s8 :=
  { bel := h.bel.trans (hb.mono h.bel.size), d0 := h.d0, d1 := h.d1, d2 := fun e => ⟨owns_below (h.d2 e).1 hb, (h.d2 e).2⟩, d3 := h.d3, d4 := h.d4, d5 := fun e => ⟨owns_below (h.d5 e).1 hb, (h.d5 e).2⟩, d6 := h.d6, d7 := h.d7, d8 := h.d8, ap := h.ap }
end Go.Proofs.YtjbolpfilgkbfaaDoor

namespace Go.Proofs.YtjbolpfilgkbfaaDoor
open Go Go.RowKit
open M
set_option linter.unusedVariables false

theorem writes_only {p : Pg} {n : Int} (hg : goodP p = true) (hin : 0 ≤ n ∧ n < (p.2.2.2.length : Int)) : writesL (cmdAt p n) = only4 (changeF (cmdAt p n)) 4 := by
  obtain ⟨_, q0, q1, q2, q3, _, _, hcm0⟩ := goodP_parts hg
  have hcb := hcm0 _ (List.mem_of_getElem? (cmdAt_in hin))
  unfold cmB at hcb
  rw [Bool.and_eq_true] at hcb
  exact writes_sorted q3 (cmdAt p n).2 0 (Int.le_refl _) hcb.2
set_option maxRecDepth 100000 in
set_option maxHeartbeats 8000000 in
theorem iTouched_any (v : Value) (p : Pg) (ok : PgOk p) (n : Int) (w : World) (hT : Tab w) (h : AtProg w v p) :
    Calls Tryd.prog 23 #[v, .int .i64 n] w fun e w' => ∃ r0 r1, e = .returned (.tuple #[r0, r1, .bool (touchB p n)]) ∧ OwnIS w' w.heap.size w'.heap.size r0 (touchR p n) ∧ OwnIS w' w.heap.size w'.heap.size r1 (touchW p n) ∧ Ap2 r0 r1 ∧ Below w.heap.size w w' := by
  obtain ⟨sa, sn, sc, ca, cn, cc, rfl⟩ := h.shape
  have HB0 : Hid (Below w.heap.size w (w.alloc (.cells #[.int .i64 p.1, .int .i64 p.2.1, .slice sa sn sc, .slice ca cn cc] 27))) := (Below.refl _ _).alloc (Nat.le_refl _) _
  have g := rootsOf_full _ p ok _ (hT.below HB0.out hT.some) (h.below HB0.out)
  have HOK : Hid (PgOk p) := ok
  clear h hT ok
  go_enter Tryd.func23, Tryd.ntmps23
  go_wp2_with fail
  refine g.mono ?_
  generalize w.alloc (.cells #[.int .i64 p.1, .int .i64 p.2.1, .slice sa sn sc, .slice ca cn cc] 27) = w0 at *
  rintro e w1 ⟨ho, hb1⟩
  have HB1 : Hid (Below w.heap.size w w1) := Below.step HB0.out HB0.out.size hb1
  clear g
  have HNO : Hid (touchB p n = false → touchR p n = [] ∧ touchW p n = []) := fun hf => by
    unfold touchR touchW
    rw [hf]
    exact ⟨rfl, rfl⟩
  rcases ho with ⟨hg, P, rfl, hroot⟩ | ⟨hg, rfl⟩
  · obtain ⟨_, q0, q1, q2, q3, hc1, hc6, hcm0⟩ := goodP_parts hg
    have hr1 : Rooted w1 (Old w1) p P := Rooted.old hroot (Below.refl _ _)
    obtain ⟨_, x, y, hx, _, hcm⟩ := id hr1
    obtain ⟨gb, cap, rfl⟩ : ∃ g cap, y = .slice (some ⟨g, 0, none⟩) p.2.2.2.length cap := by
      rcases hcm with ⟨e, _⟩ | ⟨g, cap, e, _⟩
      · rw [e] at hc1
        simp at hc1
      · exact ⟨g, cap, e⟩
    have gs := hasCommand_any P _ _ _ _ _ _ n w1 hx
    have HTB : Hid (touchB p n = decide (0 ≤ n ∧ n < (p.2.2.2.length : Int))) := by
      show touchB p n = _
      unfold touchB
      rw [hg, Bool.true_and]
    have HX : Hid _ := hx
    by_cases hin : 0 ≤ n ∧ n < (p.2.2.2.length : Int)
    case neg =>
      rw [decide_eq_false hin] at gs HTB
      obtain ⟨e1, e2⟩ := HNO.out HTB.out
      have E1 : Hid _ := e1
      have E2 : Hid _ := e2
      clear hx hcm hr1 hroot hg hcm0 hb1 e1 e2 HOK HX HNO
      go_wp2_with fail
      refine gs.mono ?_
      rintro e w2 ⟨rfl, hs2⟩
      have HB2 : Hid (Below w.heap.size w w2) := HB1.out.trans (hs2.mono HB1.out.size)
      clear gs hs2
      go_wp2_with fail
      go_ret3
      exact ⟨_, _, by rw [HTB.out]; rfl, by rw [E1.out]; exact ownIS_nil _ _ HB2.out.size, by rw [E2.out]; exact ownIS_nil _ _ HB2.out.size, ap2_nil _, HB2.out⟩
    rw [decide_eq_true hin] at gs HTB
    have hc := cmdAt_in hin
    have hcmem := List.mem_of_getElem? hc
    have hcok := HOK.out.2.2.2.2 _ hcmem
    have hcb := hcm0 _ hcmem
    unfold cmB at hcb
    rw [Bool.and_eq_true] at hcb
    obtain ⟨xx, yy, cx, cy, hel⟩ : ∃ xx yy : Value, w1.cell? ⟨gb, n.toNat * 2, none⟩ = some xx ∧ w1.cell? ⟨gb, n.toNat * 2 + 1, none⟩ = some yy ∧ CmEl w1 (Old w1) p.1 p.2.1 (cmdAt p n) xx yy := by
      rcases hcm with ⟨e, _⟩ | ⟨g', cap', e, _, _, hcc⟩
      · rw [e] at hc
        simp at hc
      · injection e with e1 _ _
        injection e1 with e1
        injection e1 with e1
        subst e1
        exact hcc _ _ hc
    have hgl : gb < w1.heap.size := block_lt_of_cell cx
    have HCX : Hid (∀ w2 : World, Below w1.heap.size w1 w2 → w2.cell? ⟨gb, n.toNat * 2, none⟩ = some xx ∧ w2.cell? ⟨gb, n.toNat * 2 + 1, none⟩ = some yy) := fun w2 hb => ⟨by rw [hb.cell (p := ⟨gb, n.toNat * 2, none⟩) hgl]; exact cx, by rw [hb.cell (p := ⟨gb, n.toNat * 2 + 1, none⟩) hgl]; exact cy⟩
    have GR : Hid (∀ w2 : World, Below w1.heap.size w1 w2 → Calls Tryd.prog 71 #[.agg #[xx, yy]] w2 fun e w' => e = .returned (aggB (readF (cmdAt p n))) ∧ Below w2.heap.size w2 w') := fun w2 hb => read_any (cmdAt p n) hcok p.1 p.2.1 xx yy q2 q3 hcb.2 w2 (hel.frame hb.size (fun i hi => Nat.lt_of_lt_of_le hi hb.size) (fun i hi => hb.block i hi))
    have GW : Hid (∀ w2 : World, Below w1.heap.size w1 w2 → Calls Tryd.prog 73 #[.agg #[xx, yy]] w2 fun e w' => e = .returned (aggB (changeF (cmdAt p n))) ∧ Below w2.heap.size w2 w') := fun w2 hb => changed_any (cmdAt p n) p.1 p.2.1 xx yy q2 q3 hcb.2 w2 (hel.frame hb.size (fun i hi => Nat.lt_of_lt_of_le hi hb.size) (fun i hi => hb.block i hi))
    have HER : Hid (touchR p n = only4 (readF (cmdAt p n)) 4) := by
      show touchR p n = _
      unfold touchR
      rw [HTB.out, if_pos rfl]
      rfl
    have HEW : Hid (touchW p n = only4 (changeF (cmdAt p n)) 4) := by
      show touchW p n = _
      unfold touchW
      rw [HTB.out, if_pos rfl]
      exact writes_only hg hin
    have hys := hel.2.shape
    obtain ⟨_, xb, hxb, _⟩ := hel.1
    subst hxb
    obtain ⟨ya, yn, yc, rfl⟩ := hys
    obtain ⟨m, rfl⟩ : ∃ m : Nat, n = m := ⟨n.toNat, by omega⟩
    rw [Int.toNat_natCast] at HCX
    have hnn : ((m : Int) < (p.2.2.2.length : Int)) := hin.2
    clear hx hcm hr1 hroot hg hcm0 hb1 HNO hc hcmem hcok hcb cx cy hel hgl HOK
    generalize readF (cmdAt p m) = RF at *
    generalize changeF (cmdAt p m) = WF at *
    generalize p.2.2.2.length = L at *
    go_wp2_with fail
    refine gs.mono ?_
    rintro e w2 ⟨rfl, hs2⟩
    have HB2 : Hid (Below w.heap.size w w2) := HB1.out.trans (hs2.mono HB1.out.size)
    have x2 := HX.out.below hs2 HX.out.lt
    obtain ⟨p0, p1, p2, p3⟩ := x2.cells
    have ph := x2.heap
    have pl := x2.lt
    obtain ⟨cx2, cy2⟩ := HCX.out w2 hs2
    have hb3 : Below w2.heap.size w2 (w2.alloc (.cells #[ptr xb, .slice ya yn yc] 108)) := (Below.refl _ _).alloc (Nat.le_refl _) _
    have HBD : Hid (Below w1.heap.size w1 (w2.alloc (.cells #[ptr xb, .slice ya yn yc] 108)).drew) := (hs2.trans (hb3.mono hs2.size)).drew
    have HB3 : Hid (Below w.heap.size w (w2.alloc (.cells #[ptr xb, .slice ya yn yc] 108)).drew) := (HB2.out.trans (hb3.mono HB2.out.size)).drew
    have hk := box2_alloc w2 108 (ptr xb) (.slice ya yn yc)
    have HK : Hid (Box2 (w2.alloc (.cells #[ptr xb, .slice ya yn yc] 108)).drew w2.heap.size 108 (ptr xb) (.slice ya yn yc)) := ⟨hk.heap⟩
    obtain ⟨k0, k1⟩ := hk.cells
    have kh := hk.heap
    have kl := hk.lt
    clear gs hs2 x2 hk hb3 HX HCX
    have GLR : Hid (∀ w9 : World, Calls Tryd.prog 72 #[.agg #[.bool (RF 0), .bool (RF 1), .bool (RF 2), .bool (RF 3)]] w9 fun e w' => ∃ v, e = .returned v ∧ OwnInts w' w9.heap.size v (only4 RF 4) ∧ Below w9.heap.size w9 w') := fun w9 => listV_any RF w9
    have GLW : Hid (∀ w9 : World, Calls Tryd.prog 72 #[.agg #[.bool (WF 0), .bool (WF 1), .bool (WF 2), .bool (WF 3)]] w9 fun e w' => ∃ v, e = .returned v ∧ OwnInts w' w9.heap.size v (only4 WF 4) ∧ Below w9.heap.size w9 w') := fun w9 => listV_any WF w9
    have hzd := HBD.out.size
    have hz1 := HB1.out.size
    have h4 : (Tryd.prog.info? 113).map (·.size) = some 4 := by kernel_rfl
    generalize only4 RF 4 = LRF at *
    generalize only4 WF 4 = LWF at *
    have GR2 : Hid (∀ w9 : World, Below (w2.alloc (.cells #[ptr xb, .slice ya yn yc] 108)).drew.heap.size (w2.alloc (.cells #[ptr xb, .slice ya yn yc] 108)).drew w9 → Calls Tryd.prog 71 #[.agg #[ptr xb, .slice ya yn yc]] w9 fun e w' => e = .returned (aggB RF) ∧ Below w9.heap.size w9 w') := fun w9 hb => GR.out w9 (HBD.out.trans (hb.mono HBD.out.size))
    have GW2 : Hid (∀ w9 : World, Below (w2.alloc (.cells #[ptr xb, .slice ya yn yc] 108)).drew.heap.size (w2.alloc (.cells #[ptr xb, .slice ya yn yc] 108)).drew w9 → Calls Tryd.prog 73 #[.agg #[ptr xb, .slice ya yn yc]] w9 fun e w' => e = .returned (aggB WF) ∧ Below w9.heap.size w9 w') := fun w9 hb => GW.out w9 (HBD.out.trans (hb.mono HBD.out.size))
    clear GR GW
    go_wp2_with fail
    clear p0 p1 p2 p3 ph pl cx2 cy2 hnn hin
    refine wp_region_any (by kernel_rfl) ?_
    change wpAny _ _ _ _ _ _ _ (World.drew _)
    refine wpAny_inv (fun l a w' => ∃ (l0 l1 l2 l3 l4 l5 l6 l7 l8 : Bool) (s0 s1 s2 s3 s4 s5 s6 s7 s8 : Value), l = #[l0, l1, l2, l3, l4, l5, l6, l7, l8] ∧ a = { tmps := (.agg #[.int .i64 p.1, .int .i64 p.2.1, .slice sa sn sc, .slice ca cn cc] :: .int .i64 m :: .pointer (some ⟨w.heap.size, 0, none⟩) :: undef :: s6 :: s7 :: s8 :: ptr P :: .pointer (some ⟨w2.heap.size, 0, none⟩) :: .agg #[.int .i64 p.1, .int .i64 p.2.1, .slice sa sn sc, .slice ca cn cc] :: ptr P :: ptr P :: .bool false :: .bool false :: ptr P :: .int .i64 m :: .bool true :: .bool false :: .bool false :: ptr P :: .pointer (some ⟨P, 0, none⟩) :: .pointer (some ⟨P, 3, none⟩) :: .slice (some ⟨gb, 0, none⟩) L cap :: .int .i64 m :: .pointer (some ⟨gb, m * 2, none⟩) :: .agg #[ptr xb, .slice ya yn yc] :: s0 :: s1 :: s2 :: s3 :: s4 :: s5 :: ([] : List Value)).toArray, defers := [] } ∧ RegT (w2.alloc (.cells #[ptr xb, .slice ya yn yc] 108)).drew w' (.agg #[ptr xb, .slice ya yn yc]) (.agg #[.bool (RF 0), .bool (RF 1), .bool (RF 2), .bool (RF 3)]) (.agg #[.bool (WF 0), .bool (WF 1), .bool (WF 2), .bool (WF 3)]) LRF LWF l0 l1 l2 l3 l4 l5 l6 l7 l8 s0 s1 s2 s3 s4 s5 s6 s7 s8) ?done ?step 9 _ _ _ ⟨false, false, false, false, false, false, false, false, false, _, _, _, _, _, _, _, _, _, rfl, rfl, ?init⟩ (by decide)
    case init => exact { bel := Below.refl _ _, d0 := fun e => (by cases e), d1 := fun e => (by cases e), d2 := fun e => (by cases e), d3 := fun e => (by cases e), d4 := fun e => (by cases e), d5 := fun e => (by cases e), d6 := fun e => (by cases e), d7 := fun e => (by cases e), d8 := fun e => (by cases e), ap := fun e => (by cases e) }
    case step =>
      rintro l a w3 ⟨l0, l1, l2, l3, l4, l5, l6, l7, l8, s0, s1, s2, s3, s4, s5, s6, s7, s8, rfl, rfl, h⟩
      intro q hq
      have hlt9 := ready_lt hq
      match q, hq, hlt9 with
      | 0, hq, _ =>
        have hr := ready_dep hq rfl
        have hme : l0 = false := hr.1
        obtain ⟨k0, k1⟩ := (HK.out.below h.bel HK.out.lt).cells
        have kh := (HK.out.below h.bel HK.out.lt).heap
        have kl := (HK.out.below h.bel HK.out.lt).lt
        clear hr hq
        refine wpOp_run rfl rfl (fun K hK => ?_)
        go_simp
        refine hK _ _ ⟨true, l1, l2, l3, l4, l5, l6, l7, l8, _, _, _, _, _, _, _, _, _, rfl, rfl, ?_⟩
        exact { bel := h.bel, d0 := fun _ => ⟨rfl, trivial⟩, d1 := fun e => absurd (h.d1 e).2 (by rw [hme]; decide), d2 := h.d2, d3 := h.d3, d4 := h.d4, d5 := h.d5, d6 := h.d6, d7 := h.d7, d8 := h.d8, ap := h.ap }
      | 1, hq, _ =>
        have hr := ready_dep hq rfl
        have hme : l1 = false := hr.1
        have e0 : l0 = true := hr.2 ⟨0, .data⟩ (by simp) (by kernel_rfl)
        obtain rfl := (h.d0 e0).1
        clear hr hq
        refine wpOp_run rfl rfl (fun K hK => ?_)
        go_simp
        go_at_call 71
        refine Calls.mono (GR2.out w3 h.bel) ?_
        rintro e w4 ⟨rfl, hs4⟩
        have h4 := h.below hs4
        refine hK _ _ ⟨l0, true, l2, l3, l4, l5, l6, l7, l8, _, _, _, _, _, _, _, _, _, rfl, rfl, ?_⟩
        exact { bel := h4.bel, d0 := h4.d0, d1 := fun _ => ⟨rfl, e0⟩, d2 := fun e => absurd (h4.d2 e).2 (by rw [hme]; decide), d3 := h4.d3, d4 := h4.d4, d5 := h4.d5, d6 := h4.d6, d7 := h4.d7, d8 := h4.d8, ap := h4.ap }
      | 2, hq, _ =>
        have hr := ready_dep hq rfl
        have hme : l2 = false := hr.1
        have e1 : l1 = true := hr.2 ⟨1, .data⟩ (by simp) (by kernel_rfl)
        obtain rfl := (h.d1 e1).1
        clear hr hq
        refine wpOp_run rfl rfl (fun K hK => ?_)
        go_simp
        go_at_call 72
        refine Calls.mono (GLR.out w3) ?_
        rintro e w4 ⟨v9, rfl, ho9, hs4⟩
        have h4 := h.below hs4
        have hlo := World.ownsRow.lt ho9
        refine hK _ _ ⟨l0, l1, true, l3, l4, l5, l6, l7, l8, _, _, _, _, _, _, _, _, _, rfl, rfl, ?_⟩
        exact { bel := h4.bel, d0 := h4.d0, d1 := h4.d1, d2 := fun _ => ⟨own_weaken ho9 h.bel.size, e1⟩, d3 := h4.d3, d4 := h4.d4, d5 := h4.d5, d6 := fun e => absurd (h4.d6 e).2 (by rw [hme]; decide), d7 := h4.d7, d8 := h4.d8, ap := fun _ e5 k hk hk2 => (by have a9 := (hlo k hk).1; have b9 := (World.ownsRow.lt (h.d5 e5).1 k hk2).2; omega) }
      | 3, hq, _ =>
        have hr := ready_dep hq rfl
        have hme : l3 = false := hr.1
        obtain ⟨k0, k1⟩ := (HK.out.below h.bel HK.out.lt).cells
        have kh := (HK.out.below h.bel HK.out.lt).heap
        have kl := (HK.out.below h.bel HK.out.lt).lt
        clear hr hq
        refine wpOp_run rfl rfl (fun K hK => ?_)
        go_simp
        refine hK _ _ ⟨l0, l1, l2, true, l4, l5, l6, l7, l8, _, _, _, _, _, _, _, _, _, rfl, rfl, ?_⟩
        exact { bel := h.bel, d0 := h.d0, d1 := h.d1, d2 := h.d2, d3 := fun _ => ⟨rfl, trivial⟩, d4 := fun e => absurd (h.d4 e).2 (by rw [hme]; decide), d5 := h.d5, d6 := h.d6, d7 := h.d7, d8 := h.d8, ap := h.ap }
      | 4, hq, _ =>
        have hr := ready_dep hq rfl
        have hme : l4 = false := hr.1
        have e3 : l3 = true := hr.2 ⟨3, .data⟩ (by simp) (by kernel_rfl)
        obtain rfl := (h.d3 e3).1
        clear hr hq
        refine wpOp_run rfl rfl (fun K hK => ?_)
        go_simp
        go_at_call 73
        refine Calls.mono (GW2.out w3 h.bel) ?_
        rintro e w4 ⟨rfl, hs4⟩
        have h4 := h.below hs4
        refine hK _ _ ⟨l0, l1, l2, l3, true, l5, l6, l7, l8, _, _, _, _, _, _, _, _, _, rfl, rfl, ?_⟩
        exact { bel := h4.bel, d0 := h4.d0, d1 := h4.d1, d2 := h4.d2, d3 := h4.d3, d4 := fun _ => ⟨rfl, e3⟩, d5 := fun e => absurd (h4.d5 e).2 (by rw [hme]; decide), d6 := h4.d6, d7 := h4.d7, d8 := h4.d8, ap := h4.ap }
      | 5, hq, _ =>
        have hr := ready_dep hq rfl
        have hme : l5 = false := hr.1
        have e4 : l4 = true := hr.2 ⟨4, .data⟩ (by simp) (by kernel_rfl)
        obtain rfl := (h.d4 e4).1
        clear hr hq
        refine wpOp_run rfl rfl (fun K hK => ?_)
        go_simp
        go_at_call 72
        refine Calls.mono (GLW.out w3) ?_
        rintro e w4 ⟨v9, rfl, ho9, hs4⟩
        have h4 := h.below hs4
        have hlo := World.ownsRow.lt ho9
        refine hK _ _ ⟨l0, l1, l2, l3, l4, true, l6, l7, l8, _, _, _, _, _, _, _, _, _, rfl, rfl, ?_⟩
        exact { bel := h4.bel, d0 := h4.d0, d1 := h4.d1, d2 := h4.d2, d3 := h4.d3, d4 := h4.d4, d5 := fun _ => ⟨own_weaken ho9 h.bel.size, e4⟩, d6 := h4.d6, d7 := fun e => absurd (h4.d7 e).2 (by rw [hme]; decide), d8 := h4.d8, ap := fun e2 _ k hk hk2 => (by have a9 := (World.ownsRow.lt (h.d2 e2).1 k hk).2; have b9 := (hlo k hk2).1; omega) }
      | 6, hq, _ =>
        have hr := ready_dep hq rfl
        have hme : l6 = false := hr.1
        have e2 : l2 = true := hr.2 ⟨2, .data⟩ (by simp) (by kernel_rfl)
        clear hr hq
        refine wpOp_run rfl rfl (fun K hK => ?_)
        go_simp
        refine hK _ _ ⟨l0, l1, l2, l3, l4, l5, true, l7, l8, _, _, _, _, _, _, _, _, _, rfl, rfl, ?_⟩
        exact { bel := h.bel, d0 := h.d0, d1 := h.d1, d2 := h.d2, d3 := h.d3, d4 := h.d4, d5 := h.d5, d6 := fun _ => ⟨rfl, e2⟩, d7 := h.d7, d8 := h.d8, ap := h.ap }
      | 7, hq, _ =>
        have hr := ready_dep hq rfl
        have hme : l7 = false := hr.1
        have e5 : l5 = true := hr.2 ⟨5, .data⟩ (by simp) (by kernel_rfl)
        clear hr hq
        refine wpOp_run rfl rfl (fun K hK => ?_)
        go_simp
        refine hK _ _ ⟨l0, l1, l2, l3, l4, l5, l6, true, l8, _, _, _, _, _, _, _, _, _, rfl, rfl, ?_⟩
        exact { bel := h.bel, d0 := h.d0, d1 := h.d1, d2 := h.d2, d3 := h.d3, d4 := h.d4, d5 := h.d5, d6 := h.d6, d7 := fun _ => ⟨rfl, e5⟩, d8 := h.d8, ap := h.ap }
      | 8, hq, _ =>
        have hr := ready_dep hq rfl
        have hme : l8 = false := hr.1
        clear hr hq
        refine wpOp_run rfl rfl (fun K hK => ?_)
        go_simp
        refine hK _ _ ⟨l0, l1, l2, l3, l4, l5, l6, l7, true, _, _, _, _, _, _, _, _, _, rfl, rfl, ?_⟩
        exact { bel := h.bel, d0 := h.d0, d1 := h.d1, d2 := h.d2, d3 := h.d3, d4 := h.d4, d5 := h.d5, d6 := h.d6, d7 := h.d7, d8 := fun _ => ⟨rfl, trivial⟩, ap := h.ap }
    case done =>
      rintro l a w3 ⟨l0, l1, l2, l3, l4, l5, l6, l7, l8, s0, s1, s2, s3, s4, s5, s6, s7, s8, rfl, rfl, h⟩ hr
      cases l0
      · exact (ready_none hr 0 rfl rfl rfl).elim
      cases l1
      · exact (ready_none hr 1 rfl rfl rfl).elim
      cases l2
      · exact (ready_none hr 2 rfl rfl rfl).elim
      cases l3
      · exact (ready_none hr 3 rfl rfl rfl).elim
      cases l4
      · exact (ready_none hr 4 rfl rfl rfl).elim
      cases l5
      · exact (ready_none hr 5 rfl rfl rfl).elim
      cases l6
      · exact (ready_none hr 6 rfl rfl rfl).elim
      cases l7
      · exact (ready_none hr 7 rfl rfl rfl).elim
      cases l8
      · exact (ready_none hr 8 rfl rfl rfl).elim
      have HB3E := h.bel
      have o0 := (h.d2 rfl).1
      have o1 := (h.d5 rfl).1
      have hap := h.ap rfl rfl
      obtain rfl := (h.d6 rfl).1
      obtain rfl := (h.d7 rfl).1
      obtain rfl := (h.d8 rfl).1
      clear hr h
      have HBE : Hid (Below w.heap.size w w3) := HB3.out.trans (HB3E.mono HB3.out.size)
      have hze := HB3.out.size
      have O0 : Hid (OwnIS w3 w.heap.size w3.heap.size s6 LRF) := RowIn.weak (rowIn_of o0) hze (Nat.le_refl _) (Nat.le_refl _)
      have O1 : Hid (OwnIS w3 w.heap.size w3.heap.size s7 LWF) := RowIn.weak (rowIn_of o1) hze (Nat.le_refl _) (Nat.le_refl _)
      have HAP : Hid (Ap2 s6 s7) := hap
      clear o0 o1 hap HB3E hze
      go_wp2_with fail
      go_ret3
      exact ⟨_, _, by rw [HTB.out]; rfl, by rw [HER.out]; exact O0.out, by rw [HEW.out]; exact O1.out, HAP.out, HBE.out⟩
  · have HTB : Hid (touchB p n = false) := by
      show touchB p n = false
      unfold touchB
      rw [hg, Bool.false_and]
    obtain ⟨e1, e2⟩ := HNO.out HTB.out
    have E1 : Hid _ := e1
    have E2 : Hid _ := e2
    clear hg hb1 e1 e2 HOK HNO
    go_wp2_with fail
    go_ret3
    exact ⟨_, _, by rw [HTB.out]; rfl, by rw [E1.out]; exact ownIS_nil _ _ HB1.out.size, by rw [E2.out]; exact ownIS_nil _ _ HB1.out.size, ap2_nil _, HB1.out⟩
end Go.Proofs.YtjbolpfilgkbfaaDoor

namespace Go.Proofs.YtjbolpfilgkbfaaDoor
open Go Go.RowKit
open M
set_option linter.unusedVariables false
set_option linter.unusedSimpArgs false

theorem ready_none2 {ops : Array Oper} {l : Array Bool} (hr : Region.ready .any ops l = []) (i : Nat) {o : Oper} (ho : ops[i]? = some o) (hl : l.getD i true = false) (hd : (o.after.toList.all fun e => !(Region.binds .any e) || l.getD e.on false) = true) : False := by
  have h : i ∈ Region.ready .any ops l := mem_ready.2 ⟨hl, o, ho, fun e he hb => by
    have h9 := List.all_eq_true.1 hd e (Array.mem_def.1 he)
    rw [hb] at h9
    simpa using h9⟩
  rw [hr] at h
  cases h
structure RegA (W w' : World) (P gb L cap n m : Nat) (A0 A1 B0 B1 : Value) (l0 l1 l2 l3 l4 l5 l6 l7 l8 l9 l10 l11 l12 l13 l14 l15 l16 l17 : Bool) (s0 s1 s2 s3 s4 s5 s6 s7 s8 s9 s10 s11 s12 s13 s14 s15 : Value) : Prop where
  (bel : Below W.heap.size W w')
  (d0 : l0 = true → s0 = ptr P ∧ True)
  (d1 : l1 = true → s1 = ptr P ∧ l0 = true)
  (d2 : l2 = true → s2 = .pointer (some ⟨P, 3, none⟩) ∧ l1 = true)
  (d3 : l3 = true → s3 = .slice (some ⟨gb, 0, none⟩) L cap ∧ l2 = true)
  (d4 : l4 = true → s4 = .int .i64 n ∧ True)
  (d5 : l5 = true → s5 = .pointer (some ⟨gb, n * 2, none⟩) ∧ l3 = true ∧ l4 = true)
  (d6 : l6 = true → s6 = .agg #[A0, A1] ∧ l5 = true)
  (d7 : l7 = true → s7 = ptr P ∧ True)
  (d8 : l8 = true → s8 = ptr P ∧ l7 = true)
  (d9 : l9 = true → s9 = .pointer (some ⟨P, 3, none⟩) ∧ l8 = true)
  (d10 : l10 = true → s10 = .slice (some ⟨gb, 0, none⟩) L cap ∧ l9 = true)
  (d11 : l11 = true → s11 = .int .i64 m ∧ True)
  (d12 : l12 = true → s12 = .pointer (some ⟨gb, m * 2, none⟩) ∧ l10 = true ∧ l11 = true)
  (d13 : l13 = true → s13 = .agg #[B0, B1] ∧ l12 = true)
  (a14 : l14 = true → ∃ g : Nat, s14 = ptr g ∧ W.heap.size ≤ g ∧ Box2 w' g 108 (bif l16 then A0 else .pointer none) (bif l16 then A1 else .slice none 0 0))
  (a15 : l15 = true → ∃ g : Nat, s15 = ptr g ∧ W.heap.size ≤ g ∧ Box2 w' g 108 (bif l17 then B0 else .pointer none) (bif l17 then B1 else .slice none 0 0))
  (sep : l14 = true → l15 = true → s14 ≠ s15)
  (d16 : l16 = true → l14 = true ∧ l6 = true)
  (d17 : l17 = true → l15 = true ∧ l13 = true ∧ l16 = true)
end Go.Proofs.YtjbolpfilgkbfaaDoor

namespace Go.Proofs.YtjbolpfilgkbfaaDoor
open Go Go.RowKit
open M
set_option linter.unusedVariables false

theorem mem_only4 {F : Int → Bool} {x : Int} : x ∈ only4 F 4 ↔ (∃ j : Nat, j < 4 ∧ x = j) ∧ F x = true := by
  unfold only4
  rw [List.mem_filter]
  constructor
  · rintro ⟨h1, h2⟩
    simp at h1
    exact ⟨⟨x.toNat, by omega, by omega⟩, h2⟩
  · rintro ⟨⟨j, h1, rfl⟩, h2⟩
    refine ⟨?_, h2⟩
    simp
    omega
theorem meetF_true {F G : Int → Bool} : meetF F G = true ↔ ∃ j : Nat, j < 4 ∧ F j = true ∧ G j = true := by
  unfold meetF meetJ
  rw [List.any_eq_true]
  constructor
  · rintro ⟨j, h1, h2⟩
    rw [Bool.and_eq_true] at h2
    exact ⟨j, List.mem_range.1 h1, h2⟩
  · rintro ⟨j, h1, h2⟩
    exact ⟨j, List.mem_range.2 h1, by rw [Bool.and_eq_true]; exact h2⟩
theorem meetL_only (F G : Int → Bool) : meetL (only4 F 4) (only4 G 4) = meetF F G := by
  rw [Bool.eq_iff_iff, meetF_true]
  unfold meetL
  rw [List.any_eq_true]
  constructor
  · rintro ⟨x, h1, h2⟩
    obtain ⟨⟨j, hj, rfl⟩, h3⟩ := mem_only4.1 h1
    exact ⟨j, hj, h3, (mem_only4.1 (of_decide_eq_true h2)).2⟩
  · rintro ⟨j, hj, h1, h2⟩
    exact ⟨j, mem_only4.2 ⟨⟨j, hj, rfl⟩, h1⟩, decide_eq_true (mem_only4.2 ⟨⟨j, hj, rfl⟩, h2⟩)⟩
theorem meetF_comm (F G : Int → Bool) : meetF F G = meetF G F := by
  rw [Bool.eq_iff_iff, meetF_true, meetF_true]
  constructor
  · rintro ⟨j, h1, h2, h3⟩
    exact ⟨j, h1, h3, h2⟩
  · rintro ⟨j, h1, h2, h3⟩
    exact ⟨j, h1, h3, h2⟩
theorem touchR_eq {p : Pg} {n : Int} (h : touchB p n = true) : touchR p n = only4 (readF (cmdAt p n)) 4 := by
  unfold touchR
  rw [h, if_pos rfl]
  rfl
theorem touchW_eq {p : Pg} {n : Int} (hg : goodP p = true) (hin : 0 ≤ n ∧ n < (p.2.2.2.length : Int)) (h : touchB p n = true) : touchW p n = only4 (changeF (cmdAt p n)) 4 := by
  unfold touchW
  rw [h, if_pos rfl]
  exact writes_only hg hin
theorem apart_dist {p : Pg} {n m : Int} (hg : goodP p = true) (hn : 0 ≤ n ∧ n < (p.2.2.2.length : Int)) (hm : 0 ≤ m ∧ m < (p.2.2.2.length : Int)) (h1 : touchB p n = true) (h2 : touchB p m = true) : apartR p n m = (!distB (cmdAt p n) (cmdAt p m) && !distB (cmdAt p m) (cmdAt p n)) := by
  unfold apartR apartB distB
  rw [h1, h2, touchW_eq hg hn h1, touchW_eq hg hm h2, touchR_eq h1, touchR_eq h2, meetL_only, meetL_only, meetL_only, meetF_comm (changeF (cmdAt p m)) (changeF (cmdAt p n))]
  cases meetF (changeF (cmdAt p n)) (readF (cmdAt p m)) <;> cases meetF (changeF (cmdAt p n)) (changeF (cmdAt p m)) <;> cases meetF (changeF (cmdAt p m)) (readF (cmdAt p n)) <;> rfl
set_option maxRecDepth 100000 in
set_option maxHeartbeats 8000000 in
theorem iApart_any (v : Value) (p : Pg) (ok : PgOk p) (n m : Int) (w : World) (hT : Tab w) (h : AtProg w v p) :
    Calls Tryd.prog 32 #[v, .int .i64 n, .int .i64 m] w fun e w' => e = .returned (.tuple #[.bool (apartR p n m), .bool (apartB p n m)]) ∧ Below w.heap.size w w' := by
  obtain ⟨sa, sn, sc, ca, cn, cc, rfl⟩ := h.shape
  have HB0 : Hid (Below w.heap.size w (w.alloc (.cells #[.int .i64 p.1, .int .i64 p.2.1, .slice sa sn sc, .slice ca cn cc] 27))) := (Below.refl _ _).alloc (Nat.le_refl _) _
  have g := rootsOf_full _ p ok _ (hT.below HB0.out hT.some) (h.below HB0.out)
  have HOK : Hid (PgOk p) := ok
  have HA0 : Hid (apartB p n m = false → apartR p n m = false) := fun hf => by
    unfold apartR
    rw [hf]
    rfl
  have HAB : Hid (apartB p n m = (touchB p n && touchB p m)) := rfl
  clear h hT ok
  go_enter Tryd.func32, Tryd.ntmps32
  go_wp2_with fail
  refine g.mono ?_
  generalize w.alloc (.cells #[.int .i64 p.1, .int .i64 p.2.1, .slice sa sn sc, .slice ca cn cc] 27) = w0 at *
  rintro e w1 ⟨ho, hb1⟩
  have HB1 : Hid (Below w.heap.size w w1) := Below.step HB0.out HB0.out.size hb1
  clear g
  rcases ho with ⟨hg, P, rfl, hroot⟩ | ⟨hg, rfl⟩
  case inr =>
    have HF : Hid (apartB p n m = false) := by
      show apartB p n m = false
      rw [HAB.out]
      unfold touchB
      rw [hg, Bool.false_and, Bool.false_and]
    have HF2 : Hid (apartR p n m = false) := HA0.out HF.out
    clear hg hb1 HOK HA0 HAB
    go_wp2_with fail
    go_ret2
    exact ⟨by rw [HF.out, HF2.out]; rfl, HB1.out⟩
  case inl =>
  obtain ⟨_, q0, q1, q2, q3, hc1, hc6, hcm0⟩ := goodP_parts hg
  have hr1 : Rooted w1 (Old w1) p P := Rooted.old hroot (Below.refl _ _)
  obtain ⟨_, x, y, hx, _, hcm⟩ := id hr1
  obtain ⟨gb, cap, rfl⟩ : ∃ g cap, y = .slice (some ⟨g, 0, none⟩) p.2.2.2.length cap := by
    rcases hcm with ⟨e, _⟩ | ⟨g, cap, e, _⟩
    · rw [e] at hc1
      simp at hc1
    · exact ⟨g, cap, e⟩
  have GS : Hid (∀ (k : Int) (w2 : World), Below w1.heap.size w1 w2 → Calls Tryd.prog 70 #[ptr P, .int .i64 k] w2 fun e w' => e = .returned (.bool (decide (0 ≤ k ∧ k < (p.2.2.2.length : Int)))) ∧ Below w2.heap.size w2 w') := fun k w2 hb => hasCommand_any P _ _ _ _ _ _ k w2 (hx.below hb hx.lt)
  have HTB : Hid (∀ k : Int, touchB p k = decide (0 ≤ k ∧ k < (p.2.2.2.length : Int))) := fun k => by
    unfold touchB
    rw [hg, Bool.true_and]
  have HX : Hid _ := hx
  have g1 := GS.out n w1 (Below.refl _ _)
  have g2 : Hid _ := GS.out m
  clear GS
  by_cases hin : 0 ≤ n ∧ n < (p.2.2.2.length : Int)
  case neg =>
    rw [decide_eq_false hin] at g1
    have HF : Hid (apartB p n m = false) := by
      show apartB p n m = false
      rw [HAB.out, HTB.out n, decide_eq_false hin, Bool.false_and]
    have HF2 : Hid (apartR p n m = false) := HA0.out HF.out
    clear hx hcm hr1 hroot hg hcm0 hb1 HOK HX HA0 HAB HTB g2
    go_wp2_with fail
    refine g1.mono ?_
    rintro e w2 ⟨rfl, hs2⟩
    have HB2 : Hid (Below w.heap.size w w2) := HB1.out.trans (hs2.mono HB1.out.size)
    clear g1 hs2
    go_wp2_with fail
    go_ret2
    exact ⟨by rw [HF.out, HF2.out]; rfl, HB2.out⟩
  case pos =>
  rw [decide_eq_true hin] at g1
  by_cases him : 0 ≤ m ∧ m < (p.2.2.2.length : Int)
  case neg =>
    rw [decide_eq_false him] at g2
    have HF : Hid (apartB p n m = false) := by
      show apartB p n m = false
      rw [HAB.out, HTB.out m, decide_eq_false him, Bool.and_false]
    have HF2 : Hid (apartR p n m = false) := HA0.out HF.out
    clear hx hcm hr1 hroot hg hcm0 hb1 HOK HX HA0 HAB HTB
    go_wp2_with fail
    refine g1.mono ?_
    rintro e w2 ⟨rfl, hs2⟩
    have HB2 : Hid (Below w.heap.size w w2) := HB1.out.trans (hs2.mono HB1.out.size)
    have g3 := g2.out w2 hs2
    clear g1 hs2 g2
    go_wp2_with fail
    refine g3.mono ?_
    rintro e w3 ⟨rfl, hs3⟩
    have HB3 : Hid (Below w.heap.size w w3) := HB2.out.trans (hs3.mono HB2.out.size)
    clear g3 hs3
    go_wp2_with fail
    go_ret2
    exact ⟨by rw [HF.out, HF2.out]; rfl, HB3.out⟩
  case pos =>
  rw [decide_eq_true him] at g2
  have HTN : Hid (touchB p n = true) := (HTB.out n).trans (decide_eq_true hin)
  have HTM : Hid (touchB p m = true) := (HTB.out m).trans (decide_eq_true him)
  have HF : Hid (apartB p n m = true) := by
    show apartB p n m = true
    rw [HAB.out, HTN.out, HTM.out]
    rfl
  have HF2 : Hid (apartR p n m = _) := apart_dist hg hin him HTN.out HTM.out
  have HEL : Hid (∀ k : Int, 0 ≤ k ∧ k < (p.2.2.2.length : Int) → CmOk (cmdAt p k) ∧ chsB p.1 p.2.1 0 (cmdAt p k).2 = true ∧ ∃ xb ya yn yc, w1.cell? ⟨gb, k.toNat * 2, none⟩ = some (ptr xb) ∧ w1.cell? ⟨gb, k.toNat * 2 + 1, none⟩ = some (.slice ya yn yc) ∧ CmEl w1 (Old w1) p.1 p.2.1 (cmdAt p k) (ptr xb) (.slice ya yn yc)) := fun k hk => by
    have hc := cmdAt_in hk
    have hcmem := List.mem_of_getElem? hc
    have hcb := hcm0 _ hcmem
    unfold cmB at hcb
    rw [Bool.and_eq_true] at hcb
    refine ⟨HOK.out.2.2.2.2 _ hcmem, hcb.2, ?_⟩
    obtain ⟨xx, yy, cx, cy, hel⟩ : ∃ xx yy : Value, w1.cell? ⟨gb, k.toNat * 2, none⟩ = some xx ∧ w1.cell? ⟨gb, k.toNat * 2 + 1, none⟩ = some yy ∧ CmEl w1 (Old w1) p.1 p.2.1 (cmdAt p k) xx yy := by
      rcases hcm with ⟨e, _⟩ | ⟨g', cap', e, _, _, hcc⟩
      · rw [e] at hc
        simp at hc
      · injection e with e1 _ _
        injection e1 with e1
        injection e1 with e1
        subst e1
        exact hcc _ _ hc
    have hys := hel.2.shape
    obtain ⟨_, xb, hxb, _⟩ := id hel.1
    subst hxb
    obtain ⟨ya, yn, yc, rfl⟩ := hys
    exact ⟨xb, ya, yn, yc, cx, cy, hel⟩
  obtain ⟨okn, hcn, xA, yAa, yAn, yAc, cxn, cyn, heln⟩ := HEL.out n hin
  obtain ⟨okm, hcm9, xB, yBa, yBn, yBc, cxm, cym, helm⟩ := HEL.out m him
  have hgl : gb < w1.heap.size := block_lt_of_cell cxn
  obtain ⟨n, rfl⟩ : ∃ q : Nat, n = q := ⟨n.toNat, by omega⟩
  obtain ⟨m, rfl⟩ : ∃ q : Nat, m = q := ⟨m.toNat, by omega⟩
  rw [Int.toNat_natCast] at cxn cyn cxm cym
  have HCN : Hid (∀ w2 : World, Below w1.heap.size w1 w2 → w2.cell? ⟨gb, n * 2, none⟩ = some (ptr xA) ∧ w2.cell? ⟨gb, n * 2 + 1, none⟩ = some (.slice yAa yAn yAc)) := fun w2 hb => ⟨by rw [hb.cell (p := ⟨gb, n * 2, none⟩) hgl]; exact cxn, by rw [hb.cell (p := ⟨gb, n * 2 + 1, none⟩) hgl]; exact cyn⟩
  have HCM : Hid (∀ w2 : World, Below w1.heap.size w1 w2 → w2.cell? ⟨gb, m * 2, none⟩ = some (ptr xB) ∧ w2.cell? ⟨gb, m * 2 + 1, none⟩ = some (.slice yBa yBn yBc)) := fun w2 hb => ⟨by rw [hb.cell (p := ⟨gb, m * 2, none⟩) hgl]; exact cxm, by rw [hb.cell (p := ⟨gb, m * 2 + 1, none⟩) hgl]; exact cym⟩
  have GD1 : Hid (∀ w2 : World, Below w1.heap.size w1 w2 → Calls Tryd.prog 77 #[.agg #[ptr xA, .slice yAa yAn yAc], .agg #[ptr xB, .slice yBa yBn yBc]] w2 fun e w' => e = .returned (.bool (distB (cmdAt p n) (cmdAt p m))) ∧ Below w2.heap.size w2 w') := fun w2 hb => disturbs_any _ _ okm p.1 p.2.1 _ _ _ _ q2 q3 hcn hcm9 w2 (heln.frame hb.size (fun i hi => Nat.lt_of_lt_of_le hi hb.size) (fun i hi => hb.block i hi)) (helm.frame hb.size (fun i hi => Nat.lt_of_lt_of_le hi hb.size) (fun i hi => hb.block i hi))
  have GD2 : Hid (∀ w2 : World, Below w1.heap.size w1 w2 → Calls Tryd.prog 77 #[.agg #[ptr xB, .slice yBa yBn yBc], .agg #[ptr xA, .slice yAa yAn yAc]] w2 fun e w' => e = .returned (.bool (distB (cmdAt p m) (cmdAt p n))) ∧ Below w2.heap.size w2 w') := fun w2 hb => disturbs_any _ _ okn p.1 p.2.1 _ _ _ _ q2 q3 hcm9 hcn w2 (helm.frame hb.size (fun i hi => Nat.lt_of_lt_of_le hi hb.size) (fun i hi => hb.block i hi)) (heln.frame hb.size (fun i hi => Nat.lt_of_lt_of_le hi hb.size) (fun i hi => hb.block i hi))
  have hnn : ((n : Int) < (p.2.2.2.length : Int)) := hin.2
  have hmm : ((m : Int) < (p.2.2.2.length : Int)) := him.2
  clear hx hcm hr1 hroot hg hcm0 hb1 HOK HA0 HAB HTB HTN HTM HEL cxn cyn cxm cym heln helm okn okm hcn hcm9 hgl hin him hc1 hc6 q0 q1 q2 q3
  generalize distB (cmdAt p n) (cmdAt p m) = Q1 at *
  generalize distB (cmdAt p m) (cmdAt p n) = Q2 at *
  generalize p.2.2.2.length = L at *
  go_wp2_with fail
  refine g1.mono ?_
  rintro e w2 ⟨rfl, hs2⟩
  have HB2 : Hid (Below w.heap.size w w2) := HB1.out.trans (hs2.mono HB1.out.size)
  have HS2 : Hid _ := hs2
  have g3 := g2.out w2 hs2
  clear g1 hs2 g2
  go_wp2_with fail
  refine g3.mono ?_
  rintro e w4 ⟨rfl, hs3⟩
  have HB4 : Hid (Below w.heap.size w w4.drew) := (HB2.out.trans (hs3.mono HB2.out.size)).drew
  have HS4 : Hid (Below w1.heap.size w1 w4.drew) := (HS2.out.trans (hs3.mono HS2.out.size)).drew
  have HXD : Hid _ := HX.out.below HS4.out HX.out.lt
  have HCA : Hid (∀ w9 : World, Below w4.drew.heap.size w4.drew w9 → w9.cell? ⟨gb, n * 2, none⟩ = some (ptr xA) ∧ w9.cell? ⟨gb, n * 2 + 1, none⟩ = some (.slice yAa yAn yAc)) := fun w9 hb => HCN.out w9 (HS4.out.trans (hb.mono HS4.out.size))
  have HCB : Hid (∀ w9 : World, Below w4.drew.heap.size w4.drew w9 → w9.cell? ⟨gb, m * 2, none⟩ = some (ptr xB) ∧ w9.cell? ⟨gb, m * 2 + 1, none⟩ = some (.slice yBa yBn yBc)) := fun w9 hb => HCM.out w9 (HS4.out.trans (hb.mono HS4.out.size))
  clear g3 hs3 HX HCN HCM HS2 HB2
  go_wp2_with fail
  refine wp_region_any (by kernel_rfl) ?_
  change wpAny _ _ _ _ _ _ _ (World.drew _)
  refine wpAny_inv (fun l a w' => ∃ (l0 l1 l2 l3 l4 l5 l6 l7 l8 l9 l10 l11 l12 l13 l14 l15 l16 l17 : Bool) (s0 s1 s2 s3 s4 s5 s6 s7 s8 s9 s10 s11 s12 s13 s14 s15 : Value), l = #[l0, l1, l2, l3, l4, l5, l6, l7, l8, l9, l10, l11, l12, l13, l14, l15, l16, l17] ∧ a = { tmps := (.agg #[.int .i64 p.1, .int .i64 p.2.1, .slice sa sn sc, .slice ca cn cc] :: .int .i64 n :: .int .i64 m :: .pointer (some ⟨w.heap.size, 0, none⟩) :: undef :: undef :: .bool false :: .bool false :: ptr P :: s14 :: s15 :: .agg #[.int .i64 p.1, .int .i64 p.2.1, .slice sa sn sc, .slice ca cn cc] :: ptr P :: ptr P :: .bool false :: .bool false :: ptr P :: .int .i64 n :: .bool true :: .bool false :: .bool false :: .bool false :: ptr P :: .int .i64 m :: .bool true :: .bool false :: .bool false :: s0 :: s1 :: s2 :: s3 :: s4 :: s5 :: s6 :: s7 :: s8 :: s9 :: s10 :: s11 :: s12 :: s13 :: undef :: undef :: undef :: undef :: undef :: undef :: undef :: undef :: undef :: undef :: ([] : List Value)).toArray, defers := [] } ∧ RegA w4.drew w' P gb L cap n m (ptr xA) (.slice yAa yAn yAc) (ptr xB) (.slice yBa yBn yBc) l0 l1 l2 l3 l4 l5 l6 l7 l8 l9 l10 l11 l12 l13 l14 l15 l16 l17 s0 s1 s2 s3 s4 s5 s6 s7 s8 s9 s10 s11 s12 s13 s14 s15) ?done ?step 18 _ _ _ ⟨false, false, false, false, false, false, false, false, false, false, false, false, false, false, false, false, false, false, _, _, _, _, _, _, _, _, _, _, _, _, _, _, _, _, rfl, rfl, ?init⟩ (by decide)
  case init => exact { bel := Below.refl _ _, d0 := fun e => (by cases e), d1 := fun e => (by cases e), d2 := fun e => (by cases e), d3 := fun e => (by cases e), d4 := fun e => (by cases e), d5 := fun e => (by cases e), d6 := fun e => (by cases e), d7 := fun e => (by cases e), d8 := fun e => (by cases e), d9 := fun e => (by cases e), d10 := fun e => (by cases e), d11 := fun e => (by cases e), d12 := fun e => (by cases e), d13 := fun e => (by cases e), a14 := fun e => (by cases e), a15 := fun e => (by cases e), sep := fun e => (by cases e), d16 := fun e => (by cases e), d17 := fun e => (by cases e) }
  case step =>
    rintro l a w3 ⟨l0, l1, l2, l3, l4, l5, l6, l7, l8, l9, l10, l11, l12, l13, l14, l15, l16, l17, s0, s1, s2, s3, s4, s5, s6, s7, s8, s9, s10, s11, s12, s13, s14, s15, rfl, rfl, h⟩
    intro q hq
    have hlt9 := ready_lt hq
    match q, hq, hlt9 with
    | 0, hq, _ =>
      have hr := ready_dep hq rfl
      have hme : l0 = false := hr.1
      clear hr hq
      refine wpOp_run rfl rfl (fun K hK => ?_)
      go_simp
      refine hK _ _ ⟨true, l1, l2, l3, l4, l5, l6, l7, l8, l9, l10, l11, l12, l13, l14, l15, l16, l17, _, _, _, _, _, _, _, _, _, _, _, _, _, _, _, _, rfl, rfl, ?_⟩
      exact { bel := h.bel, d0 := fun _ => ⟨rfl, trivial⟩, d1 := fun e => absurd (h.d1 e).2 (by rw [hme]; decide), d2 := h.d2, d3 := h.d3, d4 := h.d4, d5 := h.d5, d6 := h.d6, d7 := h.d7, d8 := h.d8, d9 := h.d9, d10 := h.d10, d11 := h.d11, d12 := h.d12, d13 := h.d13, a14 := h.a14, a15 := h.a15, sep := h.sep, d16 := h.d16, d17 := h.d17 }
    | 1, hq, _ =>
      have hr := ready_dep hq rfl
      have hme : l1 = false := hr.1
      have e0 : l0 = true := hr.2 ⟨0, .data⟩ (by simp) (by kernel_rfl)
      obtain rfl := (h.d0 e0).1
      clear hr hq
      refine wpOp_run rfl rfl (fun K hK => ?_)
      go_simp
      refine hK _ _ ⟨l0, true, l2, l3, l4, l5, l6, l7, l8, l9, l10, l11, l12, l13, l14, l15, l16, l17, _, _, _, _, _, _, _, _, _, _, _, _, _, _, _, _, rfl, rfl, ?_⟩
      exact { bel := h.bel, d0 := h.d0, d1 := fun _ => ⟨rfl, e0⟩, d2 := fun e => absurd (h.d2 e).2 (by rw [hme]; decide), d3 := h.d3, d4 := h.d4, d5 := h.d5, d6 := h.d6, d7 := h.d7, d8 := h.d8, d9 := h.d9, d10 := h.d10, d11 := h.d11, d12 := h.d12, d13 := h.d13, a14 := h.a14, a15 := h.a15, sep := h.sep, d16 := h.d16, d17 := h.d17 }
    | 2, hq, _ =>
      have hr := ready_dep hq rfl
      have hme : l2 = false := hr.1
      have e1 : l1 = true := hr.2 ⟨1, .data⟩ (by simp) (by kernel_rfl)
      obtain rfl := (h.d1 e1).1
      clear hr hq
      refine wpOp_run rfl rfl (fun K hK => ?_)
      go_simp
      refine hK _ _ ⟨l0, l1, true, l3, l4, l5, l6, l7, l8, l9, l10, l11, l12, l13, l14, l15, l16, l17, _, _, _, _, _, _, _, _, _, _, _, _, _, _, _, _, rfl, rfl, ?_⟩
      exact { bel := h.bel, d0 := h.d0, d1 := h.d1, d2 := fun _ => ⟨rfl, e1⟩, d3 := fun e => absurd (h.d3 e).2 (by rw [hme]; decide), d4 := h.d4, d5 := h.d5, d6 := h.d6, d7 := h.d7, d8 := h.d8, d9 := h.d9, d10 := h.d10, d11 := h.d11, d12 := h.d12, d13 := h.d13, a14 := h.a14, a15 := h.a15, sep := h.sep, d16 := h.d16, d17 := h.d17 }
    | 3, hq, _ =>
      have hr := ready_dep hq rfl
      have hme : l3 = false := hr.1
      have e2 : l2 = true := hr.2 ⟨2, .data⟩ (by simp) (by kernel_rfl)
      obtain rfl := (h.d2 e2).1
      obtain ⟨p0, p1, p2, p3⟩ := (HXD.out.below h.bel HXD.out.lt).cells
      have ph := (HXD.out.below h.bel HXD.out.lt).heap
      have pl := (HXD.out.below h.bel HXD.out.lt).lt
      clear hr hq
      refine wpOp_run rfl rfl (fun K hK => ?_)
      go_simp
      refine hK _ _ ⟨l0, l1, l2, true, l4, l5, l6, l7, l8, l9, l10, l11, l12, l13, l14, l15, l16, l17, _, _, _, _, _, _, _, _, _, _, _, _, _, _, _, _, rfl, rfl, ?_⟩
      exact { bel := h.bel, d0 := h.d0, d1 := h.d1, d2 := h.d2, d3 := fun _ => ⟨rfl, e2⟩, d4 := h.d4, d5 := fun e => absurd (h.d5 e).2.1 (by rw [hme]; decide), d6 := h.d6, d7 := h.d7, d8 := h.d8, d9 := h.d9, d10 := h.d10, d11 := h.d11, d12 := h.d12, d13 := h.d13, a14 := h.a14, a15 := h.a15, sep := h.sep, d16 := h.d16, d17 := h.d17 }
    | 4, hq, _ =>
      have hr := ready_dep hq rfl
      have hme : l4 = false := hr.1
      clear hr hq
      refine wpOp_run rfl rfl (fun K hK => ?_)
      go_simp
      refine hK _ _ ⟨l0, l1, l2, l3, true, l5, l6, l7, l8, l9, l10, l11, l12, l13, l14, l15, l16, l17, _, _, _, _, _, _, _, _, _, _, _, _, _, _, _, _, rfl, rfl, ?_⟩
      exact { bel := h.bel, d0 := h.d0, d1 := h.d1, d2 := h.d2, d3 := h.d3, d4 := fun _ => ⟨rfl, trivial⟩, d5 := fun e => absurd (h.d5 e).2.2 (by rw [hme]; decide), d6 := h.d6, d7 := h.d7, d8 := h.d8, d9 := h.d9, d10 := h.d10, d11 := h.d11, d12 := h.d12, d13 := h.d13, a14 := h.a14, a15 := h.a15, sep := h.sep, d16 := h.d16, d17 := h.d17 }
    | 5, hq, _ =>
      have hr := ready_dep hq rfl
      have hme : l5 = false := hr.1
      have e3 : l3 = true := hr.2 ⟨3, .data⟩ (by simp) (by kernel_rfl)
      have e4 : l4 = true := hr.2 ⟨4, .data⟩ (by simp) (by kernel_rfl)
      obtain rfl := (h.d3 e3).1
      obtain rfl := (h.d4 e4).1
      clear hr hq
      refine wpOp_run rfl rfl (fun K hK => ?_)
      go_simp
      refine hK _ _ ⟨l0, l1, l2, l3, l4, true, l6, l7, l8, l9, l10, l11, l12, l13, l14, l15, l16, l17, _, _, _, _, _, _, _, _, _, _, _, _, _, _, _, _, rfl, rfl, ?_⟩
      exact { bel := h.bel, d0 := h.d0, d1 := h.d1, d2 := h.d2, d3 := h.d3, d4 := h.d4, d5 := fun _ => ⟨rfl, e3, e4⟩, d6 := fun e => absurd (h.d6 e).2 (by rw [hme]; decide), d7 := h.d7, d8 := h.d8, d9 := h.d9, d10 := h.d10, d11 := h.d11, d12 := h.d12, d13 := h.d13, a14 := h.a14, a15 := h.a15, sep := h.sep, d16 := h.d16, d17 := h.d17 }
    | 6, hq, _ =>
      have hr := ready_dep hq rfl
      have hme : l6 = false := hr.1
      have e5 : l5 = true := hr.2 ⟨5, .data⟩ (by simp) (by kernel_rfl)
      obtain rfl := (h.d5 e5).1
      obtain ⟨cx2, cy2⟩ := HCA.out w3 h.bel
      clear hr hq
      refine wpOp_run rfl rfl (fun K hK => ?_)
      go_simp
      refine hK _ _ ⟨l0, l1, l2, l3, l4, l5, true, l7, l8, l9, l10, l11, l12, l13, l14, l15, l16, l17, _, _, _, _, _, _, _, _, _, _, _, _, _, _, _, _, rfl, rfl, ?_⟩
      exact { bel := h.bel, d0 := h.d0, d1 := h.d1, d2 := h.d2, d3 := h.d3, d4 := h.d4, d5 := h.d5, d6 := fun _ => ⟨rfl, e5⟩, d7 := h.d7, d8 := h.d8, d9 := h.d9, d10 := h.d10, d11 := h.d11, d12 := h.d12, d13 := h.d13, a14 := h.a14, a15 := h.a15, sep := h.sep, d16 := fun e => absurd (h.d16 e).2 (by rw [hme]; decide), d17 := h.d17 }
    | 7, hq, _ =>
      have hr := ready_dep hq rfl
      have hme : l7 = false := hr.1
      clear hr hq
      refine wpOp_run rfl rfl (fun K hK => ?_)
      go_simp
      refine hK _ _ ⟨l0, l1, l2, l3, l4, l5, l6, true, l8, l9, l10, l11, l12, l13, l14, l15, l16, l17, _, _, _, _, _, _, _, _, _, _, _, _, _, _, _, _, rfl, rfl, ?_⟩
      exact { bel := h.bel, d0 := h.d0, d1 := h.d1, d2 := h.d2, d3 := h.d3, d4 := h.d4, d5 := h.d5, d6 := h.d6, d7 := fun _ => ⟨rfl, trivial⟩, d8 := fun e => absurd (h.d8 e).2 (by rw [hme]; decide), d9 := h.d9, d10 := h.d10, d11 := h.d11, d12 := h.d12, d13 := h.d13, a14 := h.a14, a15 := h.a15, sep := h.sep, d16 := h.d16, d17 := h.d17 }
    | 8, hq, _ =>
      have hr := ready_dep hq rfl
      have hme : l8 = false := hr.1
      have e7 : l7 = true := hr.2 ⟨7, .data⟩ (by simp) (by kernel_rfl)
      obtain rfl := (h.d7 e7).1
      clear hr hq
      refine wpOp_run rfl rfl (fun K hK => ?_)
      go_simp
      refine hK _ _ ⟨l0, l1, l2, l3, l4, l5, l6, l7, true, l9, l10, l11, l12, l13, l14, l15, l16, l17, _, _, _, _, _, _, _, _, _, _, _, _, _, _, _, _, rfl, rfl, ?_⟩
      exact { bel := h.bel, d0 := h.d0, d1 := h.d1, d2 := h.d2, d3 := h.d3, d4 := h.d4, d5 := h.d5, d6 := h.d6, d7 := h.d7, d8 := fun _ => ⟨rfl, e7⟩, d9 := fun e => absurd (h.d9 e).2 (by rw [hme]; decide), d10 := h.d10, d11 := h.d11, d12 := h.d12, d13 := h.d13, a14 := h.a14, a15 := h.a15, sep := h.sep, d16 := h.d16, d17 := h.d17 }
    | 9, hq, _ =>
      have hr := ready_dep hq rfl
      have hme : l9 = false := hr.1
      have e8 : l8 = true := hr.2 ⟨8, .data⟩ (by simp) (by kernel_rfl)
      obtain rfl := (h.d8 e8).1
      clear hr hq
      refine wpOp_run rfl rfl (fun K hK => ?_)
      go_simp
      refine hK _ _ ⟨l0, l1, l2, l3, l4, l5, l6, l7, l8, true, l10, l11, l12, l13, l14, l15, l16, l17, _, _, _, _, _, _, _, _, _, _, _, _, _, _, _, _, rfl, rfl, ?_⟩
      exact { bel := h.bel, d0 := h.d0, d1 := h.d1, d2 := h.d2, d3 := h.d3, d4 := h.d4, d5 := h.d5, d6 := h.d6, d7 := h.d7, d8 := h.d8, d9 := fun _ => ⟨rfl, e8⟩, d10 := fun e => absurd (h.d10 e).2 (by rw [hme]; decide), d11 := h.d11, d12 := h.d12, d13 := h.d13, a14 := h.a14, a15 := h.a15, sep := h.sep, d16 := h.d16, d17 := h.d17 }
    | 10, hq, _ =>
      have hr := ready_dep hq rfl
      have hme : l10 = false := hr.1
      have e9 : l9 = true := hr.2 ⟨9, .data⟩ (by simp) (by kernel_rfl)
      obtain rfl := (h.d9 e9).1
      obtain ⟨p0, p1, p2, p3⟩ := (HXD.out.below h.bel HXD.out.lt).cells
      have ph := (HXD.out.below h.bel HXD.out.lt).heap
      have pl := (HXD.out.below h.bel HXD.out.lt).lt
      clear hr hq
      refine wpOp_run rfl rfl (fun K hK => ?_)
      go_simp
      refine hK _ _ ⟨l0, l1, l2, l3, l4, l5, l6, l7, l8, l9, true, l11, l12, l13, l14, l15, l16, l17, _, _, _, _, _, _, _, _, _, _, _, _, _, _, _, _, rfl, rfl, ?_⟩
      exact { bel := h.bel, d0 := h.d0, d1 := h.d1, d2 := h.d2, d3 := h.d3, d4 := h.d4, d5 := h.d5, d6 := h.d6, d7 := h.d7, d8 := h.d8, d9 := h.d9, d10 := fun _ => ⟨rfl, e9⟩, d11 := h.d11, d12 := fun e => absurd (h.d12 e).2.1 (by rw [hme]; decide), d13 := h.d13, a14 := h.a14, a15 := h.a15, sep := h.sep, d16 := h.d16, d17 := h.d17 }
    | 11, hq, _ =>
      have hr := ready_dep hq rfl
      have hme : l11 = false := hr.1
      clear hr hq
      refine wpOp_run rfl rfl (fun K hK => ?_)
      go_simp
      refine hK _ _ ⟨l0, l1, l2, l3, l4, l5, l6, l7, l8, l9, l10, true, l12, l13, l14, l15, l16, l17, _, _, _, _, _, _, _, _, _, _, _, _, _, _, _, _, rfl, rfl, ?_⟩
      exact { bel := h.bel, d0 := h.d0, d1 := h.d1, d2 := h.d2, d3 := h.d3, d4 := h.d4, d5 := h.d5, d6 := h.d6, d7 := h.d7, d8 := h.d8, d9 := h.d9, d10 := h.d10, d11 := fun _ => ⟨rfl, trivial⟩, d12 := fun e => absurd (h.d12 e).2.2 (by rw [hme]; decide), d13 := h.d13, a14 := h.a14, a15 := h.a15, sep := h.sep, d16 := h.d16, d17 := h.d17 }
    | 12, hq, _ =>
      have hr := ready_dep hq rfl
      have hme : l12 = false := hr.1
      have e10 : l10 = true := hr.2 ⟨10, .data⟩ (by simp) (by kernel_rfl)
      have e11 : l11 = true := hr.2 ⟨11, .data⟩ (by simp) (by kernel_rfl)
      obtain rfl := (h.d10 e10).1
      obtain rfl := (h.d11 e11).1
      clear hr hq
      refine wpOp_run rfl rfl (fun K hK => ?_)
      go_simp
      refine hK _ _ ⟨l0, l1, l2, l3, l4, l5, l6, l7, l8, l9, l10, l11, true, l13, l14, l15, l16, l17, _, _, _, _, _, _, _, _, _, _, _, _, _, _, _, _, rfl, rfl, ?_⟩
      exact { bel := h.bel, d0 := h.d0, d1 := h.d1, d2 := h.d2, d3 := h.d3, d4 := h.d4, d5 := h.d5, d6 := h.d6, d7 := h.d7, d8 := h.d8, d9 := h.d9, d10 := h.d10, d11 := h.d11, d12 := fun _ => ⟨rfl, e10, e11⟩, d13 := fun e => absurd (h.d13 e).2 (by rw [hme]; decide), a14 := h.a14, a15 := h.a15, sep := h.sep, d16 := h.d16, d17 := h.d17 }
    | 13, hq, _ =>
      have hr := ready_dep hq rfl
      have hme : l13 = false := hr.1
      have e12 : l12 = true := hr.2 ⟨12, .data⟩ (by simp) (by kernel_rfl)
      obtain rfl := (h.d12 e12).1
      obtain ⟨cx2, cy2⟩ := HCB.out w3 h.bel
      clear hr hq
      refine wpOp_run rfl rfl (fun K hK => ?_)
      go_simp
      refine hK _ _ ⟨l0, l1, l2, l3, l4, l5, l6, l7, l8, l9, l10, l11, l12, true, l14, l15, l16, l17, _, _, _, _, _, _, _, _, _, _, _, _, _, _, _, _, rfl, rfl, ?_⟩
      exact { bel := h.bel, d0 := h.d0, d1 := h.d1, d2 := h.d2, d3 := h.d3, d4 := h.d4, d5 := h.d5, d6 := h.d6, d7 := h.d7, d8 := h.d8, d9 := h.d9, d10 := h.d10, d11 := h.d11, d12 := h.d12, d13 := fun _ => ⟨rfl, e12⟩, a14 := h.a14, a15 := h.a15, sep := h.sep, d16 := h.d16, d17 := fun e => absurd (h.d17 e).2.1 (by rw [hme]; decide) }
    | 14, hq, _ =>
      have hr := ready_dep hq rfl
      have hme : l14 = false := hr.1
      have hst : l16 = false := by
        cases hc9 : l16 with
        | false => rfl
        | true => exact absurd (h.d16 hc9).1 (by rw [hme]; decide)
      subst hst
      clear hr hq
      refine wpOp_run rfl rfl (fun K hK => ?_)
      go_simp
      refine hK _ _ ⟨l0, l1, l2, l3, l4, l5, l6, l7, l8, l9, l10, l11, l12, l13, true, l15, false, l17, _, _, _, _, _, _, _, _, _, _, _, _, _, _, _, _, rfl, rfl, ?_⟩
      exact { bel := h.bel.alloc h.bel.size _, d0 := h.d0, d1 := h.d1, d2 := h.d2, d3 := h.d3, d4 := h.d4, d5 := h.d5, d6 := h.d6, d7 := h.d7, d8 := h.d8, d9 := h.d9, d10 := h.d10, d11 := h.d11, d12 := h.d12, d13 := h.d13, a14 := fun _ => ⟨w3.heap.size, rfl, h.bel.size, box2_alloc w3 _ _ _⟩, a15 := fun e => (by obtain ⟨g, e1, e2, e3⟩ := h.a15 e; exact ⟨g, e1, e2, e3.alloc _⟩), sep := fun _ e => (by obtain ⟨g, e1, e2, e3⟩ := h.a15 e; have h9 := e3.lt; rw [e1]; intro hh; injection hh with hh; injection hh with hh; injection hh with hh; omega), d16 := fun e => (by cases e), d17 := h.d17 }
    | 15, hq, _ =>
      have hr := ready_dep hq rfl
      have hme : l15 = false := hr.1
      have hst : l17 = false := by
        cases hc9 : l17 with
        | false => rfl
        | true => exact absurd (h.d17 hc9).1 (by rw [hme]; decide)
      subst hst
      clear hr hq
      refine wpOp_run rfl rfl (fun K hK => ?_)
      go_simp
      refine hK _ _ ⟨l0, l1, l2, l3, l4, l5, l6, l7, l8, l9, l10, l11, l12, l13, l14, true, l16, false, _, _, _, _, _, _, _, _, _, _, _, _, _, _, _, _, rfl, rfl, ?_⟩
      exact { bel := h.bel.alloc h.bel.size _, d0 := h.d0, d1 := h.d1, d2 := h.d2, d3 := h.d3, d4 := h.d4, d5 := h.d5, d6 := h.d6, d7 := h.d7, d8 := h.d8, d9 := h.d9, d10 := h.d10, d11 := h.d11, d12 := h.d12, d13 := h.d13, a14 := fun e => (by obtain ⟨g, e1, e2, e3⟩ := h.a14 e; exact ⟨g, e1, e2, e3.alloc _⟩), a15 := fun _ => ⟨w3.heap.size, rfl, h.bel.size, box2_alloc w3 _ _ _⟩, sep := fun e _ => (by obtain ⟨g, e1, e2, e3⟩ := h.a14 e; have h9 := e3.lt; rw [e1]; intro hh; injection hh with hh; injection hh with hh; injection hh with hh; omega), d16 := h.d16, d17 := fun e => (by cases e) }
    | 16, hq, _ =>
      have hr := ready_dep hq rfl
      have hme : l16 = false := hr.1
      have e14 : l14 = true := hr.2 ⟨14, .data⟩ (by simp) (by kernel_rfl)
      have e6 : l6 = true := hr.2 ⟨6, .data⟩ (by simp) (by kernel_rfl)
      have e15 : l15 = true := hr.2 ⟨15, .phase⟩ (by simp) (by kernel_rfl)
      subst hme
      obtain ⟨g9, rfl, hge, hbx⟩ := h.a14 e14
      obtain rfl := (h.d6 e6).1
      have hsep := h.sep e14 e15
      change Box2 w3 g9 108 (.pointer none) (.slice none 0 0) at hbx
      obtain ⟨k0, k1⟩ := hbx.cells
      have kh := hbx.heap
      have kl := hbx.lt
      have f0 := hbx.frozen 0
      have f1 := hbx.frozen 1
      clear hr hq
      refine wpOp_run rfl rfl (fun K hK => ?_)
      go_simp
      refine hK _ _ ⟨l0, l1, l2, l3, l4, l5, l6, l7, l8, l9, l10, l11, l12, l13, l14, l15, true, l17, _, _, _, _, _, _, _, _, _, _, _, _, _, _, _, _, rfl, rfl, ?_⟩
      exact { bel := (h.bel.setCell (p := ⟨g9, 0, none⟩) hge _).setCell (p := ⟨g9, 1, none⟩) hge _, d0 := h.d0, d1 := h.d1, d2 := h.d2, d3 := h.d3, d4 := h.d4, d5 := h.d5, d6 := h.d6, d7 := h.d7, d8 := h.d8, d9 := h.d9, d10 := h.d10, d11 := h.d11, d12 := h.d12, d13 := h.d13, a14 := fun _ => ⟨g9, rfl, hge, (hbx.set0 _).set1 _⟩, a15 := fun e => (by obtain ⟨g, e1, e2, e3⟩ := h.a15 e; exact ⟨g, e1, e2, (e3.other (fun hh => hsep (by rw [e1, hh])) _).other (fun hh => hsep (by rw [e1, hh])) _⟩), sep := h.sep, d16 := fun _ => ⟨e14, e6⟩, d17 := fun e => absurd (h.d17 e).2.2 (by decide) }
    | 17, hq, _ =>
      have hr := ready_dep hq rfl
      have hme : l17 = false := hr.1
      have e15 : l15 = true := hr.2 ⟨15, .data⟩ (by simp) (by kernel_rfl)
      have e13 : l13 = true := hr.2 ⟨13, .data⟩ (by simp) (by kernel_rfl)
      have e16 : l16 = true := hr.2 ⟨16, .chain⟩ (by simp) (by kernel_rfl)
      subst hme
      obtain ⟨g9, rfl, hge, hbx⟩ := h.a15 e15
      obtain rfl := (h.d13 e13).1
      have hsep := h.sep (h.d16 e16).1 e15
      change Box2 w3 g9 108 (.pointer none) (.slice none 0 0) at hbx
      obtain ⟨k0, k1⟩ := hbx.cells
      have kh := hbx.heap
      have kl := hbx.lt
      have f0 := hbx.frozen 0
      have f1 := hbx.frozen 1
      clear hr hq
      refine wpOp_run rfl rfl (fun K hK => ?_)
      go_simp
      refine hK _ _ ⟨l0, l1, l2, l3, l4, l5, l6, l7, l8, l9, l10, l11, l12, l13, l14, l15, l16, true, _, _, _, _, _, _, _, _, _, _, _, _, _, _, _, _, rfl, rfl, ?_⟩
      exact { bel := (h.bel.setCell (p := ⟨g9, 0, none⟩) hge _).setCell (p := ⟨g9, 1, none⟩) hge _, d0 := h.d0, d1 := h.d1, d2 := h.d2, d3 := h.d3, d4 := h.d4, d5 := h.d5, d6 := h.d6, d7 := h.d7, d8 := h.d8, d9 := h.d9, d10 := h.d10, d11 := h.d11, d12 := h.d12, d13 := h.d13, a14 := fun e => (by obtain ⟨g, e1, e2, e3⟩ := h.a14 e; exact ⟨g, e1, e2, (e3.other (fun hh => hsep (by rw [e1, hh])) _).other (fun hh => hsep (by rw [e1, hh])) _⟩), a15 := fun _ => ⟨g9, rfl, hge, (hbx.set0 _).set1 _⟩, sep := h.sep, d16 := h.d16, d17 := fun _ => ⟨e15, e13, e16⟩ }
    | k + 18, hq, h18 => exact (Nat.not_lt_of_le (Nat.le_add_left 18 k) h18).elim
  case done =>
    rintro l a w5 ⟨l0, l1, l2, l3, l4, l5, l6, l7, l8, l9, l10, l11, l12, l13, l14, l15, l16, l17, s0, s1, s2, s3, s4, s5, s6, s7, s8, s9, s10, s11, s12, s13, s14, s15, rfl, rfl, h⟩ hr
    cases l0
    · exact (ready_none2 hr 0 rfl rfl rfl).elim
    cases l1
    · exact (ready_none2 hr 1 rfl rfl rfl).elim
    cases l2
    · exact (ready_none2 hr 2 rfl rfl rfl).elim
    cases l3
    · exact (ready_none2 hr 3 rfl rfl rfl).elim
    cases l4
    · exact (ready_none2 hr 4 rfl rfl rfl).elim
    cases l5
    · exact (ready_none2 hr 5 rfl rfl rfl).elim
    cases l6
    · exact (ready_none2 hr 6 rfl rfl rfl).elim
    cases l7
    · exact (ready_none2 hr 7 rfl rfl rfl).elim
    cases l8
    · exact (ready_none2 hr 8 rfl rfl rfl).elim
    cases l9
    · exact (ready_none2 hr 9 rfl rfl rfl).elim
    cases l10
    · exact (ready_none2 hr 10 rfl rfl rfl).elim
    cases l11
    · exact (ready_none2 hr 11 rfl rfl rfl).elim
    cases l12
    · exact (ready_none2 hr 12 rfl rfl rfl).elim
    cases l13
    · exact (ready_none2 hr 13 rfl rfl rfl).elim
    cases l14
    · exact (ready_none2 hr 14 rfl rfl rfl).elim
    cases l15
    · exact (ready_none2 hr 15 rfl rfl rfl).elim
    cases l16
    · exact (ready_none2 hr 16 rfl rfl rfl).elim
    cases l17
    · exact (ready_none2 hr 17 rfl rfl rfl).elim
    obtain rfl := (h.d0 rfl).1
    obtain rfl := (h.d1 rfl).1
    obtain rfl := (h.d2 rfl).1
    obtain rfl := (h.d3 rfl).1
    obtain rfl := (h.d4 rfl).1
    obtain rfl := (h.d5 rfl).1
    obtain rfl := (h.d6 rfl).1
    obtain rfl := (h.d7 rfl).1
    obtain rfl := (h.d8 rfl).1
    obtain rfl := (h.d9 rfl).1
    obtain rfl := (h.d10 rfl).1
    obtain rfl := (h.d11 rfl).1
    obtain rfl := (h.d12 rfl).1
    obtain rfl := (h.d13 rfl).1
    have HB5E := h.bel
    obtain ⟨gA, rfl, hgA, hbA⟩ := h.a14 rfl
    obtain ⟨gB, rfl, hgB, hbB⟩ := h.a15 rfl
    have HKA : Hid (Box2 w5 gA 108 (ptr xA) (.slice yAa yAn yAc)) := hbA
    have HKB : Hid (Box2 w5 gB 108 (ptr xB) (.slice yBa yBn yBc)) := hbB
    clear hr h hbA hbB
    have HB5 : Hid (Below w.heap.size w w5) := HB4.out.trans (HB5E.mono HB4.out.size)
    have HS5 : Hid (Below w1.heap.size w1 w5) := HS4.out.trans (HB5E.mono HS4.out.size)
    obtain ⟨a0, a1⟩ := HKA.out.cells
    have ah := HKA.out.heap
    have al := HKA.out.lt
    obtain ⟨b0, b1⟩ := HKB.out.cells
    have bh := HKB.out.heap
    have bl := HKB.out.lt
    have g5 := GD1.out w5 HS5.out
    clear HB5E HB4 HS4 HXD HCA HCB hgA hgB hnn hmm GD1
    go_wp2_with fail
    refine g5.mono ?_
    rintro e w6 ⟨rfl, hs6⟩
    have HB6 : Hid (Below w.heap.size w w6) := HB5.out.trans (hs6.mono HB5.out.size)
    have hx9 := HKA.out.below hs6 HKA.out.lt
    have hy9 := HKB.out.below hs6 HKB.out.lt
    obtain ⟨c0, c1⟩ := hx9.cells
    have ch := hx9.heap
    have cl := hx9.lt
    obtain ⟨d0, d1⟩ := hy9.cells
    have dh := hy9.heap
    have dl := hy9.lt
    have g6 := GD2.out w6 (HS5.out.trans (hs6.mono HS5.out.size))
    clear g5 hs6 hx9 hy9 a0 a1 ah al b0 b1 bh bl HKA HKB GD2
    cases Q1 with
    | true =>
      clear g6
      go_wp2_with fail
      go_ret2
      exact ⟨by rw [HF.out, HF2.out]; rfl, HB6.out⟩
    | false =>
      go_wp2_with fail
      refine g6.mono ?_
      rintro e w7 ⟨rfl, hs7⟩
      have HB7 : Hid (Below w.heap.size w w7) := HB6.out.trans (hs7.mono HB6.out.size)
      clear g6 hs7 c0 c1 ch cl d0 d1 dh dl
      go_wp2_with fail
      go_ret2
      exact ⟨by rw [HF.out, HF2.out]; rfl, HB7.out⟩
end Go.Proofs.YtjbolpfilgkbfaaDoor
