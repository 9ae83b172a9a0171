/-
  The program's numbered.
  The program's list: a state as a list of its own.
  The program's StateOf.
  A command of a state once more: the next state's words.
  An append of a row, nil or not, to a row of the call's own (as in the part Grown of chapter 4).
  A region whose operations come up in whatever order, by an invariant (as in the part Reg5 of chapter 5); what has come up of l7Do's.
  The model's l7Do.
  The model's l1Has.
  The model's StepBy.
  The program's StepBy.
-/
import Derived.Test.YtjbolpfilgkbfaaDoorKP93
import Derived.Test.YtjbolpfilgkbfaaDoorOwn5
import Derived.Test.YtjbolpfilgkbfaaDoorOwn
import Derived.Test.YtjbolpfilgkbfaaDoorStrong
import Derived.Test.YtjbolpfilgkbfaaDoorNeed
import Derived.Test.YtjbolpfilgkbfaaDoorKP92
import Derived.Test.YtjbolpfilgkbfaaDoorKP91
namespace Go.Proofs.YtjbolpfilgkbfaaDoor
open Go Go.RowKit
open M
set_option linter.unusedVariables false

/-- a word, laid once its place has been met -/
def shJ (k : Nat) (no : Int) (i j : Nat) : Value := if i < j then .int .u64 (no / 2 ^ (k * i)) else .int .u64 0
theorem results_c4 {fn : Func} {p : Tmp} (h : fn.results = #[.cell p 90]) (tmps : Array Value) (w : World) (g : Nat) (t : TypeId) (cs : Array Value) (fr : Nat × Nat)
    (hp : tmps.getD p undef = .pointer (some ⟨g, 0, none⟩)) (hg : w.heap[g]? = some (.cells cs t fr)) (hi : cs.size = 4 := by rfl) :
    (results fn tmps).run Tryd.prog w = .ok (.agg cs) w := by
  have hp' : tmps[p]?.getD undef = .pointer (some ⟨g, 0, none⟩) := by simpa using hp
  have h4 : (Tryd.prog.info? 90).map (·.size) = some 4 := by kernel_rfl
  simp [results, h, hp', asAddr, run_loadVar_row w g t 90 cs fr _ hg Tryd.underlying90 rfl (by rw [hi]; exact h4)]
set_option maxRecDepth 100000 in
set_option maxHeartbeats 4000000 in
theorem numbered_any {k vars : Nat} (hk1 : 1 ≤ k) (hk5 : k ≤ 5) (hm5 : k * vars ≤ 5) (P : Nat) (u y : Value) (no : Int) (h0 : 0 ≤ no) (h1 : no < 2 ^ (k * vars)) (w : World) (hT : Tab w) (hPx : Box4 w P 111 (.int .i64 k) (.int .i64 vars) u y) :
    Calls Tryd.prog 89 #[ptr P, .int .i64 no] w fun e w' => e = .returned (aggS (ofL k vars no)) ∧ Below w.heap.size w w' := by
  have hno : no < 32 := Int.lt_of_lt_of_le h1 (by have := two_mono hm5; omega)
  have hb2 : Below w.heap.size w ((w.alloc (.cells #[.int .u64 0, .int .u64 0, .int .u64 0, .int .u64 0] 90)).alloc (.cells #[.int .u64 0, .int .u64 0, .int .u64 0, .int .u64 0] 90)) := ((Below.refl _ _).alloc (Nat.le_refl _) _).alloc (by rw [World.size_alloc]; omega) _
  have z0 := (box4_alloc w 90 (.int .u64 0) (.int .u64 0) (.int .u64 0) (.int .u64 0)).alloc (.cells #[.int .u64 0, .int .u64 0, .int .u64 0, .int .u64 0] 90)
  have x0 := box4_alloc (w.alloc (.cells #[.int .u64 0, .int .u64 0, .int .u64 0, .int .u64 0] 90)) 90 (.int .u64 0) (.int .u64 0) (.int .u64 0) (.int .u64 0)
  simp only [World.size_alloc] at x0
  have HX0 : Hid (Box4 ((w.alloc (.cells #[.int .u64 0, .int .u64 0, .int .u64 0, .int .u64 0] 90)).alloc (.cells #[.int .u64 0, .int .u64 0, .int .u64 0, .int .u64 0] 90)) (w.heap.size + 1) 90 (shJ k no 0 0) (shJ k no 1 0) (shJ k no 2 0) (shJ k no 3 0)) := x0
  have HZ0 : Hid (Box4 ((w.alloc (.cells #[.int .u64 0, .int .u64 0, .int .u64 0, .int .u64 0] 90)).alloc (.cells #[.int .u64 0, .int .u64 0, .int .u64 0, .int .u64 0] 90)) w.heap.size 90 (.int .u64 0) (.int .u64 0) (.int .u64 0) (.int .u64 0)) := z0
  have HB0 : Hid _ := hb2
  have HP : Hid (∀ w1 : World, Below w.heap.size w w1 → Box4 w1 P 111 (.int .i64 k) (.int .i64 vars) u y) := fun w1 hb => hPx.below hb hPx.lt
  have HSH : Hid (∀ j : Nat, 0 ≤ no / 2 ^ (k * j) ∧ no / 2 ^ (k * j) ≤ 31) := fun j => by
    have hp := two_pos (k * j)
    have h2 := Int.ediv_le_self (2 ^ (k * j)) h0
    exact ⟨Int.ediv_nonneg h0 (by omega), by omega⟩
  have HM : Hid (∀ j : Nat, j < 4 → IntKind.i64.wrap ((k : Int) * (j : Int)) = ((k * j : Nat) : Int)) := fun j hj => by
    have : k * j ≤ 15 := Nat.le_trans (Nat.mul_le_mul hk5 (by omega : j ≤ 3)) (by omega)
    rw [← Int.natCast_mul]
    exact IntWalk.i64_in _ ⟨by omega, by omega⟩
  have hns : no / 2 ^ (k * 0) = no := by simp
  clear z0 x0 hb2 hPx
  go_enter Tryd.func89, Tryd.ntmps89
  go_wp2_with fail
  go_loopw [7] (fun i wr => ∃ j : Nat, j ≤ 4 ∧ i = .int .i64 j ∧ Hid (Box4 wr (w.heap.size + 1) 90 (shJ k no 0 j) (shJ k no 1 j) (shJ k no 2 j) (shJ k no 3 j)) ∧ Hid (Box4 wr w.heap.size 90 (.int .u64 0) (.int .u64 0) (.int .u64 0) (.int .u64 0)) ∧ Hid (Below w.heap.size w wr)) (fun i _ => 4 - (intOf i).toNat)
  case atStart => exact ⟨0, by omega, rfl, HX0, HZ0, HB0⟩
  case round =>
    obtain ⟨j, hj, rfl, HX, HZ, HB⟩ := hrel
    clear HX0 HZ0 HB0
    by_cases hlt : j < 4
    · rcases (show j = 0 ∨ j = 1 ∨ j = 2 ∨ j = 3 by omega) with rfl | rfl | rfl | rfl
      · have e1 : 0 ≤ no ∧ no ≤ 31 := ⟨h0, by omega⟩
        have HX2 : Hid (Box4 (wr.setCell ⟨w.heap.size + 1, 0, none⟩ (.int .u64 no)) (w.heap.size + 1) 90 (shJ k no 0 1) (shJ k no 1 1) (shJ k no 2 1) (shJ k no 3 1)) := by
          have h := HX.out.set0 (.int .u64 no)
          simp [shJ] at h ⊢
          exact h
        have HZ2 : Hid _ := HZ.out.other (o := 0) (b' := w.heap.size + 1) (by omega) (.int .u64 no)
        have HB2 : Hid (Below w.heap.size w (wr.setCell ⟨w.heap.size + 1, 0, none⟩ (.int .u64 no))) := HB.out.setCell (Nat.le_succ _) _
        have hf := HX.out.frozen 0
        obtain ⟨c0, c1, c2, c3⟩ := HX.out.cells
        have ch := HX.out.heap
        have cl := HX.out.lt
        obtain ⟨p0, p1, p2, p3⟩ := (HP.out wr HB.out).cells
        have ph := (HP.out wr HB.out).heap
        have pl := (HP.out wr HB.out).lt
        have hm := HM.out 0 (by omega)
        clear HX HZ HB hT
        go_wp2_with fail
        go_roundw
        case rel => exact ⟨1, by omega, by go_num, HX2, HZ2, HB2⟩
        case measure => simp [intOf]
      · have e1 : 0 ≤ no / 2 ^ k ∧ no / 2 ^ k ≤ 31 := by
          have := HSH.out 1
          rwa [Nat.mul_one] at this
        have HX2 : Hid (Box4 (wr.setCell ⟨w.heap.size + 1, 1, none⟩ (.int .u64 (no / 2 ^ k))) (w.heap.size + 1) 90 (shJ k no 0 2) (shJ k no 1 2) (shJ k no 2 2) (shJ k no 3 2)) := by
          have h := HX.out.set1 (.int .u64 (no / 2 ^ k))
          simp [shJ] at h ⊢
          exact h
        have HZ2 : Hid _ := HZ.out.other (o := 1) (b' := w.heap.size + 1) (by omega) (.int .u64 (no / 2 ^ k))
        have HB2 : Hid (Below w.heap.size w (wr.setCell ⟨w.heap.size + 1, 1, none⟩ (.int .u64 (no / 2 ^ k)))) := HB.out.setCell (Nat.le_succ _) _
        have hf := HX.out.frozen 1
        obtain ⟨c0, c1, c2, c3⟩ := HX.out.cells
        have ch := HX.out.heap
        have cl := HX.out.lt
        obtain ⟨p0, p1, p2, p3⟩ := (HP.out wr HB.out).cells
        have ph := (HP.out wr HB.out).heap
        have pl := (HP.out wr HB.out).lt
        have hm := HM.out 1 (by omega)
        clear HX HZ HB hT
        go_wp2_with fail
        go_roundw
        case rel => exact ⟨2, by omega, by go_num, HX2, HZ2, HB2⟩
        case measure => simp [intOf]
      · have e1 := HSH.out 2
        have HX2 : Hid (Box4 (wr.setCell ⟨w.heap.size + 1, 2, none⟩ (.int .u64 (no / 2 ^ (k * 2)))) (w.heap.size + 1) 90 (shJ k no 0 3) (shJ k no 1 3) (shJ k no 2 3) (shJ k no 3 3)) := by
          have h := HX.out.set2 (.int .u64 (no / 2 ^ (k * 2)))
          simp only [shJ] at h ⊢
          exact h
        have HZ2 : Hid _ := HZ.out.other (o := 2) (b' := w.heap.size + 1) (by omega) (.int .u64 (no / 2 ^ (k * 2)))
        have HB2 : Hid (Below w.heap.size w (wr.setCell ⟨w.heap.size + 1, 2, none⟩ (.int .u64 (no / 2 ^ (k * 2))))) := HB.out.setCell (Nat.le_succ _) _
        have hf := HX.out.frozen 2
        obtain ⟨c0, c1, c2, c3⟩ := HX.out.cells
        have ch := HX.out.heap
        have cl := HX.out.lt
        obtain ⟨p0, p1, p2, p3⟩ := (HP.out wr HB.out).cells
        have ph := (HP.out wr HB.out).heap
        have pl := (HP.out wr HB.out).lt
        have hm := HM.out 2 (by omega)
        clear HX HZ HB hT
        go_wp2_with fail
        go_roundw
        case rel => exact ⟨3, by omega, by go_num, HX2, HZ2, HB2⟩
        case measure => simp [intOf]
      · have e1 := HSH.out 3
        have HX2 : Hid (Box4 (wr.setCell ⟨w.heap.size + 1, 3, none⟩ (.int .u64 (no / 2 ^ (k * 3)))) (w.heap.size + 1) 90 (shJ k no 0 4) (shJ k no 1 4) (shJ k no 2 4) (shJ k no 3 4)) := by
          have h := HX.out.set3 (.int .u64 (no / 2 ^ (k * 3)))
          simp only [shJ] at h ⊢
          exact h
        have HZ2 : Hid _ := HZ.out.other (o := 3) (b' := w.heap.size + 1) (by omega) (.int .u64 (no / 2 ^ (k * 3)))
        have HB2 : Hid (Below w.heap.size w (wr.setCell ⟨w.heap.size + 1, 3, none⟩ (.int .u64 (no / 2 ^ (k * 3))))) := HB.out.setCell (Nat.le_succ _) _
        have hf := HX.out.frozen 3
        obtain ⟨c0, c1, c2, c3⟩ := HX.out.cells
        have ch := HX.out.heap
        have cl := HX.out.lt
        obtain ⟨p0, p1, p2, p3⟩ := (HP.out wr HB.out).cells
        have ph := (HP.out wr HB.out).heap
        have pl := (HP.out wr HB.out).lt
        have hm := HM.out 3 (by omega)
        clear HX HZ HB hT
        go_wp2_with fail
        go_roundw
        case rel => exact ⟨4, by omega, by go_num, HX2, HZ2, HB2⟩
        case measure => simp [intOf]
    · obtain rfl : j = 4 := by omega
      have hx : Box4 wr (w.heap.size + 1) 90 (.int .u64 (no / 2 ^ (k * 0))) (.int .u64 (no / 2 ^ (k * 1))) (.int .u64 (no / 2 ^ (k * 2))) (.int .u64 (no / 2 ^ (k * 3))) := HX.out
      obtain ⟨c0, c1, c2, c3⟩ := hx.cells
      have ch := hx.heap
      have cl := hx.lt
      obtain ⟨p0, p1, p2, p3⟩ := (HP.out wr HB.out).cells
      have ph := (HP.out wr HB.out).heap
      have pl := (HP.out wr HB.out).lt
      obtain ⟨z0, z1, z2, z3⟩ := HZ.out.cells
      have zh := HZ.out.heap
      have zl := HZ.out.lt
      have HBD : Hid (Below w.heap.size w wr.drew) := HB.out.drew
      have HZD : Hid (Box4 wr.drew w.heap.size 90 (.int .u64 0) (.int .u64 0) (.int .u64 0) (.int .u64 0)) := ⟨HZ.out.heap⟩
      have HSZ : Hid (w.heap.size + 2 ≤ wr.heap.size) := by
        have : w.heap.size + 1 < wr.heap.size := cl
        show w.heap.size + 2 ≤ wr.heap.size
        omega
      have u3 : ∀ j : Nat, 0 ≤ no / 2 ^ (k * j) ∧ no / 2 ^ (k * j) ≤ 18446744073709551615 := fun j => ⟨(HSH.out j).1, by have := (HSH.out j).2; omega⟩
      have GC : Hid (Calls Tryd.prog 118 #[.agg #[.int .u64 (no / 2 ^ (k * 0)), .int .u64 (no / 2 ^ (k * 1)), .int .u64 (no / 2 ^ (k * 2)), .int .u64 (no / 2 ^ (k * 3))], .int .i64 k] wr.drew _) := cutS_any k hk1 (by omega) _ _ _ _ (u3 0) (u3 1) (u3 2) (u3 3) wr.drew (hT.below HBD.out hT.some)
      have he : ∀ j : Nat, cut k (no / 2 ^ (k * j)) = padW (ofL k vars no) j := fun j => by
        rw [padW_ofL h0 h1 j]
        unfold cut ofW
        rw [pw_int k]
      have HE : Hid (Value.agg #[.int .u64 (cut k (no / 2 ^ (k * 0))), .int .u64 (cut k (no / 2 ^ (k * 1))), .int .u64 (cut k (no / 2 ^ (k * 2))), .int .u64 (cut k (no / 2 ^ (k * 3)))] = aggS (ofL k vars no)) := by
        show Value.agg #[.int .u64 (cut k (no / 2 ^ (k * 0))), .int .u64 (cut k (no / 2 ^ (k * 1))), .int .u64 (cut k (no / 2 ^ (k * 2))), .int .u64 (cut k (no / 2 ^ (k * 3)))] = aggS (ofL k vars no)
        rw [he, he, he, he]
      have h4 : (Tryd.prog.info? 90).map (·.size) = some 4 := by kernel_rfl
      clear he hx HX HZ HB HP HSH HM hT u3 hns
      generalize no / 2 ^ (k * 0) = n0 at *
      generalize no / 2 ^ (k * 1) = n1 at *
      generalize no / 2 ^ (k * 2) = n2 at *
      generalize no / 2 ^ (k * 3) = n3 at *
      go_wp2_with fail
      go_region_with (go_at_call 118; refine Calls.mono GC.out ?_; rintro e w2 ⟨rfl, hb2⟩; have HB2 : Hid (Below w.heap.size w w2) := HBD.out.trans (hb2.mono HBD.out.size); have HZ2 : Hid _ := HZD.out.below hb2 HZD.out.lt; obtain ⟨z0', z1', z2', z3'⟩ := HZ2.out.cells; have zh' := HZ2.out.heap; have zl' := HZ2.out.lt; have f0' := HZ2.out.frozen 0; have f1' := HZ2.out.frozen 1; have f2' := HZ2.out.frozen 2; have f3' := HZ2.out.frozen 3; clear hb2)
      all_goals
        go_wp2_with fail
        refine bodyPost_ret (results_c4 rfl _ _ _ _ _ _ rfl ((((HZ2.out.set0 (.int .u64 (cut k n0))).set1 (.int .u64 (cut k n1))).set2 (.int .u64 (cut k n2))).set3 (.int .u64 (cut k n3))).heap) rfl ?_
        exact ⟨by rw [← HE.out], set4_below HB2.out (Nat.le_refl _) _ _ _ _⟩
end Go.Proofs.YtjbolpfilgkbfaaDoor

namespace Go.Proofs.YtjbolpfilgkbfaaDoor
open Go Go.RowKit
open M
set_option linter.unusedVariables false

theorem padL_take {st : List Int} (h : st.length ≤ 4) (j : Nat) (u : Value) (hu : (st.map (Value.int .u64))[j]? = some u) : j < 4 ∧ u = .int .u64 (padW st j) := by
  rw [List.getElem?_map] at hu
  cases e : st[j]? with
  | none => rw [e] at hu; simp at hu
  | some x =>
    rw [e] at hu
    obtain rfl := Option.some.inj hu
    have hl := (List.getElem?_eq_some_iff.1 e).1
    refine ⟨by omega, ?_⟩
    unfold padW
    rw [List.getD_eq_getElem?_getD, e]
    rfl
theorem words_one (t : List Int) : ∀ u ∈ t.map (Value.int .u64), u.oneCell' = true := by
  intro u hu
  obtain ⟨x, _, rfl⟩ := List.mem_map.1 hu
  rfl
theorem sliceW (b vars : Nat) (h1 : 1 ≤ vars) (h4 : vars ≤ 4) (w : World) : Sem.run Tryd.prog (Instr.sliceAt 90 (.pointer (some ⟨b, 0, none⟩)) none (some (.int .i64 (vars : Int))) none) w = .ok (.slice (some ⟨b, 0, none⟩) vars 4) w := by
  rcases (show vars = 1 ∨ vars = 2 ∨ vars = 3 ∨ vars = 4 by omega) with rfl | rfl | rfl | rfl <;> kernel_rfl
set_option maxRecDepth 100000 in
set_option maxHeartbeats 2000000 in
theorem list_any {k vars : Nat} {st : List Int} (hw : WordsIn k vars st) (P : Nat) (u y : Value) (w : World) (hP : Box4 w P 111 (.int .i64 k) (.int .i64 vars) u y) :
    Calls Tryd.prog 63 #[ptr P, aggS st] w fun e w' => ∃ r, e = .returned r ∧ OwnUS w' w.heap.size w'.heap.size r st ∧ Below w.heap.size w w' := by
  unfold aggS
  obtain ⟨_, _, hv1, hv4, hlen, _⟩ := hw
  have hb0 : Below w.heap.size w (w.alloc (.cells #[.int .u64 (padW st 0), .int .u64 (padW st 1), .int .u64 (padW st 2), .int .u64 (padW st 3)] 90)) := (Below.refl _ _).alloc (Nat.le_refl _) _
  have y0 := box4_alloc w 90 (.int .u64 (padW st 0)) (.int .u64 (padW st 1)) (.int .u64 (padW st 2)) (.int .u64 (padW st 3))
  have HB0 : Hid _ := hb0
  have hP2 := hP.below hb0 hP.lt
  obtain ⟨p0, p1, p2, p3⟩ := hP2.cells
  have ph := hP2.heap
  have pl := hP2.lt
  obtain ⟨q0, q1, q2, q3⟩ := y0.cells
  have qh := y0.heap
  have ql := y0.lt
  have h4 : (Tryd.prog.info? 90).map (·.size) = some 4 := by kernel_rfl
  obtain ⟨i0, hi, hz0, hz1, hz2⟩ := info_parts infoU64
  have hnews : ∀ (j : Nat) (u : Value), (st.map (Value.int .u64))[j]? = some u → (w.alloc (.cells #[.int .u64 (padW st 0), .int .u64 (padW st 1), .int .u64 (padW st 2), .int .u64 (padW st 3)] 90)).cell? ((⟨w.heap.size, 0, none⟩ : Addr).add j) = some u := by
    intro j u hu
    obtain ⟨hj, rfl⟩ := padL_take (by omega) j u hu
    rcases (show j = 0 ∨ j = 1 ∨ j = 2 ∨ j = 3 by omega) with rfl | rfl | rfl | rfl
    · exact q0
    · exact q1
    · exact q2
    · exact q3
  have hnl : (st.map (Value.int .u64)).length = vars * 1 := by rw [List.length_map]; omega
  have own0 : (w.alloc (.cells #[.int .u64 (padW st 0), .int .u64 (padW st 1), .int .u64 (padW st 2), .int .u64 (padW st 3)] 90)).ownsRow (w.heap.size + 1) 46 1 (.slice none 0 0) 0 [] := World.ownsRow_nil _ _ _ _
  have hz : (w.alloc (.cells #[.int .u64 (padW st 0), .int .u64 (padW st 1), .int .u64 (padW st 2), .int .u64 (padW st 3)] 90)).heap.size = w.heap.size + 1 := World.size_alloc _ _
  have HN : Hid _ := hnews
  have sl := sliceW w.heap.size vars hv1 hv4
  clear hP hP2 y0 hb0 hnews
  go_enter Tryd.func63, Tryd.ntmps63
  go_wp2_with (at_builtin; refine wpList_append_own _ rfl _ _ 28 rfl (w.heap.size + 1) 46 i0 (.int .u64 0) 1 8 Tryd.underlying28 hi hz0 hz1 hz2 rfl (by decide) (.slice none 0 0) 0 [] rfl own0 ⟨w.heap.size, 0, none⟩ vars 4 (st.map (Value.int .u64)) rfl hnl HN.out (words_one st) (by unfold maxLen; omega) (by omega) (by omega) ?_)
  intro v7 w7 own7 grow7 _
  have HB7 : Hid (Below w.heap.size w w7) := HB0.out.grown grow7 (by omega) (fun k hk => by simp [Value.ownBlock] at hk)
  have HO7 : Hid (OwnUS w7 w.heap.size w7.heap.size v7 st) := by
    show RowIn w7 w.heap.size w7.heap.size _ 1 v7 st.length (st.map (Value.int .u64))
    rw [← hlen] at own7
    exact RowIn.weak (rowIn_of own7) (Nat.le_succ _) (Nat.le_refl _) (Nat.le_refl _)
  clear own7 grow7 own0
  go_wp2_with fail
  go_ret
  exact ⟨_, rfl, HO7.out, HB7.out⟩
end Go.Proofs.YtjbolpfilgkbfaaDoor

namespace Go.Proofs.YtjbolpfilgkbfaaDoor
open Go Go.RowKit
open M
set_option linter.unusedVariables false

def ofB (p : Pg) (no : Int) : Bool := smallP p && decide (0 ≤ no ∧ no < 2 ^ (p.1 * p.2.1).toNat)
def ofP (p : Pg) (no : Int) : List Int := if ofB p no = true then ofL p.1.toNat p.2.1.toNat no else []
theorem good_of (k : Nat) (hk1 : 1 ≤ k) (hk : k ≤ 64) (a : Int) (h : a < 2 ^ k) : goodB k a = true := by
  unfold goodB
  refine decide_eq_true ⟨by omega, by omega, ?_⟩
  rw [Int.toNat_natCast, ← pw_int]
  exact h
theorem ofL_words {k u : Nat} (h1 : 1 ≤ k) (h2 : k ≤ 64) (h3 : 1 ≤ u) (h4 : u ≤ 4) (no : Int) : WordsIn k u (ofL k u no) :=
  ⟨h1, h2, h3, h4, ofL_len k u no, fun s hs => (ofL_mem s hs).1, fun s hs => good_of k h1 h2 s (ofL_mem s hs).2⟩
theorem ownUS_nil (w : World) (lo : Nat) (h : lo ≤ w.heap.size) : OwnUS w lo w.heap.size (.slice none 0 0) [] := rowIn_of (World.ownsRow_nil _ _ _ _)
theorem OwnUS.lower {w : World} {lo lo' hi : Nat} {v : Value} {t : List Int} (h : OwnUS w lo hi v t) (hl : lo' ≤ lo) : OwnUS w lo' hi v t := RowIn.weak h hl (Nat.le_refl _) h.2.2
theorem small_nats {p : Pg} (h : smallP p = true) : ∃ k u : Nat, p.1 = k ∧ p.2.1 = u ∧ 1 ≤ k ∧ k ≤ 64 ∧ 1 ≤ u ∧ u ≤ 4 ∧ k ≤ 5 ∧ k * u ≤ 5 ∧ p.1 * p.2.1 = ((k * u : Nat) : Int) := by
  obtain ⟨hg, hm⟩ := smallP_open h
  obtain ⟨k, u, e1, e2, q1, q2, q3, q4⟩ := goodP_nats hg
  have e3 : p.1 * p.2.1 = ((k * u : Nat) : Int) := by rw [e1, e2, Int.natCast_mul]
  have h5 : k * u ≤ 5 := by rw [e3] at hm; omega
  exact ⟨k, u, e1, e2, q1, q2, q3, q4, Nat.le_trans (Nat.le_mul_of_pos_right k q3) h5, h5, e3⟩
set_option maxRecDepth 100000 in
set_option maxHeartbeats 4000000 in
theorem iStateOf_any (v : Value) (p : Pg) (ok : PgOk p) (no : Int) (w : World) (hT : Tab w) (h : AtProg w v p) :
    Calls Tryd.prog 42 #[v, .int .i64 no] w fun e w' => ∃ r0, e = .returned (.tuple #[r0, .bool (ofB p no)]) ∧ OwnUS w' w.heap.size w'.heap.size r0 (ofP p no) ∧ Below w.heap.size w w' := by
  obtain ⟨sa, sn, sc, ca, cn, cc, rfl⟩ := h.shape
  have HB0 : Hid (Below w.heap.size w (w.alloc (.cells #[.int .i64 p.1, .int .i64 p.2.1, .slice sa sn sc, .slice ca cn cc] 27))) := (Below.refl _ _).alloc (Nat.le_refl _) _
  have g := smallRootsOf_any _ p ok _ (hT.below HB0.out hT.some) (h.below HB0.out)
  have HT : Hid (Tab w) := hT
  clear h hT ok
  go_enter Tryd.func42, Tryd.ntmps42
  go_wp2_with fail
  refine g.mono ?_
  generalize w.alloc (.cells #[.int .i64 p.1, .int .i64 p.2.1, .slice sa sn sc, .slice ca cn cc] 27) = w0 at *
  rintro e w1 ⟨ho, hb1⟩
  have HB1 : Hid (Below w.heap.size w w1) := Below.step HB0.out HB0.out.size hb1
  clear g
  rcases ho with ⟨hs, P, rfl, hroot⟩ | ⟨hs, rfl⟩
  · obtain ⟨k, u, e1, e2, q1, q2, q3, q4, hk5, hm5, hM⟩ := small_nats hs
    have hr1 : Rooted w1 (Old w1) p P := Rooted.old hroot (Below.refl _ _)
    obtain ⟨_, x, y, hx, _, _⟩ := id hr1
    have g1 := hasState_any P (k * u) p.1 p.2.1 x y no w1 hx hM hm5
    have hofb : ofB p no = decide (0 ≤ no ∧ no < 2 ^ (k * u)) := by
      unfold ofB
      rw [hs, Bool.true_and, hM, Int.toNat_natCast]
    have hofp : ofP p no = if ofB p no = true then ofL k u no else [] := by
      unfold ofP
      rw [e1, e2, Int.toNat_natCast, Int.toNat_natCast]
    have HFB : Hid _ := hofb
    have HFP : Hid (ofP p no = if ofB p no = true then ofL k u no else []) := hofp
    have HX : Hid (Box4 w1 P 111 (.int .i64 k) (.int .i64 u) x y) := by
      rw [e1, e2] at hx
      exact hx
    have HW : Hid (WordsIn k u (ofL k u no)) := ofL_words q1 q2 q3 q4 no
    clear hx hr1 hroot hs hM hofb hofp hb1
    go_wp2_with fail
    refine g1.mono ?_
    rintro e w2 ⟨rfl, hs2⟩
    have HB2 : Hid (Below w.heap.size w w2) := HB1.out.trans (hs2.mono HB1.out.size)
    have HX2 : Hid _ := HX.out.below hs2 HX.out.lt
    clear g1 hs2
    by_cases hin : 0 ≤ no ∧ no < 2 ^ (k * u)
    · rw [decide_eq_true hin] at HFB
      have HE : Hid (ofP p no = ofL k u no) := by
        show ofP p no = ofL k u no
        rw [HFP.out, HFB.out, if_pos rfl]
      have g2 := numbered_any q1 hk5 hm5 P x y no hin.1 hin.2 w2 (HT.out.below HB2.out HT.out.some) HX2.out
      unfold aggS at g2
      rw [decide_eq_true hin]
      have GL : Hid (∀ w3, Box4 w3 P 111 (.int .i64 k) (.int .i64 u) x y → Calls Tryd.prog 63 #[ptr P, aggS (ofL k u no)] w3 fun e w' => ∃ r, e = .returned r ∧ OwnUS w' w3.heap.size w'.heap.size r (ofL k u no) ∧ Below w3.heap.size w3 w') := fun w3 h3 => list_any HW.out P x y w3 h3
      unfold aggS at GL
      clear HFP HT hin HW
      generalize ofL k u no = L at *
      generalize padW L 0 = l0 at *
      generalize padW L 1 = l1 at *
      generalize padW L 2 = l2 at *
      generalize padW L 3 = l3 at *
      go_wp2_with fail
      refine g2.mono ?_
      rintro e w3 ⟨rfl, hs3⟩
      have HB3 : Hid (Below w.heap.size w w3) := HB2.out.trans (hs3.mono HB2.out.size)
      have g3 := GL.out w3 (HX2.out.below hs3 HX2.out.lt)
      clear g2 hs3 GL
      go_wp2_with fail
      refine g3.mono ?_
      rintro e w4 ⟨r, rfl, ho4, hs4⟩
      have HB4 : Hid (Below w.heap.size w w4) := HB3.out.trans (hs4.mono HB3.out.size)
      have HO4 : Hid (OwnUS w4 w.heap.size w4.heap.size r L) := OwnUS.lower ho4 HB3.out.size
      clear g3 hs4 ho4
      go_wp2_with fail
      go_ret2
      exact ⟨_, by rw [HFB.out]; rfl, by rw [HE.out]; exact HO4.out, HB4.out⟩
    · rw [decide_eq_false hin] at HFB
      have HE : Hid (ofP p no = []) := by
        show ofP p no = []
        rw [HFP.out, HFB.out, if_neg (by decide)]
      rw [decide_eq_false hin]
      clear HFP HT hin HW
      go_wp2_with fail
      go_ret2
      exact ⟨_, by rw [HFB.out]; rfl, by rw [HE.out]; exact ownUS_nil _ _ HB2.out.size, HB2.out⟩
  · have HFB : Hid (ofB p no = false) := by
      show ofB p no = false
      unfold ofB
      rw [hs, Bool.false_and]
    have HE : Hid (ofP p no = []) := by
      show ofP p no = []
      unfold ofP
      rw [HFB.out, if_neg (by decide)]
    clear hs hb1 HT
    go_wp2_with fail
    go_ret2
    exact ⟨_, by rw [HFB.out]; rfl, by rw [HE.out]; exact ownUS_nil _ _ HB1.out.size, HB1.out⟩
end Go.Proofs.YtjbolpfilgkbfaaDoor

namespace Go.Proofs.YtjbolpfilgkbfaaDoor
open Go Go.RowKit
open M
set_option linter.unusedVariables false

theorem value_in {k vars : Nat} {t : List Nd} {st : List Int} (hw : WordsIn k vars st) (hk : kindL k vars t = 1) (hpos : ∀ x ∈ t, 0 ≤ x.2) : 0 ≤ valueL k t st ∧ valueL k t st < 2 ^ k := by
  obtain ⟨h1, h2, h3, h4, hlen, h0, hg⟩ := hw
  have hk' : kindL k st.length t = 1 := by rw [hlen]; exact hk
  obtain ⟨g1, _, _, _, _, r, hr, k1, k2, k3⟩ := root_tree (wide := k) (vars := st.length) (t := t) (by omega)
  have hs1 : saidV k t st = true := by
    unfold saidV
    rw [decide_eq_true (by omega), Bool.true_and]
    exact List.all_eq_true.2 hg
  have e := valueL_tree hs1 hr
  rw [Int.toNat_natCast] at e
  have hst : ∀ s ∈ st, 0 ≤ s ∧ s < pw k := fun s hs => by
    have := good_two k s (h0 s hs) (hg s hs)
    rw [pw_int] at this
    exact this
  have hv := trVal_ok h1 h2 hst k1 (fun x hx => hpos x (by rw [← k2]; exact hx)) (fun x hx hx2 => by
    have a := ok_vars k1 x hx hx2
    have b := hpos x (by rw [← k2]; exact hx)
    omega)
  rw [e, pw_int]
  rcases hv with ⟨_, a, b⟩ | ⟨a, _⟩
  · exact ⟨a, b⟩
  · simp only at a
    omega
theorem doF_words {k vars : Nat} {st : List Int} (hw : WordsIn k vars st) : ∀ (cs : List Ch) (s : List Int), (∀ c ∈ cs, kindL k vars c.2 = 1 ∧ ∀ x ∈ c.2, 0 ≤ x.2) → WordsIn k vars s → WordsIn k vars (doF k st cs s)
  | [], s, _, hs => hs
  | c :: r, s, hc, hs => by
    obtain ⟨c1, c2⟩ := hc c (by simp)
    obtain ⟨v0, v1⟩ := value_in hw c1 c2
    refine doF_words hw r _ (fun d hd => hc d (by simp [hd])) ?_
    obtain ⟨h1, h2, h3, h4, hlen, h0, hg⟩ := hs
    refine ⟨h1, h2, h3, h4, by rw [List.length_set]; exact hlen, fun x hx => ?_, fun x hx => ?_⟩
    · rcases List.mem_or_eq_of_mem_set hx with hx | rfl
      · exact h0 x hx
      · exact v0
    · rcases List.mem_or_eq_of_mem_set hx with hx | rfl
      · exact hg x hx
      · exact good_of k h1 h2 _ v1
def stepP (p : Pg) (st : List Int) (n : Int) : Bool := goodS p st && stepB p st n
def stepL (p : Pg) (st : List Int) (n : Int) : List Int := if stepP p st n = true then nextP p st n else []
theorem next_words {k vars : Nat} {p : Pg} {st : List Int} {n : Int} (hp1 : p.1 = k) (hp2 : p.2.1 = vars) (hg : goodP p = true) (ok : PgOk p) (hw : WordsIn k vars st) (h : stepB p st n = true) : WordsIn k vars (nextP p st n) := by
  unfold stepB at h
  rw [Bool.and_eq_true] at h
  have hc := List.mem_of_getElem? (cmdAt_in (of_decide_eq_true h.1))
  obtain ⟨_, _, _, _, _, _, _, hcm⟩ := goodP_parts hg
  have hcb := hcm _ hc
  unfold cmB at hcb
  rw [Bool.and_eq_true] at hcb
  have hch := chsB_mem _ _ _ _ hcb.2
  unfold nextP doC
  rw [hp1]
  rw [hp1, hp2] at hch
  exact doF_words hw _ _ (fun c hcc => ⟨(hch c hcc).2.2, ns_pos (((ok.2.2.2.2 _ hc).2.2 c hcc).2)⟩) hw
theorem words_ok {k vars : Nat} {st : List Int} (h : WordsIn k vars st) : WsOk st := by
  obtain ⟨h1, h2, h3, h4, hlen, h0, hg⟩ := h
  refine ⟨fun s hs => ?_, by omega⟩
  obtain ⟨a, b⟩ := good_two k s (h0 s hs) (hg s hs)
  have := pw_le k h2
  rw [pw_int] at b
  omega
theorem stepL_ok {p : Pg} {st : List Int} {n : Int} (ok : PgOk p) (hst : WsOk st) : WsOk (stepL p st n) := by
  unfold stepL
  split
  · rename_i h
    unfold stepP at h
    rw [Bool.and_eq_true] at h
    obtain ⟨hg, k, v, e1, e2, hw⟩ := goodS_open (fun s hs => (hst.1 s hs).1) h.1
    exact words_ok (next_words e1 e2 hg ok hw h.2)
  · exact ⟨fun s hs => by simp at hs, by simp⟩
theorem step_any {k vars : Nat} {st : List Int} (hw : WordsIn k vars st) (p : Pg) (hp1 : p.1 = k) (hp2 : p.2.1 = vars) (ok : PgOk p) (hg : goodP p = true) (P : Nat) (n : Int) (w : World) (hT : Tab w) (hR : Rooted w (Old w) p P) :
    Calls Tryd.prog 62 #[ptr P, aggS st, .int .i64 n] w fun e w' => e = .returned (.tuple #[if stepB p st n = true then aggS (nextP p st n) else zeroS, .bool (stepB p st n)]) ∧ Below w.heap.size w w' := by
  obtain ⟨_, _, _, _, _, hc1, hc6, hcm⟩ := goodP_parts hg
  cases h : stepB p st n with
  | true => exact step_yes hw p hp1 hp2 ok.2.2.2.2 hcm hc1 hc6 P n h w hT hR
  | false => exact step_no hw p hp1 hp2 (fun c hc => ns_pos (ok.2.2.2.2 c hc).1) hc1 hc6 P n h w hT hR
end Go.Proofs.YtjbolpfilgkbfaaDoor

namespace Go.Proofs.YtjbolpfilgkbfaaDoor
open Go Go.RowKit
open M
set_option linter.unusedVariables false

/-- what is appended to a list of one's own: nothing, or a row -/
def Src (w : World) (v : Value) (n : Nat) (xs : List Value) : Prop := (n = 0 ∧ xs = [] ∧ v = .slice none 0 0) ∨ ∃ g cap : Nat, v = .slice (some ⟨g, 0, none⟩) n cap ∧ g < w.heap.size ∧ ∀ (j : Nat) (u : Value), xs[j]? = some u → w.cell? ((⟨g, 0, none⟩ : Addr).add j) = some u
theorem Src.below {w w' : World} {v : Value} {n : Nat} {xs : List Value} (h : Src w v n xs) (hb : Below w.heap.size w w') : Src w' v n xs := by
  rcases h with h | ⟨g, cap, hv, hg, hc⟩
  · exact Or.inl h
  · refine Or.inr ⟨g, cap, hv, Nat.lt_of_lt_of_le hg hb.size, fun j u hu => ?_⟩
    have h1 := hc j u hu
    have hsp : ((⟨g, 0, none⟩ : Addr).add j).block = g := by unfold Addr.add; split <;> rfl
    rw [hb.cell (p := (⟨g, 0, none⟩ : Addr).add j) (by rw [hsp]; exact hg)]
    exact h1
theorem wp_append_src {P : Program} {o : Oper} {a : Act} {w : World} {K : Act → World → Prop} {Q : Exit → Act → World → Prop} (s x : Operand) (t : TypeId)
    (ho : o.op = .call { callee := .builtin .append, args := #[s, x], argTypes := #[t, t] })
    (base : Nat) (e : TypeId) (i : TypeInfo) (z : Value) (size bytes : Nat) (ht : P.underlying t = some (.slice e)) (hi : P.info? e = some i) (hz : i.zero = some z)
    (hsize : i.size = size) (hby : i.bytes = bytes) (hzs : z.cells.size = size) (hsz : 0 < size)
    (v : Value) (n : Nat) (xs : List Value) (hs : a.eval s = v) (hown : w.ownsRow base e size v n xs)
    (u : Value) (m : Nat) (news : List Value) (hx : a.eval x = u) (hsrc : Src w u m news) (hl : news.length = m * size) (h1 : ∀ u ∈ news, u.oneCell' = true)
    (h63 : n + m ≤ maxLen) (hbytes : (n + m) * bytes ≤ 140737488355328) (hbase : base ≤ w.heap.size)
    (h : ∀ v' w', w'.ownsRow base e size v' (n + m) (xs ++ news) → w.grownBy w' v.ownBlock → K (a.put o.dst v') w') : o.wp P a w K Q := by
  rcases hsrc with ⟨rfl, rfl, rfl⟩ | ⟨g, cap, rfl, _, hc⟩
  · have hrun := run_append_owned_none (P := P) (w := w) base t o.type e i size ht hi v n xs hown
    unfold Oper.wp
    simp [execOp, ho, resolve, invoke, builtin, hs, hx, hrun, Result.andThen]
    refine h v w ?_ (grown_refl _ _)
    rw [List.append_nil]
    exact hown
  · exact wp_append_own w s x t ho base e i z size bytes ht hi hz hsize hby hzs hsz v n xs hs hown ⟨g, 0, none⟩ m cap news hx hl hc h1 h63 hbytes hbase (fun v' w' h2 h3 _ => h v' w' h2 h3)
theorem wpList_append_src {P : Program} {ops : Array Oper} {rest : List Oper} {o : Oper} {a : Act} {w : World} {Q : Exit → Act → World → Prop} (hgd : o.guard = none) (s x : Operand) (t : TypeId)
    (ho : o.op = .call { callee := .builtin .append, args := #[s, x], argTypes := #[t, t] })
    (base : Nat) (e : TypeId) (i : TypeInfo) (z : Value) (size bytes : Nat) (ht : P.underlying t = some (.slice e)) (hi : P.info? e = some i) (hz : i.zero = some z)
    (hsize : i.size = size) (hby : i.bytes = bytes) (hzs : z.cells.size = size) (hsz : 0 < size)
    (v : Value) (n : Nat) (xs : List Value) (hs : a.eval s = v) (hown : w.ownsRow base e size v n xs)
    (u : Value) (m : Nat) (news : List Value) (hx : a.eval x = u) (hsrc : Src w u m news) (hl : news.length = m * size) (h1 : ∀ u ∈ news, u.oneCell' = true)
    (h63 : n + m ≤ maxLen) (hbytes : (n + m) * bytes ≤ 140737488355328) (hbase : base ≤ w.heap.size)
    (h : ∀ v' w', w'.ownsRow base e size v' (n + m) (xs ++ news) → w.grownBy w' v.ownBlock → wpList P ops Q rest (a.put o.dst v') w') : wpList P ops Q (o :: rest) a w :=
  wpList_plain hgd fun _ hK => wp_append_src s x t ho base e i z size bytes ht hi hz hsize hby hzs hsz v n xs hs hown u m news hx hsrc hl h1 h63 hbytes hbase (fun v' w' h2 h3 => hK _ _ (h v' w' h2 h3))
end Go.Proofs.YtjbolpfilgkbfaaDoor

namespace Go.Proofs.YtjbolpfilgkbfaaDoor
open Go Go.RowKit
open M
set_option linter.unusedVariables false
set_option linter.unusedSimpArgs false

/-- how many operations have not come up -/
def undone (l : Array Bool) : Nat := (l.toList.filter (fun b => !b)).length
theorem filter_set : ∀ (l : List Bool) (i : Nat), l[i]? = some false → ((l.set i true).filter (fun b => !b)).length + 1 = (l.filter (fun b => !b)).length
  | [], i, h => by simp at h
  | x :: l, 0, h => by
    simp at h
    subst h
    simp
  | x :: l, i + 1, h => by
    have ih := filter_set l i (by simpa using h)
    cases x <;> simp [List.set, ih]
theorem undone_set {l : Array Bool} {i : Nat} (hi : l.getD i true = false) : undone (l.setIfInBounds i true) + 1 = undone l := by
  have h : l.toList[i]? = some false := by
    rw [Array.getElem?_toList]
    rw [Array.getD_eq_getD_getElem?] at hi
    cases e : l[i]? with
    | none => rw [e] at hi; simp at hi
    | some x => rw [e] at hi; simp at hi; rw [hi]
  unfold undone
  rw [Array.toList_setIfInBounds]
  exact filter_set l.toList i h
theorem wpAny_inv {P : Program} {md : Region.Mode} {ops : Array Oper} {Q : Exit → Act → World → Prop} (I : Array Bool → Act → World → Prop)
    (hdone : ∀ l a w, I l a w → Region.ready md ops l = [] → Q .normal a w) (hstep : ∀ l a w, I l a w → ∀ i ∈ Region.ready md ops l, wpOp P ops Q i (I (l.setIfInBounds i true)) a w) :
    ∀ (fuel : Nat) (l : Array Bool) (a : Act) (w : World), I l a w → undone l ≤ fuel → wpAny P md ops Q fuel l a w
  | 0, l, a, w, h, hu => by
    have hr : Region.ready md ops l = [] := by
      cases e : Region.ready md ops l with
      | nil => rfl
      | cons i r =>
        have hi : i ∈ Region.ready md ops l := by rw [e]; simp
        have := undone_set (mem_ready.1 hi).1
        omega
    exact ⟨hr, hdone l a w h hr⟩
  | fuel + 1, l, a, w, h, hu => ⟨hdone l a w h, fun i hi => wpOp_mono (fun a' w' h' => wpAny_inv I hdone hstep fuel _ a' w' h' (by have := undone_set (mem_ready.1 hi).1; omega)) (hstep l a w h i hi)⟩
theorem wpOp_run {P : Program} {ops : Array Oper} {Q : Exit → Act → World → Prop} {i : Nat} {o : Oper} {a : Act} {w : World} {K' : Act → World → Prop} (ho : ops[i]? = some o) (hg : o.guard = none)
    (h : ∀ K : Act → World → Prop, (∀ a w, K' a w → K a w) → o.wp P a w K Q) : wpOp P ops Q i K' a w := by
  unfold wpOp
  rw [ho]
  simp only
  rw [if_pos (by simp [Region.wanted, hg])]
  exact Or.inl (h K' (fun _ _ h => h))
theorem ready_none {md : Region.Mode} {ops : Array Oper} {l : Array Bool} (hr : Region.ready md ops l = []) (i : Nat) {o : Oper} (ho : ops[i]? = some o) (hl : l.getD i true = false) (hd : (o.after.toList.all fun e => l.getD e.on false) = true) : False := by
  have h : i ∈ Region.ready md ops l := mem_ready.2 ⟨hl, o, ho, fun e he _ => List.all_eq_true.1 hd e (Array.mem_def.1 he)⟩
  rw [hr] at h
  cases h
theorem ready_lt {md : Region.Mode} {ops : Array Oper} {l : Array Bool} {i : Nat} (hi : i ∈ Region.ready md ops l) : i < ops.size := by
  unfold Region.ready at hi
  rw [List.mem_filter, List.mem_range] at hi
  exact hi.1
theorem ready_dep {md : Region.Mode} {ops : Array Oper} {l : Array Bool} {i : Nat} {o : Oper} (hi : i ∈ Region.ready md ops l) (ho : ops[i]? = some o) : l.getD i true = false ∧ ∀ e ∈ o.after, Region.binds md e = true → l.getD e.on false = true := by
  obtain ⟨h1, o', h2, h3⟩ := mem_ready.1 hi
  rw [ho] at h2
  obtain rfl := Option.some.inj h2
  exact ⟨h1, h3⟩
structure RegD (W w' : World) (g7 i : Nat) (VV : Int) (l0 l1 l2 l3 l4 l5 l6 l7 l8 l9 l10 l11 l12 l13 l14 : Bool) (s0 s1 s2 s3 s4 s5 s6 s7 s8 s9 s10 s11 s12 s13 v0 v1 v2 v3 v4 v5 v6 v7 v8 v9 v10 v11 v12 v13 : Value) : Prop where
  (bel : l14 = false → Below W.heap.size W w')
  (fin : l14 = true → ∃ w4, Below W.heap.size W w4 ∧ w' = w4.setCell ⟨g7, i, none⟩ (.int .u64 VV))
  (all : l14 = true → l0 = true ∧ l1 = true ∧ l2 = true ∧ l3 = true ∧ l4 = true ∧ l5 = true ∧ l6 = true ∧ l7 = true ∧ l8 = true ∧ l9 = true ∧ l10 = true ∧ l11 = true ∧ l12 = true ∧ l13 = true)
  (d0 : l0 = true → s0 = v0 ∧ True)
  (d1 : l1 = true → s1 = v1 ∧ True)
  (d2 : l2 = true → s2 = v2 ∧ l1 = true)
  (d3 : l3 = true → s3 = v3 ∧ True)
  (d4 : l4 = true → s4 = v4 ∧ l3 = true)
  (d5 : l5 = true → s5 = v5 ∧ True)
  (d6 : l6 = true → s6 = v6 ∧ l5 = true)
  (d7 : l7 = true → s7 = v7 ∧ True)
  (d8 : l8 = true → s8 = v8 ∧ l7 = true)
  (d9 : l9 = true → s9 = v9 ∧ l8 = true)
  (d10 : l10 = true → s10 = v10 ∧ l9 = true)
  (d11 : l11 = true → s11 = v11 ∧ True)
  (d12 : l12 = true → s12 = v12 ∧ l4 = true ∧ l6 = true ∧ l10 = true ∧ l11 = true)
  (d13 : l13 = true → s13 = v13 ∧ l0 = true ∧ l2 = true)
end Go.Proofs.YtjbolpfilgkbfaaDoor

namespace Go.Proofs.YtjbolpfilgkbfaaDoor
open Go Go.RowKit
open M
set_option linter.unusedVariables false

theorem src_words {w : World} {v : Value} {t : List Int} (h1 : StAt w v t) (h2 : Strong w v t.length) : Src w v t.length (cellsU t) := by
  rcases h2 with ⟨h3, h4⟩ | ⟨g, cap, rfl, hg, _⟩
  · exact Or.inl ⟨h3, by rw [List.length_eq_zero_iff.1 h3]; rfl, h4⟩
  · refine Or.inr ⟨g, cap, rfl, hg, fun j u hu => ?_⟩
    unfold cellsU at hu
    rw [List.getElem?_map] at hu
    cases e : t[j]? with
    | none => rw [e] at hu; simp at hu
    | some x =>
      rw [e] at hu
      obtain rfl := Option.some.inj hu
      rcases h1 with ⟨rfl, _⟩ | ⟨b, off, cap', e1, _, hc⟩
      · simp at e
      · injection e1 with e1 _ _
        injection e1 with e1
        injection e1 with e1 e2
        subst e1 e2
        have := hc j x e
        rw [show ((⟨g, 0, none⟩ : Addr).add j) = ⟨g, 0 + j, none⟩ from by unfold Addr.add; split <;> simp_all]
        exact this
theorem own_emptyU (w : World) (base : Nat) (hb : base ≤ w.heap.size) : (w.alloc (.cells #[] 46)).ownsRow base 46 1 (.slice (some ⟨w.heap.size, 0, none⟩) 0 0) 0 [] := by
  refine ⟨rfl, Or.inr ⟨w.heap.size, 0, #[], rfl, hb, ?_, Nat.le_refl _, by unfold maxLen; omega, rfl, rfl⟩⟩
  show (w.heap.push _)[w.heap.size]? = _
  simp
theorem cell_set_ne {w : World} {b b' : Nat} (h : b ≠ b') (o o' : Nat) (v : Value) : (w.setCell ⟨b', o', none⟩ v).cell? ⟨b, o, none⟩ = w.cell? ⟨b, o, none⟩ := World.cell?_of_block (w := w) (a := ⟨b, o, none⟩) (Below.heap_setCell _ _ _ _ h)
theorem cellsU_set (t : List Int) (i : Nat) (x : Int) : (cellsU t).set i (.int .u64 x) = cellsU (t.set i x) := by simp [cellsU, List.map_set]
set_option maxRecDepth 100000 in
set_option maxHeartbeats 8000000 in
theorem sDo_any (v sv : Value) (p : Pg) (ok : PgOk p) (st : List Int) (hst : WsOk st) (n : Int) (hgs : goodS p st = true) (hb : stepB p st n = true) (w : World) (h : AtProg w v p) (hs : StAt w sv st) (hsrc : Src w sv st.length (cellsU st)) :
    Calls Tryd.prog 101 #[v, sv, .int .i64 n] w fun e w' => ∃ r, e = .returned r ∧ OwnUS w' w.heap.size w'.heap.size r (nextP p st n) ∧ Below w.heap.size w w' := by
  obtain ⟨hgp, k, vars, hp1, hp2, hw⟩ := goodS_open (fun s hs => (hst.1 s hs).1) hgs
  have hsp : stateP p st = true := by
    unfold goodS at hgs
    rw [Bool.and_eq_true] at hgs
    exact hgs.2
  have hin : 0 ≤ n ∧ n < (p.2.2.2.length : Int) := by
    unfold stepB at hb
    rw [Bool.and_eq_true] at hb
    exact of_decide_eq_true hb.1
  obtain ⟨_, _, _, _, _, hc1, hc6, hcm0⟩ := goodP_parts hgp
  have hc := cmdAt_in hin
  have hcmem := List.mem_of_getElem? hc
  have hcok := ok.2.2.2.2 _ hcmem
  have hcb := hcm0 _ hcmem
  unfold cmB at hcb
  rw [Bool.and_eq_true] at hcb
  have hch := chsB_mem _ _ _ _ hcb.2
  have hchl := chsB_len _ _ _ _ hcb.2 (by omega)
  obtain ⟨hk1, hk64, hv1, hv4, hlen, _⟩ := id hw
  have GV0 : ∀ (w1 : World) (u : Value) (c : Ch), c ∈ (cmdAt p n).2 → Below w.heap.size w w1 → NodesAt w1 u c.2 → Calls Tryd.prog 114 #[.int .i64 p.1, u, .int .i64 ((c.2.length : Int) - 1), sv] w1 fun e w' => e = .returned (.int .u64 (valueL p.1 c.2 st)) ∧ Below w1.heap.size w1 w' := fun w1 u c hc' hb' hu =>
    l2Value_said p.1 u sv c.2 st (st_ok hst) (said_of hsp (by have := hch c hc'; omega)) w1 hu (hs.below hb') _ rfl
  obtain ⟨⟨hfw0, hfw1⟩, ⟨hfv0, hfv1⟩, s, c, rfl, hns, hcm⟩ := h
  obtain ⟨sa, sc, rfl⟩ := hns.shape
  obtain ⟨ca, cc, rfl, hcc⟩ := hcm.opened
  obtain ⟨pb, poff, rfl, hplt, xx, yy, cx, cy, hV⟩ := hcc _ _ hc
  obtain ⟨hV1, hV2⟩ := hV
  obtain ⟨ya, yc, rfl, hyc⟩ := hV2.opened
  have HCH : Hid (∀ w1 : World, Below w.heap.size w w1 → ∀ (i : Nat) (d : Ch), (cmdAt p n).2[i]? = some d → ∃ b off : Nat, ya = some ⟨b, off, none⟩ ∧ ∃ y : Value, w1.cell? ⟨b, off + i * 2, none⟩ = some (.int .i64 d.1) ∧ w1.cell? ⟨b, off + i * 2 + 1, none⟩ = some y ∧ NodesAt w1 y d.2) := fun w1 hb' i d hi => by
    obtain ⟨b, off, e, hlt, x, y, h3, h4, h5⟩ := hyc i d hi
    obtain ⟨_, rfl, h6⟩ := h5
    exact ⟨b, off, e, y, by rw [hb'.cell (p := ⟨b, off + i * 2, none⟩) hlt]; exact h3, by rw [hb'.cell (p := ⟨b, off + i * 2 + 1, none⟩) hlt]; exact h4, h6.below hb'⟩
  have HCY : Hid (∀ w1 : World, Below w.heap.size w w1 → w1.cell? ⟨pb, poff + n.toNat * 2 + 1, none⟩ = some (.slice ya (cmdAt p n).2.length yc)) := fun w1 hb' => by rw [hb'.cell (p := ⟨pb, poff + n.toNat * 2 + 1, none⟩) hplt]; exact cy
  have HIN : Hid (∀ c ∈ (cmdAt p n).2, (∃ i : Nat, c.1 = i ∧ i < vars) ∧ 1 ≤ c.2.length ∧ c.2.length ≤ 48) := fun c hc' => by
    have h1 := hch c hc'
    obtain ⟨_, _, _, h2, h3, _⟩ := root_tree (wide := p.1) (vars := p.2.1) (t := c.2) (by omega)
    exact ⟨⟨c.1.toNat, by omega, by omega⟩, h2, h3⟩
  have GV : Hid _ := GV0
  have HNX : Hid (nextP p st n = doF p.1 st (cmdAt p n).2 st) := rfl
  have HST : Hid (∀ w1 : World, Below w.heap.size w w1 → StAt w1 sv st) := fun w1 hb' => hs.below hb'
  have hb0 : Below w.heap.size w (w.alloc (.cells #[.int .i64 p.1, .int .i64 p.2.1, .slice sa p.2.2.1.length sc, .slice (some ⟨pb, poff, none⟩) p.2.2.2.length cc] 27)) := (Below.refl _ _).alloc (Nat.le_refl _) _
  have x0 := box4_alloc w 27 (.int .i64 p.1) (.int .i64 p.2.1) (.slice sa p.2.2.1.length sc) (.slice (some ⟨pb, poff, none⟩) p.2.2.2.length cc)
  have hw0z : (w.alloc (.cells #[.int .i64 p.1, .int .i64 p.2.1, .slice sa p.2.2.1.length sc, .slice (some ⟨pb, poff, none⟩) p.2.2.2.length cc] 27)).heap.size = w.heap.size + 1 := World.size_alloc _ _
  have HB0 : Hid _ := hb0
  have HXP : Hid (∀ w3, Below (w.heap.size + 1) (w.alloc (.cells #[.int .i64 p.1, .int .i64 p.2.1, .slice sa p.2.2.1.length sc, .slice (some ⟨pb, poff, none⟩) p.2.2.2.length cc] 27)) w3 → Box4 w3 w.heap.size 27 (.int .i64 p.1) (.int .i64 p.2.1) (.slice sa p.2.2.1.length sc) (.slice (some ⟨pb, poff, none⟩) p.2.2.2.length cc)) := fun w3 hb3 => x0.below hb3 (by omega)
  have hs0 := (hsrc.below hb0).below ((Below.refl _ _).alloc (Nat.le_refl _) (.cells #[] 46))
  have own0 := own_emptyU (w.alloc (.cells #[.int .i64 p.1, .int .i64 p.2.1, .slice sa p.2.2.1.length sc, .slice (some ⟨pb, poff, none⟩) p.2.2.2.length cc] 27)) (w.heap.size + 1) (by omega)
  rw [hw0z] at own0
  have sol : (cellsU st).length = st.length * 1 := by simp [cellsU]
  obtain ⟨i0, hi, hz0, hz1, hz2⟩ := info_parts infoU64
  obtain ⟨ua, uc, rfl⟩ := hs.shape
  have hstl := hst.2
  obtain ⟨m, rfl⟩ : ∃ m : Nat, n = m := ⟨n.toNat, by omega⟩
  rw [Int.toNat_natCast] at HCY
  have hml : m < p.2.2.2.length := by omega
  have hnn : ((m : Int) < (p.2.2.2.length : Int)) := hin.2
  have hchl4 : (cmdAt p m).2.length ≤ 4 := by omega
  have HV : Hid (st.length = vars ∧ vars ≤ 4 ∧ 1 ≤ vars) := ⟨hlen, hv4, hv1⟩
  obtain ⟨a0, a1, a2, a3⟩ := x0.cells
  have ah := x0.heap
  have al := x0.lt
  have hcy0 := HCY.out _ hb0
  have hst18 := (words_one st)
  clear hs hsrc hns hcm hcc hV1 hV2 hyc cx cy hst hgs hb hgp hw hsp hin hcm0 hc hcmem hcok hcb hch hchl GV0 x0 ok hp1 hp2 hlen
  generalize hcs : (cmdAt p m).2 = chs at *
  clear hcs
  generalize p.2.2.2.length = cn at *
  generalize p.2.2.1.length = sn at *
  generalize p.2.1 = pv at *
  generalize p.1 = k' at *
  go_enter Tryd.func101, Tryd.ntmps101
  go_wp2_with (at_builtin; refine wpList_append_src rfl _ _ 28 rfl (w.heap.size + 1) 46 i0 (.int .u64 0) 1 8 Tryd.underlying28 hi hz0 hz1 hz2 rfl (by decide) _ _ _ rfl own0 (.slice ua st.length uc) st.length (cellsU st) rfl hs0 sol hst18 (by unfold maxLen; omega) (by omega) (by simp) ?_)
  intro v7 w7 own7 grow7
  have hb1 : Below w.heap.size w ((w.alloc (.cells #[.int .i64 k', .int .i64 pv, .slice sa sn sc, .slice (some ⟨pb, poff, none⟩) cn cc] 27)).alloc (.cells #[] 46)) := ((Below.refl _ _).alloc (Nat.le_refl _) _).alloc (by rw [World.size_alloc]; omega) _
  have hbx1 : Below (w.heap.size + 1) (w.alloc (.cells #[.int .i64 k', .int .i64 pv, .slice sa sn sc, .slice (some ⟨pb, poff, none⟩) cn cc] 27)) ((w.alloc (.cells #[.int .i64 k', .int .i64 pv, .slice sa sn sc, .slice (some ⟨pb, poff, none⟩) cn cc] 27)).alloc (.cells #[] 46)) := (Below.refl _ _).alloc (by omega) _
  have HB7 : Hid (Below w.heap.size w w7) := hb1.grown grow7 hb1.size (fun q hq => by have := (own_block own0 hq).1; omega)
  have HBX7 : Hid (Below (w.heap.size + 1) (w.alloc (.cells #[.int .i64 k', .int .i64 pv, .slice sa sn sc, .slice (some ⟨pb, poff, none⟩) cn cc] 27)) w7) := hbx1.grown grow7 (by simp) (fun q hq => (own_block own0 hq).1)
  obtain ⟨hlen, hv4, hv1⟩ := HV.out
  have own7' : w7.ownsRow (w.heap.size + 1) 46 1 v7 st.length (cellsU st) := by simpa using own7
  obtain ⟨g7, cap7, rfl⟩ : ∃ g cap, v7 = .slice (some ⟨g, 0, none⟩) st.length cap := by
    rcases own7'.2 with ⟨_, e⟩ | ⟨g, cap, _, e, _⟩
    · omega
    · exact ⟨g, cap, e⟩
  have HO7 : Hid (w7.ownsRow (w.heap.size + 1) 46 1 (.slice (some ⟨g7, 0, none⟩) st.length cap7) st.length (cellsU (doF k' st (chs.take 0) st))) := own7'
  clear own7 own7' grow7 own0 hs0 hb0 hb1 hbx1 sol hi
  have hcy7 := HCY.out _ HB7.out
  obtain ⟨b0, b1, b2, b3⟩ := (HXP.out _ HBX7.out).cells
  have bh := (HXP.out _ HBX7.out).heap
  have bl := (HXP.out _ HBX7.out).lt
  clear a0 a1 a2 a3 ah al hcy0
  go_wp2_with fail
  generalize w.alloc (.cells #[.int .i64 k', .int .i64 pv, .slice sa sn sc, .slice (some ⟨pb, poff, none⟩) cn cc] 27) = w0 at *
  go_loopw [20] (fun i wr => ∃ j : Nat, j ≤ chs.length ∧ i = .int .i64 j ∧ Hid (wr.ownsRow (w.heap.size + 1) 46 1 (.slice (some ⟨g7, 0, none⟩) st.length cap7) st.length (cellsU (doF k' st (chs.take j) st))) ∧ Hid (Below w.heap.size w wr) ∧ Hid (Below (w.heap.size + 1) w0 wr)) (fun i _ => chs.length - (intOf i).toNat)
  case atStart => exact ⟨0, by omega, rfl, HO7, HB7, HBX7⟩
  case round =>
    obtain ⟨j, hj, rfl, HO, HB, HBX⟩ := hrel
    clear HO7 HB7 HBX7 b0 b1 b2 b3 bh bl hcy7
    by_cases hlt : j < chs.length
    · obtain ⟨c, hc⟩ : ∃ c, chs[j]? = some c := ⟨chs[j], List.getElem?_eq_getElem hlt⟩
      have hmem := List.mem_of_getElem? hc
      obtain ⟨⟨i, hi1, hi2⟩, hd1, hd48⟩ := HIN.out c hmem
      obtain ⟨bb, off, rfl, y, cx, cy, hye⟩ := HCH.out wr HB.out j c hc
      rw [hi1] at cx
      have hal : Below wr.heap.size wr (wr.alloc (.cells #[.int .i64 (i : Int), y] 122)) := (Below.refl _ _).alloc (Nat.le_refl _) _
      have hsz := HB.out.size
      have hszx := HBX.out.size
      have HBD : Hid (Below w.heap.size w (wr.alloc (.cells #[.int .i64 (i : Int), y] 122)).drew) := (HB.out.trans (hal.mono hsz)).drew
      have HBXD : Hid (Below (w.heap.size + 1) w0 (wr.alloc (.cells #[.int .i64 (i : Int), y] 122)).drew) := (HBX.out.trans (hal.mono (by omega))).drew
      have hyd := (hye.below hal).below ((Below.refl _ _).drew)
      have GC0 := fun (w9 : World) (hb9 : Below (wr.alloc (.cells #[.int .i64 (i : Int), y] 122)).drew.heap.size (wr.alloc (.cells #[.int .i64 (i : Int), y] 122)).drew w9) => GV.out w9 _ c hmem (HBD.out.trans (hb9.mono HBD.out.size)) (hyd.below hb9)
      obtain ⟨yya, yyc, rfl⟩ := hye.shape
      have hr2 := box2_alloc wr 122 (.int .i64 (i : Int)) (.slice yya c.2.length yyc)
      have hod := (owns_below HO.out hal)
      have HOW : Hid (wr.cell? ⟨g7, i, none⟩ = (cellsU (doF k' st (chs.take j) st))[i]?) := World.ownsRow.cellAt HO.out i (by omega)
      have hil : i < st.length := by omega
      have HIL : Hid (i < st.length) := hil
      have HDF : Hid (doF k' st (chs.take (j + 1)) st = (doF k' st (chs.take j) st).set i (valueL k' c.2 st)) := by
        show doF k' st (chs.take (j + 1)) st = _
        rw [doF_take hc, hi1, Int.toNat_natCast]
      have hxl : (cellsU (doF k' st (chs.take j) st)).length = st.length := by rw [cellsU, List.length_map, doF_len]
      obtain ⟨u0, hu0⟩ : ∃ u0, (cellsU (doF k' st (chs.take j) st))[i]? = some u0 := ⟨_, List.getElem?_eq_getElem (by omega)⟩
      have HU0 : Hid _ := hu0
      have HRD : Hid (Box2 (wr.alloc (.cells #[.int .i64 (i : Int), .slice yya c.2.length yyc] 122)).drew wr.heap.size 122 (.int .i64 (i : Int)) (.slice yya c.2.length yyc)) := ⟨hr2.heap⟩
      have HOD : Hid ((wr.alloc (.cells #[.int .i64 (i : Int), .slice yya c.2.length yyc] 122)).drew.ownsRow (w.heap.size + 1) 46 1 (.slice (some ⟨g7, 0, none⟩) st.length cap7) st.length (cellsU (doF k' st (chs.take j) st))) := hod
      have xd := HXP.out _ HBXD.out
      obtain ⟨b0, b1, b2, b3⟩ := xd.cells
      have bh := xd.heap
      have bl := xd.lt
      obtain ⟨r0, r1⟩ := hr2.cells
      have rh := hr2.heap
      have rl := hr2.lt
      have hwl : IntKind.i64.wrap ((c.2.length : Int) - 1) = (c.2.length : Int) - 1 := IntWalk.i64_in _ ⟨by omega, by omega⟩
      have hii : ((i : Int) < (st.length : Int)) := by omega
      clear hye hyd hal hc hmem hr2 hod HO HB HBX HIN GV HCH HCY HV hi1 hi2 hxl hu0 xd hlen hv4 hv1 hsz
      generalize doF k' st (chs.take j) st = S0 at *
      generalize valueL k' c.2 st = VV at *
      generalize c.2.length = dl at *
      have GC : Hid _ := GC0
      clear GC0
      go_wp2_with fail
      refine wp_region_any (by kernel_rfl) ?_
      change wpAny _ _ _ _ _ _ _ (World.drew _)
      refine wpAny_inv (fun l a w' => ∃ (l0 l1 l2 l3 l4 l5 l6 l7 l8 l9 l10 l11 l12 l13 l14 : Bool) (s0 s1 s2 s3 s4 s5 s6 s7 s8 s9 s10 s11 s12 s13 : Value), l = #[l0, l1, l2, l3, l4, l5, l6, l7, l8, l9, l10, l11, l12, l13, l14] ∧ a = { tmps := ((.agg #[.int .i64 k', .int .i64 pv, .slice sa sn sc, .slice (some ⟨pb, poff, none⟩) cn cc] : Value) :: (.slice ua st.length uc : Value) :: (.int .i64 m : Value) :: (.pointer (some ⟨w.heap.size, 0, none⟩) : Value) :: (undef : Value) :: (undef : Value) :: (.slice none 0 0 : Value) :: (.slice (some ⟨g7, 0, none⟩) st.length cap7 : Value) :: (undef : Value) :: (.pointer (some ⟨wr.heap.size, 0, none⟩) : Value) :: (.slice (some ⟨w.heap.size + 1, 0, none⟩) 0 0 : Value) :: (.slice ua st.length uc : Value) :: (.slice (some ⟨g7, 0, none⟩) st.length cap7 : Value) :: (.pointer (some ⟨w.heap.size, 3, none⟩) : Value) :: (.slice (some ⟨pb, poff, none⟩) cn cc : Value) :: (.int .i64 m : Value) :: (.pointer (some ⟨pb, poff + m * 2, none⟩) : Value) :: (.pointer (some ⟨pb, poff + m * 2 + 1, none⟩) : Value) :: (.slice (some ⟨bb, off, none⟩) chs.length yc : Value) :: (.int .i64 chs.length : Value) :: (.int .i64 j : Value) :: (.bool true : Value) :: (.pointer (some ⟨bb, off + j * 2, none⟩) : Value) :: (.agg #[.int .i64 (i : Int), .slice yya dl yyc] : Value) :: (s0 : Value) :: (s1 : Value) :: (s2 : Value) :: (s3 : Value) :: (s4 : Value) :: (s5 : Value) :: (s6 : Value) :: (s7 : Value) :: (s8 : Value) :: (s9 : Value) :: (s10 : Value) :: (s11 : Value) :: (s12 : Value) :: (s13 : Value) :: (u38 : Value) :: (undef : Value) :: []).toArray, defers := [] } ∧ RegD (wr.alloc (.cells #[.int .i64 (i : Int), .slice yya dl yyc] 122)).drew w' g7 i VV l0 l1 l2 l3 l4 l5 l6 l7 l8 l9 l10 l11 l12 l13 l14 s0 s1 s2 s3 s4 s5 s6 s7 s8 s9 s10 s11 s12 s13 (.slice (some ⟨g7, 0, none⟩) st.length cap7) (.pointer (some ⟨wr.heap.size, 0, none⟩)) (.int .i64 (i : Int)) (.pointer (some ⟨w.heap.size, 0, none⟩)) (.int .i64 k') (.pointer (some ⟨wr.heap.size, 1, none⟩)) (.slice yya dl yyc) (.pointer (some ⟨wr.heap.size, 1, none⟩)) (.slice yya dl yyc) (.int .i64 dl) (.int .i64 ((dl : Int) - 1)) (.slice ua st.length uc) (.int .u64 VV) (.pointer (some ⟨g7, i, none⟩))) ?done ?step 15 _ _ _ ⟨false, false, false, false, false, false, false, false, false, false, false, false, false, false, false, _, _, _, _, _, _, _, _, _, _, _, _, _, _, rfl, rfl, ?init⟩ (by decide)
      case init => exact { bel := fun _ => Below.refl _ _, fin := fun e => (by cases e), all := fun e => (by cases e), d0 := fun e => (by cases e), d1 := fun e => (by cases e), d2 := fun e => (by cases e), d3 := fun e => (by cases e), d4 := fun e => (by cases e), d5 := fun e => (by cases e), d6 := fun e => (by cases e), d7 := fun e => (by cases e), d8 := fun e => (by cases e), d9 := fun e => (by cases e), d10 := fun e => (by cases e), d11 := fun e => (by cases e), d12 := fun e => (by cases e), d13 := fun e => (by cases e) }
      case step =>
        rintro l a w1 ⟨l0, l1, l2, l3, l4, l5, l6, l7, l8, l9, l10, l11, l12, l13, l14, s0, s1, s2, s3, s4, s5, s6, s7, s8, s9, s10, s11, s12, s13, rfl, rfl, h⟩
        intro q hq
        have hlt9 := ready_lt hq
        match q, hq, hlt9 with
        | 0, hq, _ =>
          have hr := ready_dep hq rfl
          have hme : l0 = false := hr.1
          have h14 : l14 = false := by
            cases hc9 : l14 with
            | false => rfl
            | true => exact absurd (h.all hc9).1 (by rw [hme]; decide)
          have hb := h.bel h14
          clear hr hq
          refine wpOp_run rfl rfl (fun K hK => ?_)
          go_simp
          refine hK _ _ ⟨true, l1, l2, l3, l4, l5, l6, l7, l8, l9, l10, l11, l12, l13, l14, _, _, _, _, _, _, _, _, _, _, _, _, _, _, rfl, rfl, ?_⟩
          exact { bel := h.bel, fin := fun e => absurd e (by rw [h14]; decide), all := fun e => absurd e (by rw [h14]; decide), d0 := fun _ => ⟨rfl, trivial⟩, d1 := h.d1, d2 := h.d2, d3 := h.d3, d4 := h.d4, d5 := h.d5, d6 := h.d6, d7 := h.d7, d8 := h.d8, d9 := h.d9, d10 := h.d10, d11 := h.d11, d12 := h.d12, d13 := fun e => ⟨(h.d13 e).1, rfl, (h.d13 e).2.2⟩ }
        | 1, hq, _ =>
          have hr := ready_dep hq rfl
          have hme : l1 = false := hr.1
          have h14 : l14 = false := by
            cases hc9 : l14 with
            | false => rfl
            | true => exact absurd (h.all hc9).2.1 (by rw [hme]; decide)
          have hb := h.bel h14
          clear hr hq
          refine wpOp_run rfl rfl (fun K hK => ?_)
          go_simp
          refine hK _ _ ⟨l0, true, l2, l3, l4, l5, l6, l7, l8, l9, l10, l11, l12, l13, l14, _, _, _, _, _, _, _, _, _, _, _, _, _, _, rfl, rfl, ?_⟩
          exact { bel := h.bel, fin := fun e => absurd e (by rw [h14]; decide), all := fun e => absurd e (by rw [h14]; decide), d0 := h.d0, d1 := fun _ => ⟨rfl, trivial⟩, d2 := fun e => ⟨(h.d2 e).1, rfl⟩, d3 := h.d3, d4 := h.d4, d5 := h.d5, d6 := h.d6, d7 := h.d7, d8 := h.d8, d9 := h.d9, d10 := h.d10, d11 := h.d11, d12 := h.d12, d13 := h.d13 }
        | 2, hq, _ =>
          have hr := ready_dep hq rfl
          have hme : l2 = false := hr.1
          have e1 : l1 = true := hr.2 ⟨1, .data⟩ (by simp) (by kernel_rfl)
          have h14 : l14 = false := by
            cases hc9 : l14 with
            | false => rfl
            | true => exact absurd (h.all hc9).2.2.1 (by rw [hme]; decide)
          have hb := h.bel h14
          obtain rfl := (h.d1 e1).1
          obtain ⟨c0, c1⟩ := (HRD.out.below hb HRD.out.lt).cells
          have ch := (HRD.out.below hb HRD.out.lt).heap
          have cl := (HRD.out.below hb HRD.out.lt).lt
          clear hr hq
          refine wpOp_run rfl rfl (fun K hK => ?_)
          go_simp
          refine hK _ _ ⟨l0, l1, true, l3, l4, l5, l6, l7, l8, l9, l10, l11, l12, l13, l14, _, _, _, _, _, _, _, _, _, _, _, _, _, _, rfl, rfl, ?_⟩
          exact { bel := h.bel, fin := fun e => absurd e (by rw [h14]; decide), all := fun e => absurd e (by rw [h14]; decide), d0 := h.d0, d1 := h.d1, d2 := fun _ => ⟨rfl, e1⟩, d3 := h.d3, d4 := h.d4, d5 := h.d5, d6 := h.d6, d7 := h.d7, d8 := h.d8, d9 := h.d9, d10 := h.d10, d11 := h.d11, d12 := h.d12, d13 := fun e => ⟨(h.d13 e).1, (h.d13 e).2.1, rfl⟩ }
        | 3, hq, _ =>
          have hr := ready_dep hq rfl
          have hme : l3 = false := hr.1
          have h14 : l14 = false := by
            cases hc9 : l14 with
            | false => rfl
            | true => exact absurd (h.all hc9).2.2.2.1 (by rw [hme]; decide)
          have hb := h.bel h14
          clear hr hq
          refine wpOp_run rfl rfl (fun K hK => ?_)
          go_simp
          refine hK _ _ ⟨l0, l1, l2, true, l4, l5, l6, l7, l8, l9, l10, l11, l12, l13, l14, _, _, _, _, _, _, _, _, _, _, _, _, _, _, rfl, rfl, ?_⟩
          exact { bel := h.bel, fin := fun e => absurd e (by rw [h14]; decide), all := fun e => absurd e (by rw [h14]; decide), d0 := h.d0, d1 := h.d1, d2 := h.d2, d3 := fun _ => ⟨rfl, trivial⟩, d4 := fun e => ⟨(h.d4 e).1, rfl⟩, d5 := h.d5, d6 := h.d6, d7 := h.d7, d8 := h.d8, d9 := h.d9, d10 := h.d10, d11 := h.d11, d12 := h.d12, d13 := h.d13 }
        | 4, hq, _ =>
          have hr := ready_dep hq rfl
          have hme : l4 = false := hr.1
          have e3 : l3 = true := hr.2 ⟨3, .data⟩ (by simp) (by kernel_rfl)
          have h14 : l14 = false := by
            cases hc9 : l14 with
            | false => rfl
            | true => exact absurd (h.all hc9).2.2.2.2.1 (by rw [hme]; decide)
          have hb := h.bel h14
          obtain rfl := (h.d3 e3).1
          have hx9 := HXP.out _ (HBXD.out.trans (hb.mono (by have h9 := HBXD.out.size; omega)))
          obtain ⟨c0, c1, c2, c3⟩ := hx9.cells
          have ch := hx9.heap
          have cl := hx9.lt
          clear hr hq
          refine wpOp_run rfl rfl (fun K hK => ?_)
          go_simp
          refine hK _ _ ⟨l0, l1, l2, l3, true, l5, l6, l7, l8, l9, l10, l11, l12, l13, l14, _, _, _, _, _, _, _, _, _, _, _, _, _, _, rfl, rfl, ?_⟩
          exact { bel := h.bel, fin := fun e => absurd e (by rw [h14]; decide), all := fun e => absurd e (by rw [h14]; decide), d0 := h.d0, d1 := h.d1, d2 := h.d2, d3 := h.d3, d4 := fun _ => ⟨rfl, e3⟩, d5 := h.d5, d6 := h.d6, d7 := h.d7, d8 := h.d8, d9 := h.d9, d10 := h.d10, d11 := h.d11, d12 := fun e => ⟨(h.d12 e).1, rfl, (h.d12 e).2.2.1, (h.d12 e).2.2.2.1, (h.d12 e).2.2.2.2⟩, d13 := h.d13 }
        | 5, hq, _ =>
          have hr := ready_dep hq rfl
          have hme : l5 = false := hr.1
          have h14 : l14 = false := by
            cases hc9 : l14 with
            | false => rfl
            | true => exact absurd (h.all hc9).2.2.2.2.2.1 (by rw [hme]; decide)
          have hb := h.bel h14
          clear hr hq
          refine wpOp_run rfl rfl (fun K hK => ?_)
          go_simp
          refine hK _ _ ⟨l0, l1, l2, l3, l4, true, l6, l7, l8, l9, l10, l11, l12, l13, l14, _, _, _, _, _, _, _, _, _, _, _, _, _, _, rfl, rfl, ?_⟩
          exact { bel := h.bel, fin := fun e => absurd e (by rw [h14]; decide), all := fun e => absurd e (by rw [h14]; decide), d0 := h.d0, d1 := h.d1, d2 := h.d2, d3 := h.d3, d4 := h.d4, d5 := fun _ => ⟨rfl, trivial⟩, d6 := fun e => ⟨(h.d6 e).1, rfl⟩, d7 := h.d7, d8 := h.d8, d9 := h.d9, d10 := h.d10, d11 := h.d11, d12 := h.d12, d13 := h.d13 }
        | 6, hq, _ =>
          have hr := ready_dep hq rfl
          have hme : l6 = false := hr.1
          have e5 : l5 = true := hr.2 ⟨5, .data⟩ (by simp) (by kernel_rfl)
          have h14 : l14 = false := by
            cases hc9 : l14 with
            | false => rfl
            | true => exact absurd (h.all hc9).2.2.2.2.2.2.1 (by rw [hme]; decide)
          have hb := h.bel h14
          obtain rfl := (h.d5 e5).1
          obtain ⟨c0, c1⟩ := (HRD.out.below hb HRD.out.lt).cells
          have ch := (HRD.out.below hb HRD.out.lt).heap
          have cl := (HRD.out.below hb HRD.out.lt).lt
          clear hr hq
          refine wpOp_run rfl rfl (fun K hK => ?_)
          go_simp
          refine hK _ _ ⟨l0, l1, l2, l3, l4, l5, true, l7, l8, l9, l10, l11, l12, l13, l14, _, _, _, _, _, _, _, _, _, _, _, _, _, _, rfl, rfl, ?_⟩
          exact { bel := h.bel, fin := fun e => absurd e (by rw [h14]; decide), all := fun e => absurd e (by rw [h14]; decide), d0 := h.d0, d1 := h.d1, d2 := h.d2, d3 := h.d3, d4 := h.d4, d5 := h.d5, d6 := fun _ => ⟨rfl, e5⟩, d7 := h.d7, d8 := h.d8, d9 := h.d9, d10 := h.d10, d11 := h.d11, d12 := fun e => ⟨(h.d12 e).1, (h.d12 e).2.1, rfl, (h.d12 e).2.2.2.1, (h.d12 e).2.2.2.2⟩, d13 := h.d13 }
        | 7, hq, _ =>
          have hr := ready_dep hq rfl
          have hme : l7 = false := hr.1
          have h14 : l14 = false := by
            cases hc9 : l14 with
            | false => rfl
            | true => exact absurd (h.all hc9).2.2.2.2.2.2.2.1 (by rw [hme]; decide)
          have hb := h.bel h14
          clear hr hq
          refine wpOp_run rfl rfl (fun K hK => ?_)
          go_simp
          refine hK _ _ ⟨l0, l1, l2, l3, l4, l5, l6, true, l8, l9, l10, l11, l12, l13, l14, _, _, _, _, _, _, _, _, _, _, _, _, _, _, rfl, rfl, ?_⟩
          exact { bel := h.bel, fin := fun e => absurd e (by rw [h14]; decide), all := fun e => absurd e (by rw [h14]; decide), d0 := h.d0, d1 := h.d1, d2 := h.d2, d3 := h.d3, d4 := h.d4, d5 := h.d5, d6 := h.d6, d7 := fun _ => ⟨rfl, trivial⟩, d8 := fun e => ⟨(h.d8 e).1, rfl⟩, d9 := h.d9, d10 := h.d10, d11 := h.d11, d12 := h.d12, d13 := h.d13 }
        | 8, hq, _ =>
          have hr := ready_dep hq rfl
          have hme : l8 = false := hr.1
          have e7 : l7 = true := hr.2 ⟨7, .data⟩ (by simp) (by kernel_rfl)
          have h14 : l14 = false := by
            cases hc9 : l14 with
            | false => rfl
            | true => exact absurd (h.all hc9).2.2.2.2.2.2.2.2.1 (by rw [hme]; decide)
          have hb := h.bel h14
          obtain rfl := (h.d7 e7).1
          obtain ⟨c0, c1⟩ := (HRD.out.below hb HRD.out.lt).cells
          have ch := (HRD.out.below hb HRD.out.lt).heap
          have cl := (HRD.out.below hb HRD.out.lt).lt
          clear hr hq
          refine wpOp_run rfl rfl (fun K hK => ?_)
          go_simp
          refine hK _ _ ⟨l0, l1, l2, l3, l4, l5, l6, l7, true, l9, l10, l11, l12, l13, l14, _, _, _, _, _, _, _, _, _, _, _, _, _, _, rfl, rfl, ?_⟩
          exact { bel := h.bel, fin := fun e => absurd e (by rw [h14]; decide), all := fun e => absurd e (by rw [h14]; decide), d0 := h.d0, d1 := h.d1, d2 := h.d2, d3 := h.d3, d4 := h.d4, d5 := h.d5, d6 := h.d6, d7 := h.d7, d8 := fun _ => ⟨rfl, e7⟩, d9 := fun e => ⟨(h.d9 e).1, rfl⟩, d10 := h.d10, d11 := h.d11, d12 := h.d12, d13 := h.d13 }
        | 9, hq, _ =>
          have hr := ready_dep hq rfl
          have hme : l9 = false := hr.1
          have e8 : l8 = true := hr.2 ⟨8, .data⟩ (by simp) (by kernel_rfl)
          have h14 : l14 = false := by
            cases hc9 : l14 with
            | false => rfl
            | true => exact absurd (h.all hc9).2.2.2.2.2.2.2.2.2.1 (by rw [hme]; decide)
          have hb := h.bel h14
          obtain rfl := (h.d8 e8).1
          clear hr hq
          refine wpOp_run rfl rfl (fun K hK => ?_)
          go_simp
          refine hK _ _ ⟨l0, l1, l2, l3, l4, l5, l6, l7, l8, true, l10, l11, l12, l13, l14, _, _, _, _, _, _, _, _, _, _, _, _, _, _, rfl, rfl, ?_⟩
          exact { bel := h.bel, fin := fun e => absurd e (by rw [h14]; decide), all := fun e => absurd e (by rw [h14]; decide), d0 := h.d0, d1 := h.d1, d2 := h.d2, d3 := h.d3, d4 := h.d4, d5 := h.d5, d6 := h.d6, d7 := h.d7, d8 := h.d8, d9 := fun _ => ⟨rfl, e8⟩, d10 := fun e => ⟨(h.d10 e).1, rfl⟩, d11 := h.d11, d12 := h.d12, d13 := h.d13 }
        | 10, hq, _ =>
          have hr := ready_dep hq rfl
          have hme : l10 = false := hr.1
          have e9 : l9 = true := hr.2 ⟨9, .data⟩ (by simp) (by kernel_rfl)
          have h14 : l14 = false := by
            cases hc9 : l14 with
            | false => rfl
            | true => exact absurd (h.all hc9).2.2.2.2.2.2.2.2.2.2.1 (by rw [hme]; decide)
          have hb := h.bel h14
          obtain rfl := (h.d9 e9).1
          clear hr hq
          refine wpOp_run rfl rfl (fun K hK => ?_)
          go_simp
          refine hK _ _ ⟨l0, l1, l2, l3, l4, l5, l6, l7, l8, l9, true, l11, l12, l13, l14, _, _, _, _, _, _, _, _, _, _, _, _, _, _, rfl, rfl, ?_⟩
          exact { bel := h.bel, fin := fun e => absurd e (by rw [h14]; decide), all := fun e => absurd e (by rw [h14]; decide), d0 := h.d0, d1 := h.d1, d2 := h.d2, d3 := h.d3, d4 := h.d4, d5 := h.d5, d6 := h.d6, d7 := h.d7, d8 := h.d8, d9 := h.d9, d10 := fun _ => ⟨rfl, e9⟩, d11 := h.d11, d12 := fun e => ⟨(h.d12 e).1, (h.d12 e).2.1, (h.d12 e).2.2.1, rfl, (h.d12 e).2.2.2.2⟩, d13 := h.d13 }
        | 11, hq, _ =>
          have hr := ready_dep hq rfl
          have hme : l11 = false := hr.1
          have h14 : l14 = false := by
            cases hc9 : l14 with
            | false => rfl
            | true => exact absurd (h.all hc9).2.2.2.2.2.2.2.2.2.2.2.1 (by rw [hme]; decide)
          have hb := h.bel h14
          clear hr hq
          refine wpOp_run rfl rfl (fun K hK => ?_)
          go_simp
          refine hK _ _ ⟨l0, l1, l2, l3, l4, l5, l6, l7, l8, l9, l10, true, l12, l13, l14, _, _, _, _, _, _, _, _, _, _, _, _, _, _, rfl, rfl, ?_⟩
          exact { bel := h.bel, fin := fun e => absurd e (by rw [h14]; decide), all := fun e => absurd e (by rw [h14]; decide), d0 := h.d0, d1 := h.d1, d2 := h.d2, d3 := h.d3, d4 := h.d4, d5 := h.d5, d6 := h.d6, d7 := h.d7, d8 := h.d8, d9 := h.d9, d10 := h.d10, d11 := fun _ => ⟨rfl, trivial⟩, d12 := fun e => ⟨(h.d12 e).1, (h.d12 e).2.1, (h.d12 e).2.2.1, (h.d12 e).2.2.2.1, rfl⟩, d13 := h.d13 }
        | 12, hq, _ =>
          have hr := ready_dep hq rfl
          have hme : l12 = false := hr.1
          have e4 : l4 = true := hr.2 ⟨4, .data⟩ (by simp) (by kernel_rfl)
          have e6 : l6 = true := hr.2 ⟨6, .data⟩ (by simp) (by kernel_rfl)
          have e10 : l10 = true := hr.2 ⟨10, .data⟩ (by simp) (by kernel_rfl)
          have e11 : l11 = true := hr.2 ⟨11, .data⟩ (by simp) (by kernel_rfl)
          have h14 : l14 = false := by
            cases hc9 : l14 with
            | false => rfl
            | true => exact absurd (h.all hc9).2.2.2.2.2.2.2.2.2.2.2.2.1 (by rw [hme]; decide)
          have hb := h.bel h14
          obtain rfl := (h.d4 e4).1
          obtain rfl := (h.d6 e6).1
          obtain rfl := (h.d10 e10).1
          obtain rfl := (h.d11 e11).1
          clear hr hq
          refine wpOp_run rfl rfl (fun K hK => ?_)
          go_simp
          go_at_call 114
          refine Calls.mono (GC.out w1 hb) ?_
          rintro e w2 ⟨rfl, hs2⟩
          refine hK _ _ ⟨l0, l1, l2, l3, l4, l5, l6, l7, l8, l9, l10, l11, true, l13, l14, _, _, _, _, _, _, _, _, _, _, _, _, _, _, rfl, rfl, ?_⟩
          exact { bel := fun _ => hb.trans (hs2.mono hb.size), fin := fun e => absurd e (by rw [h14]; decide), all := fun e => absurd e (by rw [h14]; decide), d0 := h.d0, d1 := h.d1, d2 := h.d2, d3 := h.d3, d4 := h.d4, d5 := h.d5, d6 := h.d6, d7 := h.d7, d8 := h.d8, d9 := h.d9, d10 := h.d10, d11 := h.d11, d12 := fun _ => ⟨rfl, e4, e6, e10, e11⟩, d13 := h.d13 }
        | 13, hq, _ =>
          have hr := ready_dep hq rfl
          have hme : l13 = false := hr.1
          have e0 : l0 = true := hr.2 ⟨0, .data⟩ (by simp) (by kernel_rfl)
          have e2 : l2 = true := hr.2 ⟨2, .data⟩ (by simp) (by kernel_rfl)
          have h14 : l14 = false := by
            cases hc9 : l14 with
            | false => rfl
            | true => exact absurd (h.all hc9).2.2.2.2.2.2.2.2.2.2.2.2.2 (by rw [hme]; decide)
          have hb := h.bel h14
          obtain rfl := (h.d0 e0).1
          obtain rfl := (h.d2 e2).1
          clear hr hq
          refine wpOp_run rfl rfl (fun K hK => ?_)
          go_simp
          refine hK _ _ ⟨l0, l1, l2, l3, l4, l5, l6, l7, l8, l9, l10, l11, l12, true, l14, _, _, _, _, _, _, _, _, _, _, _, _, _, _, rfl, rfl, ?_⟩
          exact { bel := h.bel, fin := fun e => absurd e (by rw [h14]; decide), all := fun e => absurd e (by rw [h14]; decide), d0 := h.d0, d1 := h.d1, d2 := h.d2, d3 := h.d3, d4 := h.d4, d5 := h.d5, d6 := h.d6, d7 := h.d7, d8 := h.d8, d9 := h.d9, d10 := h.d10, d11 := h.d11, d12 := h.d12, d13 := fun _ => ⟨rfl, e0, e2⟩ }
        | 14, hq, _ =>
          have hr := ready_dep hq rfl
          have h14 : l14 = false := hr.1
          have e12 : l12 = true := hr.2 ⟨12, .data⟩ (by simp) (by kernel_rfl)
          have e13 : l13 = true := hr.2 ⟨13, .data⟩ (by simp) (by kernel_rfl)
          obtain ⟨r12, e4, e6, e10, e11⟩ := h.d12 e12
          obtain ⟨r13, e0, e2⟩ := h.d13 e13
          have e3 := (h.d4 e4).2
          have e5 := (h.d6 e6).2
          have e9 := (h.d10 e10).2
          have e8 := (h.d9 e9).2
          have e7 := (h.d8 e8).2
          have e1 := (h.d2 e2).2
          have hb := h.bel h14
          have ho9 := owns_below HOD.out hb
          have cn9 := World.ownsRow.cellAt ho9 i (by omega)
          rw [HU0.out] at cn9
          have fn9 := World.ownsRow.frozenAt ho9 i
          subst r12 r13
          clear hr hq ho9
          refine wpOp_run rfl rfl (fun K hK => ?_)
          go_simp
          refine hK _ _ ⟨l0, l1, l2, l3, l4, l5, l6, l7, l8, l9, l10, l11, l12, l13, true, _, _, _, _, _, _, _, _, _, _, _, _, _, _, rfl, rfl, ?_⟩
          exact { bel := fun e => (by cases e), fin := fun _ => ⟨w1, hb, rfl⟩, all := fun _ => ⟨e0, e1, e2, e3, e4, e5, e6, e7, e8, e9, e10, e11, e12, e13⟩, d0 := h.d0, d1 := h.d1, d2 := h.d2, d3 := h.d3, d4 := h.d4, d5 := h.d5, d6 := h.d6, d7 := h.d7, d8 := h.d8, d9 := h.d9, d10 := h.d10, d11 := h.d11, d12 := h.d12, d13 := h.d13 }
      case done =>
        rintro l a w1 ⟨l0, l1, l2, l3, l4, l5, l6, l7, l8, l9, l10, l11, l12, l13, l14, s0, s1, s2, s3, s4, s5, s6, s7, s8, s9, s10, s11, s12, s13, rfl, rfl, h⟩ hr
        cases l0
        · exact (ready_none hr 0 rfl rfl rfl).elim
        cases l1
        · exact (ready_none hr 1 rfl rfl rfl).elim
        cases l2
        · exact (ready_none hr 2 rfl rfl rfl).elim
        cases l3
        · exact (ready_none hr 3 rfl rfl rfl).elim
        cases l4
        · exact (ready_none hr 4 rfl rfl rfl).elim
        cases l5
        · exact (ready_none hr 5 rfl rfl rfl).elim
        cases l6
        · exact (ready_none hr 6 rfl rfl rfl).elim
        cases l7
        · exact (ready_none hr 7 rfl rfl rfl).elim
        cases l8
        · exact (ready_none hr 8 rfl rfl rfl).elim
        cases l9
        · exact (ready_none hr 9 rfl rfl rfl).elim
        cases l10
        · exact (ready_none hr 10 rfl rfl rfl).elim
        cases l11
        · exact (ready_none hr 11 rfl rfl rfl).elim
        cases l12
        · exact (ready_none hr 12 rfl rfl rfl).elim
        cases l13
        · exact (ready_none hr 13 rfl rfl rfl).elim
        cases l14
        · exact (ready_none hr 14 rfl rfl rfl).elim
        obtain ⟨w4, hb4, rfl⟩ := h.fin rfl
        clear hr h
        have HB4 : Hid (Below w.heap.size w w4) := HBD.out.trans (hb4.mono HBD.out.size)
        have HBX4 : Hid (Below (w.heap.size + 1) w0 w4) := HBXD.out.trans (hb4.mono (by have h9 := HBXD.out.size; omega))
        have ho4 := owns_below HOD.out hb4
        have hg7 : w.heap.size + 1 ≤ g7 := by
          rcases ho4.2 with ⟨e, _⟩ | ⟨_, _, _, e, hb9, _⟩
          · cases e
          · injection e with e _ _
            injection e with e
            injection e with e
            omega
        have HO5 : Hid ((w4.setCell ⟨g7, i, none⟩ (.int .u64 VV)).ownsRow (w.heap.size + 1) 46 1 (.slice (some ⟨g7, 0, none⟩) st.length cap7) st.length (cellsU (doF k' st (chs.take (j + 1)) st))) := by
          show (w4.setCell ⟨g7, i, none⟩ (.int .u64 VV)).ownsRow (w.heap.size + 1) 46 1 (.slice (some ⟨g7, 0, none⟩) st.length cap7) st.length (cellsU (doF k' st (chs.take (j + 1)) st))
          rw [HDF.out, ← cellsU_set]
          exact (World.ownsRow.stored ho4 i (.int .u64 VV)).1
        have HB5 : Hid _ := HB4.out.setCell (p := ⟨g7, i, none⟩) (show w.heap.size ≤ g7 by omega) (.int .u64 VV)
        have HBX5 : Hid _ := HBX4.out.setCell (p := ⟨g7, i, none⟩) (show w.heap.size + 1 ≤ g7 by omega) (.int .u64 VV)
        clear hb4 ho4
        go_wp2_with fail
        go_roundw
        case rel => exact ⟨j + 1, by omega, by go_num, HO5, HB5, HBX5⟩
        case measure => simp [intOf]; omega
    · obtain rfl : j = chs.length := by omega
      rw [List.take_length] at HO
      have HO2 : Hid (OwnUS wr w.heap.size wr.heap.size (.slice (some ⟨g7, 0, none⟩) st.length cap7) (nextP p st m)) := by
        show RowIn _ _ _ _ _ _ _ _
        rw [HNX.out, doF_len]
        exact RowIn.weak (rowIn_of HO.out) (Nat.le_succ _) (Nat.le_refl _) (Nat.le_refl _)
      clear HO HCH HIN GV HNX HST HXP HCY HV
      go_wp2_with fail
      go_ret
      exact ⟨_, rfl, HO2.out, HB.out⟩
end Go.Proofs.YtjbolpfilgkbfaaDoor

namespace Go.Proofs.YtjbolpfilgkbfaaDoor
open Go Go.RowKit
open M
set_option linter.unusedVariables false
set_option linter.unusedSimpArgs false

set_option maxRecDepth 100000 in
theorem l1Has_any (v : Value) (t : List Int) (n : Int) (w : World) (h : IntsAt w v t) :
    Calls Tryd.prog 100 #[v, .int .i64 n] w fun e w' => e = .returned (.bool (decide (n ∈ t))) ∧ w' = w := by
  have hl := h.1
  obtain ⟨a, cap, rfl, hc⟩ := h.opened
  clear h
  go_enter Tryd.func100, Tryd.ntmps100
  go_wp2_with fail
  go_loop [9] (fun i => ∃ j : Nat, j ≤ t.length ∧ i = .int .i64 j ∧ Hid (n ∉ t.take j)) (fun i => t.length - (intOf i).toNat)
  case atStart => exact ⟨0, by omega, rfl, List.not_mem_nil⟩
  case round =>
    obtain ⟨j, hj, rfl, HA⟩ := hrel
    by_cases hlt : j < t.length
    · obtain ⟨x, hx⟩ : ∃ x, t[j]? = some x := ⟨t[j], List.getElem?_eq_getElem hlt⟩
      obtain ⟨b, off, rfl, hb, c0⟩ := hc j x hx
      by_cases hp : x = n
      · have HN : Hid (decide (n ∈ t) = true) := decide_eq_true (by rw [← hp]; exact List.mem_of_getElem? hx)
        have hpe : (x == n) = true := by simp [hp]
        clear hc hx HA hp
        go_wp2_with fail
        go_ret
        exact ⟨ret_bool HN.out.symm, rfl⟩
      · have HN : Hid (n ∉ t.take (j + 1)) := by
          show n ∉ t.take (j + 1)
          rw [List.take_add_one, hx]
          intro h
          simp only [Option.toList_some, List.mem_append, List.mem_singleton] at h
          rcases h with h | h
          · exact HA.out h
          · exact hp h.symm
        have hpe : (x == n) = false := by simp [hp]
        clear hc hx HA hp
        go_wp2_with fail
        go_round
        case rel => exact ⟨j + 1, by omega, by go_num, HN⟩
        case measure => simp [intOf]; omega
    · obtain rfl : j = t.length := by omega
      have HN : Hid (decide (n ∈ t) = false) := by
        have h1 := HA.out
        rw [List.take_length] at h1
        exact decide_eq_false h1
      clear hc HA
      go_wp2_with fail
      go_ret
      exact ⟨ret_bool HN.out.symm, rfl⟩
end Go.Proofs.YtjbolpfilgkbfaaDoor

namespace Go.Proofs.YtjbolpfilgkbfaaDoor
open Go Go.RowKit
open M
set_option linter.unusedVariables false

set_option maxRecDepth 100000 in
set_option maxHeartbeats 4000000 in
theorem sStepBy_any (v sv : Value) (p : Pg) (ok : PgOk p) (st : List Int) (hst : WsOk st) (n : Int) (w : World) (h : AtProg w v p) (hs : StAt w sv st) (hsrc : Src w sv st.length (cellsU st)) :
    Calls Tryd.prog 55 #[v, sv, .int .i64 n] w fun e w' => ∃ r0, e = .returned (.tuple #[r0, .bool (stepP p st n)]) ∧ OwnUS w' w.heap.size w'.heap.size r0 (stepL p st n) ∧ Below w.heap.size w w' := by
  have GE : Hid (∀ w1 : World, Below w.heap.size w w1 → Calls Tryd.prog 29 #[v, sv] w1 fun e w' => ∃ r0, e = .returned (.tuple #[r0, .bool (goodS p st)]) ∧ OwnIS w' w1.heap.size w'.heap.size r0 (enP p st) ∧ Below w1.heap.size w1 w') := fun w1 hb => sEnabled_any v sv p st hst w1 (h.below hb) (hs.below hb)
  have GD : Hid (stepP p st n = true → ∀ w1 : World, Below w.heap.size w w1 → Calls Tryd.prog 101 #[v, sv, .int .i64 n] w1 fun e w' => ∃ r, e = .returned r ∧ OwnUS w' w1.heap.size w'.heap.size r (nextP p st n) ∧ Below w1.heap.size w1 w') := fun hsp w1 hb => by
    unfold stepP at hsp
    rw [Bool.and_eq_true] at hsp
    exact sDo_any v sv p ok st hst n hsp.1 hsp.2 w1 (h.below hb) (hs.below hb) (hsrc.below hb)
  have hlen := enP_len p st
  have hB : stepP p st n = (goodS p st && stepB p st n) := rfl
  have hL : stepL p st n = if stepP p st n = true then nextP p st n else [] := rfl
  have hE : goodS p st = true → decide (n ∈ enP p st) = stepB p st n := fun hg => by
    have e : enP p st = enF p.1 st p.2.2.2 0 := by
      unfold enP
      rw [if_pos hg]
    rw [e]
    cases hb : stepB p st n with
    | true => exact decide_eq_true (step_en.2 hb)
    | false => exact decide_eq_false (fun hm => by rw [step_en.1 hm] at hb; cases hb)
  have HGN : Hid (goodS p st = false → stepP p st n = false) := fun hg => by
    show stepP p st n = false
    rw [hB, hg, Bool.false_and]
  have HGY : Hid (goodS p st = true → stepP p st n = decide (n ∈ enP p st)) := fun hg => by
    show stepP p st n = decide (n ∈ enP p st)
    rw [hB, hg, Bool.true_and, hE hg]
  have HL : Hid (stepL p st n = if stepP p st n = true then nextP p st n else []) := hL
  obtain ⟨sa, sn, sc, ca, cn, cc, rfl⟩ := h.shape
  have HB0 : Hid (Below w.heap.size w (w.alloc (.cells #[.int .i64 p.1, .int .i64 p.2.1, .slice sa sn sc, .slice ca cn cc] 27))) := (Below.refl _ _).alloc (Nat.le_refl _) _
  have x0 := box4_alloc w 27 (.int .i64 p.1) (.int .i64 p.2.1) (.slice sa sn sc) (.slice ca cn cc)
  have HX0 : Hid _ := x0
  obtain ⟨ua, uc, rfl⟩ := hs.shape
  clear h hs hst ok hsrc x0 hB hL hE
  generalize nextP p st n = NX at *
  generalize stepL p st n = SL at *
  generalize stepP p st n = SB at *
  generalize enP p st = EN at *
  generalize goodS p st = GS at *
  generalize st.length = sl at *
  generalize p.1 = pw at *
  generalize p.2.1 = pv at *
  go_enter Tryd.func55, Tryd.ntmps55
  go_wp2_with fail
  refine (GE.out _ HB0.out).mono ?_
  generalize w.alloc (.cells #[.int .i64 pw, .int .i64 pv, .slice sa sn sc, .slice ca cn cc] 27) = w0 at *
  rintro e w1 ⟨r0, rfl, ho, hs⟩
  have HB1 : Hid (Below w.heap.size w w1) := Below.step HB0.out HB0.out.size hs
  have x1 := HX0.out.below hs HX0.out.lt
  have hi1 := ho.reads hlen
  obtain ⟨ra, rn, rc, rfl⟩ := ho.shape
  clear hs HX0 GE ho
  cases GS with
  | false =>
    obtain rfl := HGN.out rfl
    have HE : Hid (SL = []) := by
      show SL = []
      rw [HL.out, if_neg (by decide)]
    clear x1 hi1 HGN HGY HL GD
    go_wp2_with fail
    go_ret2
    exact ⟨_, rfl, by rw [HE.out]; exact ownUS_nil _ _ HB1.out.size, HB1.out⟩
  | true =>
    have g := l1Has_any _ EN n w1 hi1
    have hsb := HGY.out rfl
    rw [← hsb] at g
    have HX1 : Hid _ := x1
    obtain ⟨a0, a1, a2, a3⟩ := x1.cells
    have ah := x1.heap
    have al := x1.lt
    clear x1 hi1 HGN HGY hsb
    cases SB with
    | false =>
      have HE : Hid (SL = []) := by
        show SL = []
        rw [HL.out, if_neg (by decide)]
      clear HL GD
      go_wp2_with fail
      refine g.mono ?_
      rintro e w2 ⟨rfl, rfl⟩
      clear g
      go_wp2_with fail
      go_ret2
      exact ⟨_, rfl, by rw [HE.out]; exact ownUS_nil _ _ HB1.out.size, HB1.out⟩
    | true =>
      have HE : Hid (SL = NX) := by
        show SL = NX
        rw [HL.out, if_pos rfl]
      have GD2 : Hid _ := GD.out rfl
      clear HL GD
      go_wp2_with fail
      refine g.mono ?_
      rintro e w2 ⟨rfl, rfl⟩
      clear g
      go_wp2_with fail
      refine (GD2.out _ HB1.out).mono ?_
      rintro e w3 ⟨r, rfl, ho, hs⟩
      have HB3 : Hid (Below w.heap.size w w3) := HB1.out.trans (hs.mono HB1.out.size)
      have HO3 : Hid (OwnUS w3 w.heap.size w3.heap.size r NX) := OwnUS.lower ho HB1.out.size
      clear ho hs a0 a1 a2 a3 ah al
      go_wp2_with fail
      go_ret2
      exact ⟨_, rfl, by rw [HE.out]; exact HO3.out, HB3.out⟩
end Go.Proofs.YtjbolpfilgkbfaaDoor

namespace Go.Proofs.YtjbolpfilgkbfaaDoor
open Go Go.RowKit
open M
set_option linter.unusedVariables false

set_option maxRecDepth 100000 in
set_option maxHeartbeats 2000000 in
theorem iStepBy_any (v sv : Value) (p : Pg) (ok : PgOk p) (st : List Int) (hst : WsOk st) (n : Int) (w : World) (hT : Tab w) (h : AtProg w v p) (hs : StAt w sv st) :
    Calls Tryd.prog 22 #[v, sv, .int .i64 n] w fun e w' => ∃ r0, e = .returned (.tuple #[r0, .bool (stepP p st n)]) ∧ OwnUS w' w.heap.size w'.heap.size r0 (stepL p st n) ∧ Below w.heap.size w w' := by
  obtain ⟨sa, sn, sc, ca, cn, cc, rfl⟩ := h.shape
  have HB0 : Hid (Below w.heap.size w (w.alloc (.cells #[.int .i64 p.1, .int .i64 p.2.1, .slice sa sn sc, .slice ca cn cc] 27))) := (Below.refl _ _).alloc (Nat.le_refl _) _
  have g := rootsWith_any _ sv p ok st hst.1 hst.2 _ (hT.below HB0.out hT.some) (h.below HB0.out) (hs.below HB0.out)
  obtain ⟨ua, uc, rfl⟩ := hs.shape
  have h4 : (Tryd.prog.info? 90).map (·.size) = some 4 := by kernel_rfl
  have HT : Hid (Tab w) := hT
  have HOK : Hid (PgOk p) := ok
  have HST : Hid (WsOk st) := hst
  clear h hs hT ok hst
  go_enter Tryd.func22, Tryd.ntmps22
  go_wp2_with fail
  refine g.mono ?_
  generalize w.alloc (.cells #[.int .i64 p.1, .int .i64 p.2.1, .slice sa sn sc, .slice ca cn cc] 27) = w0 at *
  rintro e w1 ⟨ho, hb1⟩
  have HB1 : Hid (Below w.heap.size w w1) := Below.step HB0.out HB0.out.size hb1
  clear g
  rcases ho with ⟨hg, P, rfl, hroot⟩ | ⟨hg, rfl⟩
  · obtain ⟨hgp, k, vars, hp1, hp2, hw⟩ := goodS_open (fun s hs => (HST.out.1 s hs).1) hg
    have hb2 : Below w1.heap.size w1 (w1.alloc (.cells #[.int .u64 (padW st 0), .int .u64 (padW st 1), .int .u64 (padW st 2), .int .u64 (padW st 3)] 90)) := (Below.refl _ _).alloc (Nat.le_refl _) _
    have HB2 : Hid _ := HB1.out.trans (hb2.mono HB1.out.size)
    have hr2 := Rooted.old hroot hb2
    have y2 := box4_alloc w1 90 (.int .u64 (padW st 0)) (.int .u64 (padW st 1)) (.int .u64 (padW st 2)) (.int .u64 (padW st 3))
    have ht2 := HT.out.below HB2.out HT.out.some
    have HG : Hid (goodS p st = true) := hg
    have gs := step_any hw p hp1 hp2 HOK.out hgp P n _ ht2 hr2
    obtain ⟨_, x, y, hx2, _, _⟩ := id hr2
    rw [hp1, hp2] at hx2
    have HX2 : Hid _ := hx2
    have HFB : Hid (stepP p st n = stepB p st n) := by
      show stepP p st n = stepB p st n
      unfold stepP
      rw [HG.out, Bool.true_and]
    have HFL : Hid (stepL p st n = if stepP p st n = true then nextP p st n else []) := rfl
    have HWN : Hid (stepB p st n = true → WordsIn k vars (nextP p st n)) := fun h => next_words hp1 hp2 hgp HOK.out hw h
    unfold aggS at *
    obtain ⟨q0, q1, q2, q3⟩ := y2.cells
    have qh := y2.heap
    have ql := y2.lt
    clear hroot hb1 hb2 hr2 y2 ht2 hg hgp hw hp1 hp2 HT HOK HST hx2 HG
    generalize padW st 0 = x0 at *
    generalize padW st 1 = x1 at *
    generalize padW st 2 = x2 at *
    generalize padW st 3 = x3 at *
    go_wp2_with fail
    refine gs.mono ?_
    clear q0 q1 q2 q3 qh ql
    rintro e w3 ⟨rfl, hs3⟩
    have HB3 : Hid (Below w.heap.size w w3) := HB2.out.trans (hs3.mono HB2.out.size)
    have HX3 : Hid _ := HX2.out.below hs3 HX2.out.lt
    clear gs hs3
    cases hsb : stepB p st n with
    | false =>
      have HFB2 : Hid (stepP p st n = false) := HFB.out.trans hsb
      have HE : Hid (stepL p st n = []) := by
        show stepL p st n = []
        rw [HFL.out, HFB2.out, if_neg (by decide)]
      rw [if_neg (by decide)]
      have HB4 : Hid (Below w.heap.size w (w3.alloc (.cells #[.int .u64 0, .int .u64 0, .int .u64 0, .int .u64 0] 90))) := HB3.out.alloc HB3.out.size _
      clear hsb HFL HWN
      go_wp2_with fail
      go_ret2
      exact ⟨_, by rw [HFB2.out]; rfl, by rw [HE.out]; exact ownUS_nil _ _ HB4.out.size, HB4.out⟩
    | true =>
      have HFB2 : Hid (stepP p st n = true) := HFB.out.trans hsb
      have HE : Hid (stepL p st n = nextP p st n) := by
        show stepL p st n = nextP p st n
        rw [HFL.out, HFB2.out, if_pos rfl]
      rw [if_pos rfl]
      have hwn := HWN.out hsb
      have hb4 : Below w3.heap.size w3 (w3.alloc (.cells #[.int .u64 (padW (nextP p st n) 0), .int .u64 (padW (nextP p st n) 1), .int .u64 (padW (nextP p st n) 2), .int .u64 (padW (nextP p st n) 3)] 90)) := (Below.refl _ _).alloc (Nat.le_refl _) _
      have HB4 : Hid _ := HB3.out.trans (hb4.mono HB3.out.size)
      have gl := list_any hwn P x y _ (HX3.out.below hb4 HX3.out.lt)
      have y4 := box4_alloc w3 90 (.int .u64 (padW (nextP p st n) 0)) (.int .u64 (padW (nextP p st n) 1)) (.int .u64 (padW (nextP p st n) 2)) (.int .u64 (padW (nextP p st n) 3))
      unfold aggS at *
      obtain ⟨q0, q1, q2, q3⟩ := y4.cells
      have qh := y4.heap
      have ql := y4.lt
      clear hsb HFL HWN hwn hb4 y4
      generalize nextP p st n = NS at *
      generalize padW NS 0 = n0 at *
      generalize padW NS 1 = n1 at *
      generalize padW NS 2 = n2 at *
      generalize padW NS 3 = n3 at *
      go_wp2_with fail
      refine gl.mono ?_
      rintro e w5 ⟨r, rfl, ho, hs5⟩
      have HB5 : Hid (Below w.heap.size w w5) := HB4.out.trans (hs5.mono HB4.out.size)
      have HO5 : Hid (OwnUS w5 w.heap.size w5.heap.size r NS) := OwnUS.lower ho HB4.out.size
      clear gl hs5 ho
      go_wp2_with fail
      go_ret2
      exact ⟨_, by rw [HFB2.out]; rfl, by rw [HE.out]; exact HO5.out, HB5.out⟩
  · have HFB2 : Hid (stepP p st n = false) := by
      show stepP p st n = false
      unfold stepP
      rw [hg, Bool.false_and]
    have HE : Hid (stepL p st n = []) := by
      show stepL p st n = []
      unfold stepL
      rw [HFB2.out, if_neg (by decide)]
    clear hg hb1 HT HOK HST
    go_wp2_with fail
    go_ret2
    exact ⟨_, by rw [HFB2.out]; rfl, by rw [HE.out]; exact ownUS_nil _ _ (HB1.out.alloc HB1.out.size _).size, HB1.out.alloc HB1.out.size _⟩
end Go.Proofs.YtjbolpfilgkbfaaDoor
