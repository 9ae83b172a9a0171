/-
  The program's stateFrom.
-/
import Derived.Test.YtmhpnkfibecnmaaDoorStateF
import Derived.Laws.Tables
namespace Go.Proofs.YtmhpnkfibecnmaaDoor
open Go Go.RowKit
open M
set_option linter.unusedVariables false

theorem results_a4 {fn : Func} {p u : Tmp} (h : fn.results = #[.cell p 86, .tmp u]) (tmps : Array Value) (w : World) (g : Nat) (t : TypeId) (cs : Array Value) (fr : Nat × Nat)
    (hp : tmps.getD p undef = .pointer (some ⟨g, 0, none⟩)) (hg : w.heap[g]? = some (.cells cs t fr)) (hi : cs.size = 4 := by rfl) :
    (results fn tmps).run Tryd.prog w = .ok (.tuple #[.agg cs, tmps.getD u undef]) w := by
  have hp' : tmps[p]?.getD undef = .pointer (some ⟨g, 0, none⟩) := by simpa using hp
  have h4 : (Tryd.prog.info? 86).map (·.size) = some 4 := by kernel_rfl
  simp [results, h, hp', asAddr, run_loadVar_row w g t 86 cs fr _ hg Tryd.underlying86 rfl (by rw [hi]; exact h4)]
theorem StAt.opened {w : World} {v : Value} {t : List Int} (h : StAt w v t) : ∃ a cap, v = .slice a t.length cap ∧ ∀ (i : Nat) (x : Int), t[i]? = some x → ∃ b off : Nat, a = some ⟨b, off, none⟩ ∧ b < w.heap.size ∧ w.cell? ⟨b, off + i, none⟩ = some (.int .u64 x) := by
  rcases h with ⟨rfl, a, cap, rfl⟩ | ⟨b, off, cap, rfl, hlt, hc⟩
  · exact ⟨a, cap, rfl, fun i x hx => by simp at hx⟩
  · exact ⟨_, cap, rfl, fun i x hx => ⟨b, off, rfl, hlt, hc i x hx⟩⟩
set_option maxRecDepth 100000 in
set_option maxHeartbeats 8000000 in
theorem stateFrom_any (k : Nat) (hk1 : 1 ≤ k) (hk : k ≤ 64) (pv : Nat) (hpv : pv ≤ 4) (rb : Nat) (u z sv : Value) (st : List Int) (hok : ∀ s ∈ st, 0 ≤ s ∧ s ≤ 18446744073709551615) (hl : st.length ≤ 9223372036854775807) (w : World) (hT : Tab w) (hR : Box4 w rb 107 (.int .i64 k) (.int .i64 pv) u z) (hs : StAt w sv st) :
    Calls Tryd.prog 99 #[.pointer (some ⟨rb, 0, none⟩), sv] w (StOut w k pv st) := by
  have hb2 : Below w.heap.size w ((w.alloc (.cells #[.int .u64 0, .int .u64 0, .int .u64 0, .int .u64 0] 86)).alloc (.cells #[.int .u64 0, .int .u64 0, .int .u64 0, .int .u64 0] 86)) := ((Below.refl _ _).alloc (Nat.le_refl _) _).alloc (by rw [World.size_alloc]; omega) _
  obtain ⟨a, cap, rfl, hc⟩ := (hs.below hb2).opened
  have y0 := (box4_alloc w 86 (.int .u64 0) (.int .u64 0) (.int .u64 0) (.int .u64 0)).alloc (.cells #[.int .u64 0, .int .u64 0, .int .u64 0, .int .u64 0] 86)
  have y1 := box4_alloc (w.alloc (.cells #[.int .u64 0, .int .u64 0, .int .u64 0, .int .u64 0] 86)) 86 (.int .u64 0) (.int .u64 0) (.int .u64 0) (.int .u64 0)
  simp only [World.size_alloc] at y1
  have hR2 := hR.below hb2 hR.lt
  have hrl := hR.lt
  have hsz : ((w.alloc (.cells #[.int .u64 0, .int .u64 0, .int .u64 0, .int .u64 0] 86)).alloc (.cells #[.int .u64 0, .int .u64 0, .int .u64 0, .int .u64 0] 86)).heap.size = w.heap.size + 2 := by rw [World.size_alloc, World.size_alloc]
  obtain ⟨n, hn⟩ : ∃ n, st.length = n := ⟨_, rfl⟩
  rw [hn] at hl ⊢
  clear hs hR
  obtain ⟨i0, hi⟩ : ∃ i0, Tryd.prog.info? 46 = some i0 := Option.isSome_iff_exists.1 (by kernel_rfl)
  have hz1 : (Tryd.prog.info? 46).map (·.size) = some 1 := by kernel_rfl
  by_cases he : n = pv
  · subst he
    have hne : ((n : Int) != (n : Int)) = false := by simp
    have hnn : (st.map (Value.int .u64)).length = Nat.min n 4 := by rw [List.length_map, hn]; exact (Nat.min_eq_left hpv).symm
    have hpos : 0 < (st.map (Value.int .u64)).length → some (⟨w.heap.size + 1, 0, none⟩ : Addr) = some ⟨w.heap.size + 1, 0, none⟩ ∧ ∃ ad, a = some ad ∧ ∀ (j : Nat) (v : Value), (st.map (Value.int .u64))[j]? = some v → ((w.alloc (.cells #[.int .u64 0, .int .u64 0, .int .u64 0, .int .u64 0] 86)).alloc (.cells #[.int .u64 0, .int .u64 0, .int .u64 0, .int .u64 0] 86)).cell? (ad.add j) = some v := by
      intro hp
      refine ⟨rfl, ?_⟩
      rw [List.length_map] at hp
      obtain ⟨b, off, rfl, _, _⟩ := hc 0 _ (List.getElem?_eq_getElem hp)
      refine ⟨_, rfl, fun j v hv => ?_⟩
      rw [List.getElem?_map] at hv
      cases e : st[j]? with
      | none => rw [e] at hv; simp at hv
      | some x =>
        rw [e] at hv
        obtain rfl := Option.some.inj hv
        obtain ⟨b', off', e1, _, hx⟩ := hc j x e
        injection e1 with e1
        injection e1 with e1 e2
        subst e1 e2
        have ea : (⟨b, off, none⟩ : Addr).add j = ⟨b, off + j, none⟩ := by simp [Addr.add]
        rw [ea]
        exact hx
    have hfit : 0 + (st.map (Value.int .u64)).length ≤ [Value.int .u64 0, .int .u64 0, .int .u64 0, .int .u64 0].length := by rw [List.length_map, hn]; simpa using hpv
    have h1 : ∀ v ∈ st.map (Value.int .u64), v.oneCell' = true := by
      intro v hv
      obtain ⟨x, _, rfl⟩ := List.mem_map.1 hv
      rfl
    have hg := y1.heap
    obtain ⟨p0, p1, p2, p3⟩ := hR2.cells
    have ph := hR2.heap
    have pl := hR2.lt
    have HR2 : Hid _ := hR2
    have HY0 : Hid _ := y0
    have HB : Hid _ := hb2
    have HN : Hid (st.length = n) := hn
    have HOK : Hid _ := hok
    clear y0 y1 hb2 hR2 hc hn hok
    go_enter Tryd.func99, Tryd.ntmps99
    go_wp2_with (refine wpList_copy_splice rfl _ _ _ _ rfl 46 Tryd.underlying28 hz1 _ _ _ _ _ _ rfl rfl (w.heap.size + 1) 0 [.int .u64 0, .int .u64 0, .int .u64 0, .int .u64 0] 86 hg (st.map (Value.int .u64)) hnn hpos hfit h1 (w.heap.size + 1) _ (Below.refl _ _) (Nat.le_refl _) ?_)
    intro w1 HG hb1
    have hlen : st.length ≤ 4 := by have := HN.out; omega
    have hG := HG.out
    rw [splice_pad st hlen] at hG
    have HX1 : Hid (Box4 w1 (w.heap.size + 1) 86 (.int .u64 (padW st 0)) (.int .u64 (padW st 1)) (.int .u64 (padW st 2)) (.int .u64 (padW st 3))) := ⟨hG⟩
    have HZ1 : Hid _ := HY0.out.below hb1 (Nat.lt_succ_self _)
    have HR1 : Hid _ := HR2.out.below hb1 (by omega)
    have HB1 : Hid (Below w.heap.size w w1) := HB.out.trans (hb1.mono (by omega))
    have hs1 := hb1.size
    rw [hsz] at hs1
    clear HG hG hb1 HR2 HY0 HB p0 p1 p2 p3 ph pl hg
    have GC : Hid _ := cutS_any k hk1 hk (padW st 0) (padW st 1) (padW st 2) (padW st 3) (padW_in st HOK.out 0) (padW_in st HOK.out 1) (padW_in st HOK.out 2) (padW_in st HOK.out 3) w1.drew (hT.below HB1.out.drew hT.some)
    have HX1d : Hid (Box4 w1.drew (w.heap.size + 1) 86 (.int .u64 (padW st 0)) (.int .u64 (padW st 1)) (.int .u64 (padW st 2)) (.int .u64 (padW st 3))) := ⟨HX1.out.heap⟩
    have HZ1d : Hid (Box4 w1.drew w.heap.size 86 (.int .u64 0) (.int .u64 0) (.int .u64 0) (.int .u64 0)) := ⟨HZ1.out.heap⟩
    have HR1d : Hid (Box4 w1.drew rb 107 (.int .i64 k) (.int .i64 n) u z) := ⟨HR1.out.heap⟩
    have hsd : w1.drew.heap.size = w1.heap.size := rfl
    have EQ := equalS (padW st 0) (padW st 1) (padW st 2) (padW st 3) (cut k (padW st 0)) (cut k (padW st 1)) (cut k (padW st 2)) (cut k (padW st 3))
    rw [good_pad k ⟨hk1, hk⟩ st HOK.out hlen] at EQ
    have hB : stB k (n : Int) st = st.all (goodB k) := by
      unfold stB
      rw [HN.out, decide_eq_true rfl]
      rfl
    obtain ⟨q0, q1, q2, q3⟩ := HX1.out.cells
    have qh := HX1.out.heap
    have ql := HX1.out.lt
    obtain ⟨p0, p1, p2, p3⟩ := HR1.out.cells
    have ph := HR1.out.heap
    have pl := HR1.out.lt
    obtain ⟨z0, z1, z2, z3⟩ := HZ1.out.cells
    have zh := HZ1.out.heap
    have zl := HZ1.out.lt
    generalize hp0 : padW st 0 = x0 at *
    generalize hp1 : padW st 1 = x1 at *
    generalize hp2 : padW st 2 = x2 at *
    generalize hp3 : padW st 3 = x3 at *
    have h4 : (Tryd.prog.info? 86).map (·.size) = some 4 := by kernel_rfl
    go_wp2_with fail
    go_region_with (go_at_call 113; refine Calls.mono GC.out ?_; rintro e w2 ⟨rfl, hb2⟩; have HX2 : Hid _ := HX1d.out.below hb2 (by omega); have HZ2 : Hid _ := HZ1d.out.below hb2 (by omega); have HR2 : Hid _ := HR1d.out.below hb2 (by omega); have HB2 : Hid (Below w.heap.size w w2) := HB1.out.drew.trans (hb2.mono (by omega)); obtain ⟨q0', q1', q2', q3'⟩ := HX2.out.cells; have qh' := HX2.out.heap; have ql' := HX2.out.lt; obtain ⟨p0', p1', p2', p3'⟩ := HR2.out.cells; have ph' := HR2.out.heap; have pl' := HR2.out.lt; obtain ⟨z0', z1', z2', z3'⟩ := HZ2.out.cells; have zh' := HZ2.out.heap; have zl' := HZ2.out.lt; have f0' := HZ2.out.frozen 0; have f1' := HZ2.out.frozen 1; have f2' := HZ2.out.frozen 2; have f3' := HZ2.out.frozen 3; clear hb2)
    all_goals
      go_wp2_with fail
      refine bodyPost_ret (results_a4 rfl _ _ _ _ _ _ rfl ((((HZ2.out.set0 (.int .u64 x0)).set1 (.int .u64 x1)).set2 (.int .u64 x2)).set3 (.int .u64 x3)).heap) rfl ?_
      exact ⟨x0, x1, x2, x3, by rw [hB]; rfl, fun _ => ⟨hp0.symm, hp1.symm, hp2.symm, hp3.symm⟩, (((HB2.out.setCell (Nat.le_refl _) (.int .u64 x0)).setCell (Nat.le_refl _) (.int .u64 x1)).setCell (Nat.le_refl _) (.int .u64 x2)).setCell (Nat.le_refl _) (.int .u64 x3)⟩
  · have hne : ((n : Int) != (pv : Int)) = true := by
      have : ¬ (n : Int) = (pv : Int) := by omega
      simpa using this
    have hf : stB k (pv : Int) st = false := by
      unfold stB
      rw [hn, decide_eq_false (by omega)]
      rfl
    obtain ⟨p0, p1, p2, p3⟩ := hR2.cells
    have ph := hR2.heap
    have pl := hR2.lt
    obtain ⟨q0, q1, q2, q3⟩ := y0.cells
    have qh := y0.heap
    have ql := y0.lt
    obtain ⟨r0, r1, r2, r3⟩ := y1.cells
    have rh := y1.heap
    have rl := y1.lt
    go_enter Tryd.func99, Tryd.ntmps99
    go_wp2_with fail
    refine bodyPost_ret (results_a4 rfl _ _ _ _ _ _ rfl qh) rfl ?_
    exact ⟨0, 0, 0, 0, by rw [hf]; rfl, fun h => by rw [hf] at h; simp at h, hb2⟩
end Go.Proofs.YtmhpnkfibecnmaaDoor
