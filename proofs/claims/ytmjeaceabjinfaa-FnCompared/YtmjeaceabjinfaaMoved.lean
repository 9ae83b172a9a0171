/-
  Results whose first part is a struct; the program's moved.
-/
import Derived.Test.YtmjeaceabjinfaaPruneM
import Derived.Test.YtmjeaceabjinfaaICone
namespace Go.Proofs.Ytmjeaceabjinfaa
open Go Go.RowKit
open M
set_option linter.unusedVariables false

theorem results_c1 {P : Program} {fn : Func} {p u : Tmp} {ty : TypeId} (h : fn.results = #[.cell p ty, .tmp u]) (tmps : Array Value) (w : World) (g : Nat) (t : TypeId) (cs : Array Value) (fr : Nat × Nat) (d : TypeDesc)
    (hp : tmps.getD p undef = .pointer (some ⟨g, 0, none⟩)) (hg : w.heap[g]? = some (.cells cs t fr))
    (hu : P.underlying ty = some d) (hd : (match d with | .struct _ | .array _ _ => true | _ => false) = true) (hi : (P.info? ty).map (·.size) = some cs.size) :
    (results fn tmps).run P w = .ok (.tuple #[.agg cs, tmps.getD u undef]) w := by
  have hp' : tmps[p]?.getD undef = .pointer (some ⟨g, 0, none⟩) := by simpa using hp
  simp [results, h, hp', asAddr, run_loadVar_row w g t ty cs fr d hg hu hd hi]
theorem results_c2 {P : Program} {fn : Func} {p u v : Tmp} {ty : TypeId} (h : fn.results = #[.cell p ty, .tmp u, .tmp v]) (tmps : Array Value) (w : World) (g : Nat) (t : TypeId) (cs : Array Value) (fr : Nat × Nat) (d : TypeDesc)
    (hp : tmps.getD p undef = .pointer (some ⟨g, 0, none⟩)) (hg : w.heap[g]? = some (.cells cs t fr))
    (hu : P.underlying ty = some d) (hd : (match d with | .struct _ | .array _ _ => true | _ => false) = true) (hi : (P.info? ty).map (·.size) = some cs.size) :
    (results fn tmps).run P w = .ok (.tuple #[.agg cs, tmps.getD u undef, tmps.getD v undef]) w := by
  have hp' : tmps[p]?.getD undef = .pointer (some ⟨g, 0, none⟩) := by simpa using hp
  simp [results, h, hp', asAddr, run_loadVar_row w g t ty cs fr d hg hu hd hi]
theorem IntsAt.at {w : World} {v : Value} {t : List Int} (h : IntsAt w v t) {i : Int} (h0 : 0 ≤ i) (h1 : i < t.length) : ∃ g off cap : Nat, v = .slice (some ⟨g, off, none⟩) t.length cap ∧ g < w.heap.size ∧ w.cell? ⟨g, off + i.toNat, none⟩ = some (.int .i64 (atI t i)) := by
  rcases h.2 with ⟨rfl, _⟩ | ⟨g, off, cap, rfl, hlt, hc⟩
  · simp at h1
    omega
  · refine ⟨g, off, cap, rfl, hlt, hc i.toNat _ ?_⟩
    unfold atI
    rw [List.getD_eq_getElem?_getD, List.getElem?_eq_getElem (by omega)]
    rfl
theorem heap2 (w : World) (a b : Obj) : ((w.alloc a).alloc b).heap[w.heap.size + 1]? = some b := by
  have h := heap_alloc_new (w.alloc a) b
  rw [World.size_alloc] at h
  exact h
theorem below2 (w : World) (a b : Obj) : Below w.heap.size w ((w.alloc a).alloc b) := ((Below.refl _ _).alloc (Nat.le_refl _) _).alloc (by simp) _
set_option maxRecDepth 100000 in
set_option maxHeartbeats 2000000 in
theorem moved_any (g : Gt) (pv : Value) (p : List Int) (own : Int) (hown : own ≤ p.length) (hlim : p.length ≤ 1000) (hg : gateB own g = true) (w : World) (h : IntsAt w pv p) :
    Calls Try.prog 90 #[gv g, pv] w fun e w' => e = .returned (gv (movedL p g)) ∧ Below w.heap.size w w' := by
  have hgk := gateB_kind hg
  obtain ⟨k, xa, xb⟩ := g
  unfold gv movedL
  simp only at *
  clear hg
  rcases hgk with ⟨rfl, ha0, ha1, rfl⟩ | ⟨rfl, ⟨ha0, ha1⟩, rfl⟩ | ⟨hk, ⟨ha0, ha1⟩, ⟨hb0, hb1⟩⟩
  · rw [if_neg (by decide), if_neg (by decide)]
    obtain ⟨pa, pc, rfl⟩ := h.shape
    go_enter Try.func90, Try.ntmps90
    go_wp2_with fail
    exact bodyPost_ret (results_cell_row rfl _ _ (w.heap.size + 1) 108 _ (0, 0) _ rfl (heap2 _ _ _) Try.underlying108 rfl (by kernel_rfl)) rfl ⟨rfl, below2 _ _ _⟩
  · rw [if_neg (by decide), if_pos rfl]
    obtain ⟨vg, voff, vcp, rfl, hvl, hcell⟩ := h.at ha0 (Int.lt_of_lt_of_le ha1 hown)
    obtain ⟨A, rfl⟩ := Int.eq_ofNat_of_zero_le ha0
    rw [Int.toNat_natCast] at hcell
    generalize atI p A = na at *
    have hA : (A : Int) < p.length := by omega
    clear h
    generalize p.length = pn at *
    go_enter Try.func90, Try.ntmps90
    go_wp2_with fail
    exact bodyPost_ret (results_cell_row rfl _ _ (w.heap.size + 1) 108 _ (0, 0) _ rfl (heap2 _ _ _) Try.underlying108 rfl (by kernel_rfl)) rfl ⟨rfl, below2 _ _ _⟩
  · rw [if_pos hk]
    obtain ⟨vg, voff, vcp, rfl, hvl, hcell⟩ := h.at ha0 (Int.lt_of_lt_of_le ha1 hown)
    obtain ⟨vg', voff', vcp', hv', hvl', hcell'⟩ := h.at hb0 (Int.lt_of_lt_of_le hb1 hown)
    injection hv' with e1 e2 e3
    injection e1 with e1
    injection e1 with e1 e4
    subst e1 e3 e4
    obtain ⟨A, rfl⟩ := Int.eq_ofNat_of_zero_le ha0
    obtain ⟨Bw, rfl⟩ := Int.eq_ofNat_of_zero_le hb0
    rw [Int.toNat_natCast] at hcell hcell'
    generalize atI p A = na at *
    generalize atI p Bw = nb at *
    have hA : (A : Int) < p.length := by omega
    have hB : (Bw : Int) < p.length := by omega
    clear h
    generalize p.length = pn at *
    rcases hk with rfl | rfl | rfl
    all_goals
      go_enter Try.func90, Try.ntmps90
      go_wp2_with fail
      exact bodyPost_ret (results_cell_row rfl _ _ (w.heap.size + 1) 108 _ (0, 0) _ rfl (heap2 _ _ _) Try.underlying108 rfl (by kernel_rfl)) rfl ⟨rfl, below2 _ _ _⟩
end Go.Proofs.Ytmjeaceabjinfaa
