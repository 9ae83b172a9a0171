/-
  What the laws of terms draw out of bytes.
-/
import Derived.Test.YtjbfembblgkakaaDoorDrawC
namespace Go.Proofs.YtjbfembblgkakaaDoor
open Go Go.RowKit
open M
set_option linter.unusedVariables false

/-- a drawn list of nodes, its memory new -/
def NodesD (w w' : World) (v : Value) (t : List Nd) : Prop := OwnNodes w' w.heap.size v t ∧ (∀ x ∈ t, NdOk x) ∧ t.length ≤ 31
theorem NodesD.below {w w' w2 : World} {v : Value} {t : List Nd} (h : NodesD w w' v t) (hb : Below w'.heap.size w' w2) : NodesD w w2 v t := ⟨owns_below h.1 hb, h.2⟩
theorem NodesD.at {w w' : World} {v : Value} {t : List Nd} (h : NodesD w w' v t) : NodesAt w' v t := nodes_of_own h.2.1 (by have := h.2.2; omega) h.1
theorem TermD.out {B m : Nat} {sv : Value} {w w0 w' : World} {k : Nat} {vars : Int} {v : Value} {t : List Nd} (h : TermD B w.heap.size m sv w0 w' k vars v t) (h0 : Below w.heap.size w w0) : NodesD w w' v t ∧ Below w.heap.size w w' := by
  obtain ⟨_, _, _, _, h1, h2, h3, h4, _⟩ := h
  exact ⟨⟨OwnNodes.low h1 h0.size, h2, h3⟩, h0.trans (h4.below (Nat.le_refl _) h0.size)⟩
set_option maxRecDepth 100000 in
theorem drawTerm_any (sv : Value) (w : World) (h : CodeOk w.heap.size w sv) :
    Calls Tryd.prog 90 #[sv] w fun e w' => ∃ (k : Nat) (vars : Int) (v : Value) (t : List Nd), e = .returned (.tuple #[.int .i64 (k : Int), .int .i64 vars, v]) ∧ (1 ≤ k ∧ k ≤ 64) ∧ (0 ≤ vars ∧ vars ≤ 5) ∧ NodesD w w' v t ∧ Below w.heap.size w w' := by
  have hc := cur_new w sv h
  have g := term_any _ _ _ sv _ hc (by omega)
  have HB0 : Hid (Below w.heap.size w (w.alloc (.cells #[sv, .int .i64 0, .int .u64 0] 98))) := (Below.refl _ _).alloc (Nat.le_refl _) _
  obtain ⟨sa, sl, sc, rfl⟩ : ∃ sa sl sc, sv = .slice sa sl sc := by
    rcases h with ⟨a, cap, rfl⟩ | ⟨cb, off, len, cap, rfl, _⟩
    · exact ⟨_, _, _, rfl⟩
    · exact ⟨_, _, _, rfl⟩
  clear h hc
  go_enter Tryd.func90, Tryd.ntmps90
  go_wp2_with fail
  refine g.mono ?_
  rintro e w1 ⟨k, vars, v, t, rfl, hd⟩
  have HD : Hid _ := hd
  clear g hd
  go_wp2_with fail
  go_ret3
  obtain ⟨h1, h2⟩ := TermD.out HD.out HB0.out
  exact ⟨k, vars, v, t, rfl, ⟨HD.out.1, HD.out.2.1⟩, ⟨HD.out.2.2.1, HD.out.2.2.2.1⟩, h1, h2⟩
set_option maxRecDepth 100000 in
theorem drawVarsIn_any (sv : Value) (w : World) (h : CodeOk w.heap.size w sv) :
    Calls Tryd.prog 28 #[sv] w fun e w' => ∃ (k : Nat) (vars : Int) (v : Value) (t : List Nd), e = .returned (.tuple #[.int .i64 (k : Int), .int .i64 vars, v]) ∧ (1 ≤ k ∧ k ≤ 64) ∧ (0 ≤ vars ∧ vars ≤ 5) ∧ NodesD w w' v t ∧ Below w.heap.size w w' := by
  have g := drawTerm_any sv w h
  obtain ⟨sa, sl, sc, rfl⟩ : ∃ sa sl sc, sv = .slice sa sl sc := by
    rcases h with ⟨a, cap, rfl⟩ | ⟨cb, off, len, cap, rfl, _⟩
    · exact ⟨_, _, _, rfl⟩
    · exact ⟨_, _, _, rfl⟩
  clear h
  go_enter Tryd.func28, Tryd.ntmps28
  go_wp2_with fail
  refine g.mono ?_
  rintro e w1 ⟨k, vars, v, t, rfl, hd⟩
  have HD : Hid _ := hd
  clear g hd
  go_wp2_with fail
  go_ret3
  exact ⟨k, vars, v, t, rfl, HD.out⟩
set_option maxRecDepth 100000 in
set_option maxHeartbeats 1000000 in
theorem drawValueOf_any (sv : Value) (w : World) (h : CodeOk w.heap.size w sv) :
    Calls Tryd.prog 19 #[sv] w fun e w' => ∃ (k : Nat) (v : Value) (t : List Nd) (sv' : Value) (st : List Int), e = .returned (.tuple #[.int .i64 (k : Int), v, sv']) ∧ (1 ≤ k ∧ k ≤ 64) ∧ st.length ≤ 5 ∧ NodesD w w' v t ∧ StateD w w' sv' st ∧ Below w.heap.size w w' := by
  have hc := cur_new w sv h
  have g := term_any _ _ _ sv _ hc (by omega)
  have HB0 : Hid (Below w.heap.size w (w.alloc (.cells #[sv, .int .i64 0, .int .u64 0] 98))) := (Below.refl _ _).alloc (Nat.le_refl _) _
  obtain ⟨sa, sl, sc, rfl⟩ : ∃ sa sl sc, sv = .slice sa sl sc := by
    rcases h with ⟨a, cap, rfl⟩ | ⟨cb, off, len, cap, rfl, _⟩
    · exact ⟨_, _, _, rfl⟩
    · exact ⟨_, _, _, rfl⟩
  clear h hc
  go_enter Tryd.func19, Tryd.ntmps19
  go_wp2_with fail
  refine g.mono ?_
  rintro e w1 ⟨k, vars, v, t, rfl, hd⟩
  have HD : Hid (TermD _ _ _ _ _ w1 k vars v t) := hd
  obtain ⟨n, hn⟩ := Int.eq_ofNat_of_zero_le hd.2.2.1
  have hn5 : n ≤ 5 := by have := hd.2.2.2.1; omega
  have g2 := state_any _ _ _ _ k n (by have := hd.2.1; omega) hn5 w1 hd.2.2.2.2.2.2.2.2 (by omega)
  subst hn
  clear g hd
  go_wp2_with fail
  refine g2.mono ?_
  rintro e w2 ⟨v2, st, rfl, hsl, hs2, ho2, hc2⟩
  have HR : Hid ((1 ≤ k ∧ k ≤ 64) ∧ st.length ≤ 5 ∧ NodesD w w2 v t ∧ StateD w w2 v2 st ∧ Below w.heap.size w w2) := by
    obtain ⟨h1, h2⟩ := TermD.out HD.out HB0.out
    have hlow : w.heap.size ≤ w1.heap.size := h2.size
    have hlt : w.heap.size < w1.heap.size := HD.out.2.2.2.2.2.2.2.2.lies
    refine ⟨⟨HD.out.1, HD.out.2.1⟩, by omega, ⟨?_, h1.2⟩, ⟨?_, hs2.2⟩, h2.trans (ho2.below (Nat.le_refl _) hlow)⟩
    · have hz : w.heap.size < w.heap.size + 1 := by omega
      have own0 : OwnNodes w1 (w.heap.size + 1) v t := by
        have h9 := HD.out.2.2.2.2.1
        rw [show (w.alloc (.cells #[.slice sa sl sc, .int .i64 0, .int .u64 0] 98)).heap.size = w.heap.size + 1 from by simp] at h9
        exact h9
      exact OwnNodes.low (own_keeps own0 hz ho2) (by omega)
    · obtain ⟨q1, q2⟩ := hs2.1
      refine ⟨q1, ?_⟩
      rcases q2 with q2 | ⟨g, cap, cur, hv, hg, r⟩
      · exact Or.inl q2
      · exact Or.inr ⟨g, cap, cur, hv, Nat.le_trans hlow hg, r⟩
  clear g2 hs2 ho2 hc2 HD
  go_wp2_with fail
  go_ret3
  exact ⟨k, v, t, v2, st, rfl, HR.out⟩
end Go.Proofs.YtjbfembblgkakaaDoor
