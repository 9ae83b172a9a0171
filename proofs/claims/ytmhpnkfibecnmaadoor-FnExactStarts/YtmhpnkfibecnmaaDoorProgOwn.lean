/-
  Changes, commands and programs that a call owns, between two blocks.
-/
import Derived.Test.YtmhpnkfibecnmaaDoorPairs
import Derived.Test.YtmhpnkfibecnmaaDoorOwn2
namespace Go.Proofs.YtmhpnkfibecnmaaDoor
open Go Go.RowKit
open M
set_option linter.unusedVariables false
set_option linter.unusedSimpArgs false

def flatP : List (Value × Value) → List Value
  | [] => []
  | p :: r => p.1 :: p.2 :: flatP r
theorem flatP_len : ∀ ps : List (Value × Value), (flatP ps).length = ps.length * 2
  | [] => rfl
  | p :: r => by
    simp only [flatP, List.length_cons, flatP_len r]
    omega
theorem flatP_append : ∀ s t : List (Value × Value), flatP (s ++ t) = flatP s ++ flatP t
  | [], t => rfl
  | p :: s, t => by simp [flatP, flatP_append s t]
theorem flatP_at : ∀ (t : List (Value × Value)) (i : Nat) (p : Value × Value), t[i]? = some p → (flatP t)[i * 2]? = some p.1 ∧ (flatP t)[i * 2 + 1]? = some p.2
  | [], i, p, h => by simp at h
  | q :: t, 0, p, h => by
    simp at h
    subst h
    simp [flatP]
  | q :: t, i + 1, p, h => by
    have ih := flatP_at t i p (by simpa using h)
    rw [show (i + 1) * 2 = i * 2 + 1 + 1 from by omega]
    simpa [flatP] using ih
theorem flatP_set : ∀ (t : List (Value × Value)) (i : Nat) (p : Value × Value), ((flatP t).set (i * 2) p.1).set (i * 2 + 1) p.2 = flatP (t.set i p)
  | [], i, p => by simp [flatP]
  | q :: t, 0, p => by simp [flatP]
  | q :: t, i + 1, p => by
    have ih := flatP_set t i p
    rw [show (i + 1) * 2 = i * 2 + 1 + 1 from by omega]
    simpa [flatP] using ih
theorem made_zero2 (z0 z1 : Value) : ∀ n : Nat, (madeCells #[z0, z1] (n * 2)).toList = flatP (List.replicate n (z0, z1))
  | 0 => by simp [madeCells, flatP]
  | n + 1 => by
    have ih := made_zero2 z0 z1 n
    unfold madeCells at *
    rw [Array.toList_map, Array.toList_range] at *
    rw [show (n + 1) * 2 = n * 2 + 1 + 1 from by omega, List.range_succ, List.range_succ, List.map_append, List.map_append, ih, List.replicate_succ', flatP_append, List.append_assoc]
    congr 1
    have e0 : n * 2 % 2 = 0 := by omega
    have e1 : (n * 2 + 1) % 2 = 1 := by omega
    simp [flatP, e0, e1]
theorem set_zeroP (ps : List (Value × Value)) (n : Nat) (z p : Value × Value) (h : ps.length < n) : (ps ++ List.replicate (n - ps.length) z).set ps.length p = (ps ++ [p]) ++ List.replicate (n - (ps.length + 1)) z := by
  obtain ⟨m, hm⟩ : ∃ m, n - ps.length = m + 1 := ⟨n - ps.length - 1, by omega⟩
  rw [hm, List.replicate_succ, List.set_append_right _ _ (Nat.le_refl _), Nat.sub_self, List.append_assoc, show n - (ps.length + 1) = m from by omega]
  rfl
/-- a row of pairs that a call owns -/
def OwnPs {α : Type} (T : TypeId) (V : World → Nat → Nat → α → Value → Value → Prop) (w : World) (lo hi : Nat) (v : Value) (cs : List α) : Prop :=
  ∃ ps : List (Value × Value), ps.length = cs.length ∧ RowIn w lo hi T 2 v cs.length (flatP ps) ∧ ∀ (i : Nat) (c : α) (p : Value × Value), cs[i]? = some c → ps[i]? = some p → V w lo hi c p.1 p.2
def FrameO {α : Type} (V : World → Nat → Nat → α → Value → Value → Prop) : Prop := ∀ (w w' : World) (lo hi lo' hi' : Nat) (c : α) (x y : Value), V w lo hi c x y → w.heap.size ≤ w'.heap.size → (∀ i, lo ≤ i → i < hi → w'.heap[i]? = w.heap[i]?) → lo' ≤ lo → hi ≤ hi' → hi' ≤ w'.heap.size → V w' lo' hi' c x y
theorem OwnPs.frame {α : Type} {T : TypeId} {V : World → Nat → Nat → α → Value → Value → Prop} (hV : FrameO V) {w w' : World} {lo hi lo' hi' : Nat} {v : Value} {cs : List α} (h : OwnPs T V w lo hi v cs) (hs : w.heap.size ≤ w'.heap.size) (hb : ∀ i, lo ≤ i → i < hi → w'.heap[i]? = w.heap[i]?) (h1 : lo' ≤ lo) (h2 : hi ≤ hi') (h3 : hi' ≤ w'.heap.size) : OwnPs T V w' lo' hi' v cs := by
  obtain ⟨ps, hl, hr, hp⟩ := h
  exact ⟨ps, hl, (hr.same hs hb).weak h1 h2 h3, fun i c p hc hq => hV _ _ _ _ _ _ _ _ _ (hp i c p hc hq) hs hb h1 h2 h3⟩
theorem OwnPs.shape {α : Type} {T : TypeId} {V : World → Nat → Nat → α → Value → Value → Prop} {w : World} {lo hi : Nat} {v : Value} {cs : List α} (h : OwnPs T V w lo hi v cs) : ∃ a cap, v = .slice a cs.length cap := by
  obtain ⟨ps, hl, hr, hp⟩ := h
  exact own_shape hr.1
theorem OwnPs.hi {α : Type} {T : TypeId} {V : World → Nat → Nat → α → Value → Value → Prop} {w : World} {lo hi : Nat} {v : Value} {cs : List α} (h : OwnPs T V w lo hi v cs) : hi ≤ w.heap.size := by
  obtain ⟨ps, hl, hr, hp⟩ := h
  exact hr.2.2
theorem OwnPs.reads {α : Type} {T : TypeId} {VO : World → Nat → Nat → α → Value → Value → Prop} {V : World → α → Value → Value → Prop} {w : World} {lo hi : Nat} {v : Value} {cs : List α} (h : OwnPs T VO w lo hi v cs) (hl : cs.length ≤ 1048576) (hV : ∀ c ∈ cs, ∀ x y, VO w lo hi c x y → V w c x y) : PairsAt V w v cs := by
  obtain ⟨ps, hpl, ⟨hr, _, _⟩, hp⟩ := h
  refine ⟨by omega, ?_⟩
  have hr' := hr
  rcases hr.2 with ⟨h1, h2⟩ | ⟨g, cap, cur, rfl, hg, hh, _⟩
  · exact Or.inl ⟨List.length_eq_zero_iff.1 h2, none, 0, h1⟩
  · refine Or.inr ⟨g, 0, cap, rfl, (Array.getElem?_eq_some_iff.1 hh).1, fun i c hi => ?_⟩
    have hic := (List.getElem?_eq_some_iff.1 hi).1
    obtain ⟨p, hq⟩ : ∃ p, ps[i]? = some p := ⟨ps[i]'(by omega), List.getElem?_eq_getElem (by omega)⟩
    obtain ⟨f0, f1⟩ := flatP_at ps i p hq
    refine ⟨p.1, p.2, ?_, ?_, hV c (List.mem_of_getElem? hi) _ _ (hp i c p hi hq)⟩
    · have := hr'.cellAt (i * 2) (by omega)
      rw [Nat.zero_add, this]
      exact f0
    · have := hr'.cellAt (i * 2 + 1) (by omega)
      rw [Nat.zero_add, this]
      exact f1
def OwnChV (w : World) (lo hi : Nat) (c : Ch) (x y : Value) : Prop := x = .int .i64 c.1 ∧ OwnNS w lo hi y c.2
def OwnCmV (w : World) (lo hi : Nat) (c : Cm) (x y : Value) : Prop := OwnNS w lo hi x c.1 ∧ OwnPs 118 OwnChV w lo hi y c.2
def OwnProg (w : World) (lo hi : Nat) (v : Value) (p : Pg) : Prop := ∃ s c, v = .agg #[.int .i64 p.1, .int .i64 p.2.1, s, c] ∧ OwnNS w lo hi s p.2.2.1 ∧ OwnPs 98 OwnCmV w lo hi c p.2.2.2
theorem ownNS_frame {w w' : World} {lo hi lo' hi' : Nat} {v : Value} {t : List Nd} (h : OwnNS w lo hi v t) (hs : w.heap.size ≤ w'.heap.size) (hb : ∀ i, lo ≤ i → i < hi → w'.heap[i]? = w.heap[i]?) (h1 : lo' ≤ lo) (h2 : hi ≤ hi') (h3 : hi' ≤ w'.heap.size) : OwnNS w' lo' hi' v t := RowIn.weak (RowIn.same h hs hb) h1 h2 h3
theorem ownChV_frame : FrameO OwnChV := fun w w' lo hi lo' hi' c x y h hs hb h1 h2 h3 => ⟨h.1, ownNS_frame h.2 hs hb h1 h2 h3⟩
theorem ownCmV_frame : FrameO OwnCmV := fun w w' lo hi lo' hi' c x y h hs hb h1 h2 h3 => ⟨ownNS_frame h.1 hs hb h1 h2 h3, h.2.frame ownChV_frame hs hb h1 h2 h3⟩
theorem OwnProg.same {w w' : World} {lo hi : Nat} {v : Value} {p : Pg} (h : OwnProg w lo hi v p) (hs : w.heap.size ≤ w'.heap.size) (hb : ∀ i, lo ≤ i → i < hi → w'.heap[i]? = w.heap[i]?) : OwnProg w' lo hi v p := by
  obtain ⟨s, c, hv, h1, h2⟩ := h
  exact ⟨s, c, hv, ownNS_frame h1 hs hb (Nat.le_refl _) (Nat.le_refl _) (Nat.le_trans h2.hi hs), h2.frame ownCmV_frame hs hb (Nat.le_refl _) (Nat.le_refl _) (Nat.le_trans h2.hi hs)⟩
theorem OwnProg.hi {w : World} {lo hi : Nat} {v : Value} {p : Pg} (h : OwnProg w lo hi v p) : hi ≤ w.heap.size := by
  obtain ⟨s, c, hv, h1, h2⟩ := h
  exact h2.hi
theorem OwnProg.shape {w : World} {lo hi : Nat} {v : Value} {p : Pg} (h : OwnProg w lo hi v p) : ∃ sa sn sc ca cn cc, v = .agg #[.int .i64 p.1, .int .i64 p.2.1, .slice sa sn sc, .slice ca cn cc] := by
  obtain ⟨s, c, hv, h1, h2⟩ := h
  obtain ⟨a, n, cap, e⟩ := h1.shape
  obtain ⟨a', cap', e'⟩ := h2.shape
  exact ⟨a, n, cap, a', _, cap', by rw [hv, e, e']⟩
def ChOk (c : Ch) : Prop := Fit c.1 ∧ NsOk c.2
def CmOk (c : Cm) : Prop := NsOk c.1 ∧ c.2.length ≤ 1048576 ∧ ∀ x ∈ c.2, ChOk x
def PgOk (p : Pg) : Prop := Fit p.1 ∧ Fit p.2.1 ∧ NsOk p.2.2.1 ∧ p.2.2.2.length ≤ 1048576 ∧ ∀ x ∈ p.2.2.2, CmOk x
theorem OwnChV.reads {w : World} {lo hi : Nat} {c : Ch} {x y : Value} (h : OwnChV w lo hi c x y) (ok : ChOk c) : ChV w c x y := ⟨ok.1, h.1, h.2.reads ok.2⟩
theorem OwnCmV.reads {w : World} {lo hi : Nat} {c : Cm} {x y : Value} (h : OwnCmV w lo hi c x y) (ok : CmOk c) : CmV w c x y := ⟨h.1.reads ok.1, h.2.reads ok.2.1 fun c hc x y hv => OwnChV.reads hv (ok.2.2 c hc)⟩
theorem OwnProg.reads {w : World} {lo hi : Nat} {v : Value} {p : Pg} (h : OwnProg w lo hi v p) (ok : PgOk p) : AtProg w v p := by
  obtain ⟨s, c, hv, h1, h2⟩ := h
  exact ⟨ok.1, ok.2.1, s, c, hv, h1.reads ok.2.2.1, h2.reads ok.2.2.2.1 fun c hc x y hv => OwnCmV.reads hv (ok.2.2.2.2 c hc)⟩
theorem OwnProg.hands {w : World} {lo hi : Nat} {v : Value} {p : Pg} (h : OwnProg w lo hi v p) (ok : PgOk p) : AtProg w v p := h.reads ok
theorem ps_nds {n : Nat} {t : List Nd} (hok : ∀ x ∈ t, NdOk x) (hn : t.length ≤ n) (hn2 : n ≤ 1048576) : NsOk t := ⟨hok, by omega⟩
theorem AtProg.ok {w : World} {v : Value} {p : Pg} (h : AtProg w v p) (hs : sPg p ≤ 1048576) : PgOk p := by
  obtain ⟨h0, h1, s, c, hv, h2, h3⟩ := h
  unfold sPg sCms at hs
  refine ⟨h0, h1, ⟨h2.1, by omega⟩, by omega, fun x hx => ?_⟩
  have hm := sumBy_mem sCm _ x hx
  have hm0 : sCm x = x.1.length + (x.2.length + sumBy sCh x.2) := rfl
  obtain ⟨a, cap, rfl, hc⟩ := h3.opened
  obtain ⟨i, hi⟩ := List.mem_iff_getElem?.1 hx
  obtain ⟨b, off, _, _, u, z, _, _, hV⟩ := hc i x hi
  refine ⟨⟨hV.1.1, by omega⟩, by omega, fun q hq => ?_⟩
  have hm2 := sumBy_mem sCh _ q hq
  have hm3 : sCh q = q.2.length := rfl
  obtain ⟨a', cap', rfl, hc'⟩ := hV.2.opened
  obtain ⟨i', hi'⟩ := List.mem_iff_getElem?.1 hq
  obtain ⟨b', off', _, _, u', z', _, _, hV'⟩ := hc' i' q hi'
  exact ⟨hV'.1, ⟨hV'.2.2.1, by omega⟩⟩
theorem same_set {w : World} {b o : Nat} {v : Value} {lo hi : Nat} (h : b < lo) : ∀ i, lo ≤ i → i < hi → (w.setCell ⟨b, o, none⟩ v).heap[i]? = w.heap[i]? := fun i h1 _ => by
  rw [Below.heap_setCell _ _ _ _ (by show i ≠ b; omega)]
theorem size_set (w : World) (p : Addr) (v : Value) : (w.setCell p v).heap.size = w.heap.size := by simp [World.setCell]
end Go.Proofs.YtmhpnkfibecnmaaDoor
