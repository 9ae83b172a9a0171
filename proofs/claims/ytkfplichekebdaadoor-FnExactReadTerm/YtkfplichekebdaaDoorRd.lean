/-
  The model's reader of terms: its fields in memory, and what each of its small methods does.
-/
import Derived.Test.YtkfplichekebdaaDoorTokS
import Derived.Test.YtkfplichekebdaaDoorLTurn
import Derived.Test.YtkfplichekebdaaDoorILay2
import Derived.Maps.AppendAt
namespace Go.Proofs.YtkfplichekebdaaDoor
open Go Go.RowKit
open M
set_option linter.unusedVariables false

/-- tokens that lie below a block -/
def ToksIn (w : World) (b : Nat) (v : Value) (l : List M.Tok) : Prop :=
  (l = [] ∧ ∃ (a : Option Addr) (cap : Nat), v = .slice a 0 cap) ∨
  ∃ g off cap : Nat, v = .slice (some ⟨g, off, none⟩) l.length cap ∧ (g < b ∧ l.length ≤ cap) ∧ ∀ (i : Nat) (x : M.Tok), l[i]? = some x → w.cell? ⟨g, off + i * 2, none⟩ = some (.int .i64 (x.1 : Int)) ∧ w.cell? ⟨g, off + i * 2 + 1, none⟩ = some (tx x.2)
/-- all but block b and the row's block is as it was; the row stays where it is, or lies in a new block -/
structure Keep (b : Nat) (w w' : World) (vo vo' : Value) : Prop where
  os : w'.os = w.os
  tape : w'.tape = w.tape
  output : w'.output = w.output
  size : w.heap.size ≤ w'.heap.size
  block : ∀ k, k < w.heap.size → k ≠ b → some k ≠ vo.ownBlock → w'.heap[k]? = w.heap[k]?
  row : vo'.ownBlock = vo.ownBlock ∨ ∃ k, vo'.ownBlock = some k ∧ w.heap.size ≤ k
theorem Keep.refl (b : Nat) (w : World) (vo : Value) : Keep b w w vo vo := ⟨rfl, rfl, rfl, Nat.le_refl _, fun _ _ _ _ => rfl, Or.inl rfl⟩
theorem Keep.apart {b : Nat} {u v : World} {x y : Value} (h : Keep b u v x y) {k : Nat} (hk : k < u.heap.size) (hx : some k ≠ x.ownBlock) : some k ≠ y.ownBlock := by
  rcases h.row with e | ⟨g, e, hg⟩
  · rw [e]; exact hx
  · rw [e]
    intro e2
    have := Option.some.inj e2
    omega
theorem Keep.trans {b : Nat} {u v w : World} {x y z : Value} (h : Keep b u v x y) (k : Keep b v w y z) : Keep b u w x z := by
  refine ⟨k.os.trans h.os, k.tape.trans h.tape, k.output.trans h.output, Nat.le_trans h.size k.size, fun i hi hb hx => (k.block i (Nat.lt_of_lt_of_le hi h.size) hb (h.apart hi hx)).trans (h.block i hi hb hx), ?_⟩
  rcases k.row with e | ⟨g, e, hg⟩
  · rw [e]; exact h.row
  · exact Or.inr ⟨g, e, Nat.le_trans h.size hg⟩
theorem Keep.below {b : Nat} {w w' : World} (vo : Value) (h : Below w.heap.size w w') : Keep b w w' vo vo :=
  ⟨h.os, h.tape, h.output, h.size, fun k hk _ _ => h.block k hk, Or.inl rfl⟩
theorem Keep.set {b : Nat} {u w : World} {x y : Value} (h : Keep b u w x y) (o : Nat) (v : Value) : Keep b u (w.setCell ⟨b, o, none⟩ v) x y :=
  h.trans ⟨rfl, rfl, rfl, by simp [World.setCell], fun k _ hk _ => Below.heap_setCell _ _ _ _ hk, Or.inl rfl⟩
theorem Keep.grown {b : Nat} {u w w' : World} {x y z : Value} (h : Keep b u w x y) (hg : w.grownBy w' y.ownBlock) (hat : z.ownBlock = y.ownBlock ∨ z.ownBlock = some w.heap.size) : Keep b u w' x z :=
  h.trans ⟨hg.os, hg.tape, hg.output, hg.size, fun k hk _ hx => hg.block k hk hx, by rcases hat with e | e; exact Or.inl e; exact Or.inr ⟨_, e, Nat.le_refl _⟩⟩
theorem ToksIn.same {b : Nat} {w w' : World} {v : Value} {l : List M.Tok} (h : ToksIn w b v l) (hk : ∀ k, k < b → w'.heap[k]? = w.heap[k]?) : ToksIn w' b v l := by
  rcases h with h | ⟨g, off, cap, hv, hg, hc⟩
  · exact Or.inl h
  · refine Or.inr ⟨g, off, cap, hv, hg, fun i x hx => ?_⟩
    have e := hk g hg.1
    rw [World.cell?_of_block (w := w) (a := ⟨g, off + i * 2, none⟩) e, World.cell?_of_block (w := w) (a := ⟨g, off + i * 2 + 1, none⟩) e]
    exact hc i x hx
theorem ToksIn.shape {w : World} {b : Nat} {v : Value} {l : List M.Tok} (h : ToksIn w b v l) : ∃ (a : Option Addr) (cap : Nat), v = .slice a l.length cap := by
  rcases h with ⟨rfl, a, cap, h⟩ | ⟨g, off, cap, h, _⟩
  · exact ⟨a, cap, h⟩
  · exact ⟨_, cap, h⟩
/-- the first token, and the rest behind it -/
theorem ToksIn.first {w : World} {b : Nat} {a : Option Addr} {n cap : Nat} {x : M.Tok} {l : List M.Tok} (h : ToksIn w b (.slice a n cap) (x :: l)) :
    ∃ g off : Nat, a = some ⟨g, off, none⟩ ∧ g < b ∧ w.cell? ⟨g, off, none⟩ = some (.int .i64 (x.1 : Int)) ∧ w.cell? ⟨g, off + 1, none⟩ = some (tx x.2) ∧ (∀ cap', l.length ≤ cap' → ToksIn w b (.slice (some ⟨g, off + 2, none⟩) l.length cap') l) ∧ l.length + 1 ≤ cap := by
  rcases h with ⟨h, _⟩ | ⟨g, off, cap0, hv, hg, hc⟩
  · cases h
  · simp only [Value.slice.injEq] at hv
    obtain ⟨rfl, rfl, rfl⟩ := hv
    obtain ⟨h0, h1⟩ := hc 0 x rfl
    refine ⟨g, off, rfl, hg.1, by simpa using h0, by simpa using h1, fun cap' hcap => Or.inr ⟨g, off + 2, cap', rfl, ⟨hg.1, hcap⟩, fun i y hy => ?_⟩, by have := hg.2; simpa using this⟩
    have h2 := hc (i + 1) y (by simpa using hy)
    rw [show off + (i + 1) * 2 = off + 2 + i * 2 from by omega] at h2
    exact h2
/-- the tokens behind the first, as the program cuts them -/
theorem ToksIn.cut {w : World} {b g off cap : Nat} {l : List M.Tok} (htl : ∀ cap', l.length ≤ cap' → ToksIn w b (.slice (some ⟨g, off + 2, none⟩) l.length cap') l) (hcap : l.length + 1 ≤ cap) : (cap = 1 → ∀ a c, ToksIn w b (.slice a 0 c) l) ∧ (cap ≠ 1 → ToksIn w b (.slice (some ⟨g, off + 2, none⟩) l.length (cap - 1)) l) := by
  refine ⟨fun h a c => ?_, fun _ => htl _ (by omega)⟩
  have hl : l = [] := List.length_eq_zero_iff.1 (by omega)
  subst hl
  exact Or.inl ⟨rfl, a, c, rfl⟩
abbrev rdCells (wide vars : Int) (vt : Value) (long : Nat) (vo : Value) (code at_ : Int) : Array Value := #[.int .i64 wide, .int .i64 vars, vt, .int .i64 (long : Int), vo, .int .i64 code, .int .i64 at_]
/-- the reader -/
structure RdAt (w : World) (b Bo : Nat) (wide vars : Int) (long : Nat) (vt vo : Value) (l : List M.Tok) (o : List Nd) (code at_ : Int) : Prop where
  heap : w.heap[b]? = some (.cells (rdCells wide vars vt long vo code at_) 72 (0, 0))
  toks : ToksIn w b vt l
  own : OwnNodes w Bo vo o
  low : b < Bo
  bound : Bo ≤ w.heap.size
  many : l.length ≤ 1000
  some : o.length ≤ 1000
theorem RdAt.cell {w : World} {b Bo : Nat} {wide vars : Int} {long : Nat} {vt vo : Value} {l : List M.Tok} {o : List Nd} {code at_ : Int} (h : RdAt w b Bo wide vars long vt vo l o code at_) :
    w.cell? ⟨b, 0, none⟩ = Option.some (.int .i64 wide) ∧ w.cell? ⟨b, 1, none⟩ = Option.some (.int .i64 vars) ∧ w.cell? ⟨b, 2, none⟩ = Option.some vt ∧ w.cell? ⟨b, 3, none⟩ = Option.some (.int .i64 (long : Int)) ∧ w.cell? ⟨b, 4, none⟩ = Option.some vo ∧ w.cell? ⟨b, 5, none⟩ = Option.some (.int .i64 code) ∧ w.cell? ⟨b, 6, none⟩ = Option.some (.int .i64 at_) := by
  refine ⟨?_, ?_, ?_, ?_, ?_, ?_, ?_⟩ <;> (rw [cell_heap h.heap]; rfl)
/-- the reader in a later world in which its block is as it was -/
theorem RdAt.later {w w' : World} {b Bo : Nat} {wide vars : Int} {long : Nat} {vt vo : Value} {l : List M.Tok} {o : List Nd} {code at_ : Int} (h : RdAt w b Bo wide vars long vt vo l o code at_) (hb : Below w.heap.size w w') : RdAt w' b Bo wide vars long vt vo l o code at_ := by
  have hlt : b < w.heap.size := Nat.lt_of_lt_of_le h.low h.bound
  exact ⟨by rw [hb.block b hlt]; exact h.heap, h.toks.same (fun k hk => hb.block k (Nat.lt_trans hk hlt)), owns_below h.own hb, h.low, Nat.le_trans h.bound hb.size, h.many, h.some⟩
theorem own_same {w w' : World} {Bo : Nat} {e : TypeId} {sz : Nat} {v : Value} {n : Nat} {xs : List Value} (h : w.ownsRow Bo e sz v n xs) (hk : ∀ k, Bo ≤ k → w'.heap[k]? = w.heap[k]?) : w'.ownsRow Bo e sz v n xs := by
  obtain ⟨h1, h2⟩ := h
  refine ⟨h1, ?_⟩
  rcases h2 with h2 | ⟨g, cap, cur, hv, hg, hh, r⟩
  · exact Or.inl h2
  · exact Or.inr ⟨g, cap, cur, hv, hg, by rw [hk g hg]; exact hh, r⟩
/-- the reader's own block is written -/
theorem RdAt.set {w w' : World} {b Bo : Nat} {wide vars : Int} {long : Nat} {vt vt' vo : Value} {l l' : List M.Tok} {o : List Nd} {code at_ code' at' : Int} (h : RdAt w b Bo wide vars long vt vo l o code at_)
    (hh : w'.heap[b]? = Option.some (.cells (rdCells wide vars vt' long vo code' at') 72 (0, 0))) (ho : ∀ k, k ≠ b → w'.heap[k]? = w.heap[k]?) (hs : w'.heap.size = w.heap.size) (ht : ToksIn w b vt' l') (hl : l'.length ≤ 1000) :
    RdAt w' b Bo wide vars long vt' vo l' o code' at' := by
  have hlow := h.low
  refine ⟨hh, ?_, own_same h.own (fun k hk => ho k (by omega)), h.low, by rw [hs]; exact h.bound, hl, h.some⟩
  rcases ht with ht | ⟨g, off, cap, hv, hg, hc⟩
  · exact Or.inl ht
  · refine Or.inr ⟨g, off, cap, hv, hg, fun i x hx => ?_⟩
    have e := ho g (by have := hg.1; omega)
    rw [World.cell?_of_block (w := w) (a := ⟨g, off + i * 2, none⟩) e, World.cell?_of_block (w := w) (a := ⟨g, off + i * 2 + 1, none⟩) e]
    exact hc i x hx
theorem set_size (w : World) (a : Addr) (v : Value) : (w.setCell a v).heap.size = w.heap.size := by simp [World.setCell]
theorem RdAt.faulted {w : World} {b Bo : Nat} {wide vars : Int} {long : Nat} {vt vo : Value} {l : List M.Tok} {o : List Nd} {code at_ : Int} (h : RdAt w b Bo wide vars long vt vo l o code at_) (c p : Int) :
    RdAt ((w.setCell ⟨b, 5, none⟩ (.int .i64 c)).setCell ⟨b, 6, none⟩ (.int .i64 p)) b Bo wide vars long vt vo l o c p :=
  h.set (by rw [heap_set (heap_set h.heap)]; rfl) (fun k hk => by rw [Below.heap_setCell _ _ _ _ hk, Below.heap_setCell _ _ _ _ hk]) (by rw [set_size, set_size]) h.toks h.many
theorem RdAt.faulted2 {w : World} {b Bo : Nat} {wide vars : Int} {long : Nat} {vt vo : Value} {l : List M.Tok} {o : List Nd} {code at_ : Int} (h : RdAt w b Bo wide vars long vt vo l o code at_) (c q p : Int) :
    RdAt (((w.setCell ⟨b, 5, none⟩ (.int .i64 c)).setCell ⟨b, 6, none⟩ (.int .i64 q)).setCell ⟨b, 6, none⟩ (.int .i64 p)) b Bo wide vars long vt vo l o c p :=
  h.set (by rw [heap_set (heap_set (heap_set h.heap))]; rfl) (fun k hk => by rw [Below.heap_setCell _ _ _ _ hk, Below.heap_setCell _ _ _ _ hk, Below.heap_setCell _ _ _ _ hk]) (by rw [set_size, set_size, set_size]) h.toks h.many
theorem RdAt.moved {w : World} {b Bo : Nat} {wide vars : Int} {long : Nat} {vt vt' vo : Value} {l l' : List M.Tok} {o : List Nd} {code at_ : Int} (h : RdAt w b Bo wide vars long vt vo l o code at_) (ht : ToksIn w b vt' l') (hl : l'.length ≤ 1000) :
    RdAt (w.setCell ⟨b, 2, none⟩ vt') b Bo wide vars long vt' vo l' o code at_ :=
  h.set (by rw [heap_set h.heap]; rfl) (fun k hk => by rw [Below.heap_setCell _ _ _ _ hk]) (by rw [set_size]) ht hl
/-- what a method of the reader leaves behind -/
def RdTo (w w' : World) (b Bo : Nat) (vo : Value) (wide vars : Int) (long : Nat) (l : List M.Tok) (o : List Nd) (code at_ : Int) : Prop := ∃ vt' vo', RdAt w' b Bo wide vars long vt' vo' l o code at_ ∧ Keep b w w' vo vo'
set_option maxRecDepth 100000 in
set_option maxHeartbeats 1000000 in
theorem fault_any {w : World} {b Bo : Nat} {wide vars : Int} {long : Nat} {vt vo : Value} {l : List M.Tok} {o : List Nd} {code at_ : Int} (h : RdAt w b Bo wide vars long vt vo l o code at_) (c : Int) :
    Calls Tryd.prog 46 #[ptr b, .int .i64 c] w fun e w' => e = .returned (.int .i64 0) ∧ RdTo w w' b Bo vo wide vars long l o c (placeOf long l : Int) := by
  obtain ⟨c0, c1, c2, c3, c4, c5, c6⟩ := h.cell
  obtain ⟨ta, tc, hsh⟩ := h.toks.shape
  subst hsh
  have f5 := frozen_heap (o := 5) h.heap
  have f6 := frozen_heap (o := 6) h.heap
  match l, h with
  | [], h =>
    have HF : Hid _ := h.faulted c (long : Int)
    have HK : Hid (Keep b w ((w.setCell ⟨b, 5, none⟩ (.int .i64 c)).setCell ⟨b, 6, none⟩ (.int .i64 (long : Int))) vo vo) := ((Keep.refl b w vo).set 5 _).set 6 _
    clear h
    go_enter Tryd.func46, Tryd.ntmps46
    go_wp2_with fail
    go_ret
    exact ⟨rfl, _, _, HF.out, HK.out⟩
  | x :: l, h =>
    obtain ⟨g, off, rfl, hg, t0, t1, _, _⟩ := h.toks.first
    have hlt := h.low
    have hne : g ≠ b := by omega
    have s0 : ((w.setCell ⟨b, 5, none⟩ (.int .i64 c)).setCell ⟨b, 6, none⟩ (.int .i64 (long : Int))).cell? ⟨g, off, none⟩ = some (.int .i64 (x.1 : Int)) := by
      rw [cell_otherBlock (fun e => hne e.symm), cell_otherBlock (fun e => hne e.symm)]
      exact t0
    have HF : Hid _ := h.faulted2 c (long : Int) (x.1 : Int)
    have HK : Hid (Keep b w (((w.setCell ⟨b, 5, none⟩ (.int .i64 c)).setCell ⟨b, 6, none⟩ (.int .i64 (long : Int))).setCell ⟨b, 6, none⟩ (.int .i64 (x.1 : Int))) vo vo) := (((Keep.refl b w vo).set 5 _).set 6 _).set 6 _
    have hlen : (0 : Int) < ((x :: l).length : Int) := by simp
    have hmany := h.many
    clear h
    generalize (x :: l).length = n at *
    go_enter Tryd.func46, Tryd.ntmps46
    go_wp2_with fail
    go_ret
    exact ⟨rfl, _, _, HF.out, HK.out⟩
set_option maxRecDepth 100000 in
set_option maxHeartbeats 1000000 in
theorem take_yes {w : World} {b Bo : Nat} {wide vars : Int} {long : Nat} {vt vo : Value} {p : Nat} {s : Tx} {l : List M.Tok} {o : List Nd} {code at_ : Int} (h : RdAt w b Bo wide vars long vt vo ((p, s) :: l) o code at_) :
    Calls Tryd.prog 74 #[ptr b, tx s] w fun e w' => e = .returned (.bool true) ∧ RdTo w w' b Bo vo wide vars long l o code at_ := by
  obtain ⟨c0, c1, c2, c3, c4, c5, c6⟩ := h.cell
  obtain ⟨ta, tc, hsh⟩ := h.toks.shape
  subst hsh
  have f2 := frozen_heap (o := 2) h.heap
  obtain ⟨g, off, rfl, hg, t0, t1, htl, hcap⟩ := h.toks.first
  have hmany := h.many
  obtain ⟨hc1, hc2⟩ := ToksIn.cut htl hcap
  have hlen : (0 : Int) < (((p, s) :: l).length : Int) := by simp
  have HM : Hid (∀ vt', ToksIn w b vt' l → RdAt (w.setCell ⟨b, 2, none⟩ vt') b Bo wide vars long vt' vo l o code at_) := fun vt' ht => h.moved ht (by simp at hmany; omega)
  have HK : Hid (∀ v, Keep b w (w.setCell ⟨b, 2, none⟩ v) vo vo) := fun v => (Keep.refl b w vo).set 2 _
  have H1 : Hid _ := hc1
  have H2 : Hid _ := hc2
  rw [show ((p, s) :: l).length = l.length + 1 from rfl] at *
  clear h htl hc1 hc2
  by_cases ht1 : tc = 1
  · subst ht1
    go_enter Tryd.func74, Tryd.ntmps74
    go_wp2_with fail
    go_ret
    exact ⟨rfl, _, _, HM.out _ (H1.out (by first | rfl | trivial) _ _), HK.out _⟩
  · go_enter Tryd.func74, Tryd.ntmps74
    go_wp2_with fail
    go_ret
    exact ⟨rfl, _, _, HM.out _ (H2.out ht1), HK.out _⟩
set_option maxRecDepth 100000 in
set_option maxHeartbeats 1000000 in
theorem take_no {w : World} {b Bo : Nat} {wide vars : Int} {long : Nat} {vt vo : Value} {s : Tx} {l : List M.Tok} {o : List Nd} {code at_ : Int} (h : RdAt w b Bo wide vars long vt vo l o code at_) (hne : ∀ x r, l = x :: r → x.2 ≠ s) :
    Calls Tryd.prog 74 #[ptr b, tx s] w fun e w' => e = .returned (.bool false) ∧ RdTo w w' b Bo vo wide vars long l o 3 (placeOf long l : Int) := by
  have gf := fault_any h 3
  obtain ⟨c0, c1, c2, c3, c4, c5, c6⟩ := h.cell
  obtain ⟨ta, tc, hsh⟩ := h.toks.shape
  subst hsh
  have hmany := h.many
  match l, h, hne with
  | [], h, _ =>
    clear h
    go_enter Tryd.func74, Tryd.ntmps74
    go_wp2_with fail
    refine gf.mono ?_
    rintro e w1 ⟨rfl, hrd⟩
    have HRD : Hid (RdTo w w1 b Bo vo wide vars long _ o 3 _) := hrd
    clear gf hrd
    go_wp2_with fail
    go_ret
    exact ⟨rfl, HRD.out⟩
  | x :: l, h, hne =>
    obtain ⟨g, off, rfl, hg, t0, t1, _, _⟩ := h.toks.first
    have hq : (x.2 == s) = false := beq_eq_false_iff_ne.2 (hne x l rfl)
    have hlen : (0 : Int) < ((x :: l).length : Int) := by simp
    clear h hne
    rw [show (x :: l).length = l.length + 1 from rfl] at *
    generalize x.2 = xt at *
    go_enter Tryd.func74, Tryd.ntmps74
    go_wp2_with fail
    refine gf.mono ?_
    rintro e w1 ⟨rfl, hrd⟩
    have HRD : Hid (RdTo w w1 b Bo vo wide vars long _ o 3 _) := hrd
    clear gf hrd
    go_wp2_with fail
    go_ret
    exact ⟨rfl, HRD.out⟩
set_option maxRecDepth 100000 in
set_option maxHeartbeats 1000000 in
theorem put_any {w : World} {b Bo : Nat} {wide vars : Int} {long : Nat} {vt vo : Value} {l : List M.Tok} {o : List Nd} {code at_ : Int} (h : RdAt w b Bo wide vars long vt vo l o code at_) (op n : Int) (hol : o.length < 1000) :
    Calls Tryd.prog 94 #[ptr b, .int .i64 op, .int .u64 n] w fun e w' => e = .returned (.int .i64 (ownOf op)) ∧ RdTo w w' b Bo vo wide vars long l (o ++ [(op, n)]) code at_ := by
  obtain ⟨c0, c1, c2, c3, c4, c5, c6⟩ := h.cell
  have g := l2Need_any op w
  have HB0 : Hid (Bo ≤ w.heap.size) := h.bound
  have HT0 : Hid (ToksIn w b vt l) := h.toks
  obtain ⟨i0, hi, hz0, hz1, hz2⟩ := info_parts infoNode
  generalize manyOf op = m at *
  generalize partOf op = q at *
  generalize ownOf op = ow at *
  go_enter Tryd.func94, Tryd.ntmps94
  go_wp2_with fail
  refine g.mono ?_
  rintro e w1 ⟨rfl, rfl⟩
  clear g
  have HBA : Hid (Below w1.heap.size w1 (w1.alloc (.cells #[.int .i64 op, .int .u64 n] 62))) := (Below.refl _ _).alloc (Nat.le_refl _) _
  have h2 := h.later HBA.out
  have own2 : (w1.alloc (.cells #[.int .i64 op, .int .u64 n] 62)).ownsRow Bo 62 2 vo o.length (flat o) := h2.own
  have cellsA := one_cells2 w1 op n
  have HSB : Hid (Bo ≤ (w1.alloc (.cells #[.int .i64 op, .int .u64 n] 62)).heap.size) := h2.bound
  have HR2 : Hid (RdAt (w1.alloc (.cells #[.int .i64 op, .int .u64 n] 62)) b Bo wide vars long vt vo l o code at_) := h2
  clear h h2
  go_wp2_with (at_builtin; refine wpList_append_own_at _ rfl _ _ 37 rfl Bo 62 i0 (.agg #[.int .i64 0, .int .u64 0]) 2 16 Tryd.underlying37 hi hz0 hz1 hz2 rfl (by decide) _ _ _ rfl own2 ⟨w1.heap.size, 0, none⟩ 1 1 [.int .i64 op, .int .u64 n] rfl rfl cellsA (flat_one [(op, n)]) (by unfold maxLen; omega) (by omega) HSB.out ?_)
  intro vb wb ownb growb _ hatb
  obtain ⟨va, vc, hvb⟩ := own_shape ownb
  have hgo : ∀ k, vo.ownBlock = some k → Bo ≤ k := fun k hk => (own_block own2 hk).1
  have HR3 : Hid (w1.heap.size ≤ wb.heap.size ∧ wb.heap[b]? = some (.cells (rdCells wide vars vt long vo code at_) 72 (0, 0)) ∧ Keep b w1 wb vo vb) := by
    have hlow := HR2.out.low
    have hbd := HR2.out.bound
    have e : wb.heap[b]? = (w1.alloc (.cells #[.int .i64 op, .int .u64 n] 62)).heap[b]? := growb.block b (by omega) (fun e => by have := hgo b e.symm; omega)
    exact ⟨Nat.le_trans HBA.out.size growb.size, by rw [e]; exact HR2.out.heap, (Keep.below vo HBA.out).grown growb (by rw [show (w1.alloc (.cells #[.int .i64 op, .int .u64 n] 62)).heap.size = w1.heap.size + 1 from by simp]; exact hatb)⟩
  have d4 : wb.cell? ⟨b, 4, none⟩ = some vo := by rw [cell_heap HR3.out.2.1]; rfl
  have e4 := frozen_heap (o := 4) HR3.out.2.1
  have HF : Hid (RdTo w1 (wb.setCell ⟨b, 4, none⟩ vb) b Bo vo wide vars long l (o ++ [(op, n)]) code at_) := by
    have hlow := HR2.out.low
    refine ⟨vt, vb, ⟨?_, ?_, ?_, hlow, ?_, HR2.out.many, by simp; omega⟩, HR3.out.2.2.set 4 _⟩
    · rw [heap_set HR3.out.2.1]
      rfl
    · exact HT0.out.same (fun k hk => (HR3.out.2.2.set 4 _).block k (by have := HB0.out; omega) (by omega) (fun e => by have := hgo k e.symm; omega))
    · show (wb.setCell ⟨b, 4, none⟩ vb).ownsRow Bo 62 2 vb (o ++ [(op, n)]).length (flat (o ++ [(op, n)]))
      rw [List.length_append, List.length_singleton, flat_append]
      exact own_same ownb (fun k hk => Below.heap_setCell _ _ _ _ (fun e => by have e2 : k = b := e; omega))
    · rw [set_size]
      exact Nat.le_trans HB0.out HR3.out.1
  clear own2 ownb growb cellsA hgo hatb
  subst hvb
  go_wp2_with fail
  go_ret
  exact ⟨rfl, HF.out⟩
end Go.Proofs.YtkfplichekebdaaDoor
