/-
  Rows of numbers that lie somewhere within a block, from an offset on: the laws' marks of them.
-/
import Derived.Test.YthamdefkcjfjpaaOwn3
namespace Go.Proofs.Ythamdefkcjfjpaa
open Go Go.RowKit
open M
set_option linter.unusedVariables false

def RowFrom (w : World) (g off : Nat) (xs : List Value) : Prop := ∀ (i : Nat) (x : Value), xs[i]? = some x → w.cell? ⟨g, off + i, none⟩ = some x
/-- a row that lies within one of the blocks between two, from an offset on -/
def OffIn (w : World) (lo hi : Nat) (v : Value) (xs : List Value) : Prop :=
  hi ≤ w.heap.size ∧ ((xs = [] ∧ ∃ a cap, v = .slice a 0 cap ∧ (a = none → cap = 0) ∧ ∀ ad, a = some ad → ad.spot = none) ∨ ∃ g off cap : Nat, v = .slice (some ⟨g, off, none⟩) xs.length cap ∧ lo ≤ g ∧ g < hi ∧ RowFrom w g off xs ∧ (∀ i, w.frozen? ⟨g, i, none⟩ = false) ∧ xs.length ≤ cap)
theorem heap_cell {w w' : World} {p : Addr} (h : w'.heap[p.block]? = w.heap[p.block]?) : w'.cell? p = w.cell? p := by
  simp [World.cell?, h]
theorem heap_frozen {w w' : World} {p : Addr} (h : w'.heap[p.block]? = w.heap[p.block]?) : w'.frozen? p = w.frozen? p := by
  simp [World.frozen?, h]
theorem OffIn.hi {w : World} {lo hi : Nat} {v : Value} {xs : List Value} (h : OffIn w lo hi v xs) : hi ≤ w.heap.size := h.1
theorem OffIn.same {w w' : World} {lo hi : Nat} {v : Value} {xs : List Value} (h : OffIn w lo hi v xs) (hs : w.heap.size ≤ w'.heap.size) (hb : ∀ i, lo ≤ i → i < hi → w'.heap[i]? = w.heap[i]?) : OffIn w' lo hi v xs := by
  obtain ⟨h0, h1⟩ := h
  refine ⟨by omega, ?_⟩
  rcases h1 with h1 | ⟨g, off, cap, hv, h2, h3, hc, hf, hcp⟩
  · exact Or.inl h1
  · exact Or.inr ⟨g, off, cap, hv, h2, h3, fun i x hx => (heap_cell (hb g h2 h3)).trans (hc i x hx), fun i => (heap_frozen (hb g h2 h3)).trans (hf i), hcp⟩
/-- the block of a slice that holds something -/
def blkN : Value → Option Nat
  | .slice (some a) (_ + 1) _ => some a.block
  | _ => none
theorem OffIn.empty {w : World} {lo hi : Nat} {v : Value} {xs : List Value} (h : OffIn w lo hi v xs) (h0 : xs = []) : ∃ a cap, v = .slice a 0 cap ∧ (a = none → cap = 0) ∧ ∀ ad, a = some ad → ad.spot = none := by
  rcases h.2 with ⟨_, h1⟩ | ⟨g, off, cap, hv, _⟩
  · exact h1
  · subst h0
    exact ⟨_, cap, hv, (fun e => by cases e), fun ad e => by cases e; rfl⟩
/-- the same where all that has turned lies in another block -/
theorem OffIn.kept {w w' : World} {lo hi : Nat} {v : Value} {xs : List Value} {row : Option Nat} (h : OffIn w lo hi v xs) (hg : w.grownBy w' row) (hr : ∀ k, blkN v = some k → row ≠ some k) : OffIn w' lo hi v xs := by
  by_cases hx : xs = []
  · exact ⟨Nat.le_trans h.1 hg.size, Or.inl ⟨hx, h.empty hx⟩⟩
  obtain ⟨h0, h1⟩ := h
  refine ⟨Nat.le_trans h0 hg.size, ?_⟩
  rcases h1 with h1 | ⟨g, off, cap, hv, h2, h3, hc, hf, hcp⟩
  · exact Or.inl h1
  · obtain ⟨n, hn⟩ : ∃ n, xs.length = n + 1 := by
      cases xs with
      | nil => exact absurd rfl hx
      | cons x r => exact ⟨r.length, rfl⟩
    have hb : w'.heap[g]? = w.heap[g]? := hg.block g (by omega) (fun e => hr g (by rw [hv, hn]; rfl) e.symm)
    exact Or.inr ⟨g, off, cap, hv, h2, h3, fun i x hx => (heap_cell hb).trans (hc i x hx), fun i => (heap_frozen hb).trans (hf i), hcp⟩
theorem OffIn.weak {w : World} {lo lo' hi hi' : Nat} {v : Value} {xs : List Value} (h : OffIn w lo hi v xs) (h1 : lo' ≤ lo) (h2 : hi ≤ hi') (h3 : hi' ≤ w.heap.size) : OffIn w lo' hi' v xs := by
  obtain ⟨h0, h⟩ := h
  refine ⟨h3, ?_⟩
  rcases h with h | ⟨g, off, cap, hv, h4, h5, hc, hf, hcp⟩
  · exact Or.inl h
  · exact Or.inr ⟨g, off, cap, hv, by omega, by omega, hc, hf, hcp⟩
theorem OffIn.set {w : World} {lo hi b o : Nat} {v x : Value} {xs : List Value} (h : OffIn w lo hi v xs) (hb : b < lo ∨ hi ≤ b) : OffIn (w.setCell ⟨b, o, none⟩ x) lo hi v xs :=
  h.same (by simp [World.setCell]) (fun i h1 h2 => Below.heap_setCell _ _ _ _ (by show i ≠ b; omega))
theorem OffIn.belowR {w w' : World} {lo hi B : Nat} {v : Value} {xs : List Value} (h : OffIn w lo hi v xs) (hb : Below B w w') (hB : hi ≤ B) : OffIn w' lo hi v xs :=
  h.same hb.size (fun i h1 h2 => hb.block i (by omega))
theorem OffIn.shape {w : World} {lo hi : Nat} {v : Value} {xs : List Value} (h : OffIn w lo hi v xs) : ∃ a cap, v = .slice a xs.length cap := by
  rcases h.2 with ⟨rfl, a, cap, hv, _⟩ | ⟨g, off, cap, hv, _⟩
  · exact ⟨a, cap, hv⟩
  · exact ⟨_, cap, hv⟩
theorem OffIn.in' {w : World} {lo hi : Nat} {v : Value} {xs : List Value} (h : OffIn w lo hi v xs) : ∀ k, blkN v = some k → lo ≤ k ∧ k < hi := by
  intro k hk
  rcases h.2 with ⟨_, a, cap, hv, _⟩ | ⟨g, off, cap, hv, h1, h2, _⟩
  · rw [hv] at hk
    cases a <;> cases hk
  · rw [hv] at hk
    cases hn : xs.length with
    | zero =>
      rw [hn] at hk
      cases hk
    | succ n =>
      rw [hn] at hk
      have e : g = k := Option.some.inj hk
      omega
/-- out of a row from a block's beginning on -/
theorem offIn_of {w : World} {lo : Nat} {e : TypeId} {v : Value} {n : Nat} {xs : List Value} (h : w.ownsRow lo e 1 v n xs) : OffIn w lo w.heap.size v xs := by
  obtain ⟨hl, h2⟩ := h
  refine ⟨Nat.le_refl _, ?_⟩
  rw [Nat.mul_one] at hl
  rcases h2 with ⟨hv, hn⟩ | ⟨g, cap, cur, hv, hB, hh, h3, h4, h5, h6⟩
  · subst hn
    exact Or.inl ⟨List.length_eq_zero_iff.1 hl, none, 0, hv, fun _ => rfl, fun ad e => by cases e⟩
  · refine Or.inr ⟨g, 0, cap, by rw [hv, hl], hB, ?_, ?_, fun i => by simp [World.frozen?, hh], by omega⟩
    · by_cases hg' : g < w.heap.size
      · exact hg'
      · rw [Array.getElem?_eq_none (by omega)] at hh
        cases hh
    · intro i x hx
      rw [← h6] at hx
      have hi : i < n * 1 := by
        have := (List.getElem?_eq_some_iff.1 hx).1
        rw [List.length_take] at this
        omega
      rw [List.getElem?_take_of_lt hi] at hx
      simp [World.cell?, hh, ← hx]
theorem rowFrom_set {w : World} {g off : Nat} {xs : List Value} (h : RowFrom w g off xs) (j : Nat) (hj : j < xs.length) (y : Value) : RowFrom (w.setCell ⟨g, off + j, none⟩ y) g off (xs.set j y) := by
  intro i x hx
  by_cases e : i = j
  · subst e
    rw [List.getElem?_set_self hj] at hx
    rw [← hx]
    exact World.cell?_setCell_same _ _ _ (h i _ (List.getElem?_eq_getElem hj))
  · rw [List.getElem?_set_ne (by omega)] at hx
    exact (World.cell?_setCell_other _ _ _ _ (by intro h9; injection h9 with _ h8; omega)).trans (h i x hx)
theorem frozen_setC (w : World) (p q : Addr) (y : Value) : (w.setCell p y).frozen? q = w.frozen? q := World.frozen?_setCell _ _ _ _
theorem grownSet (w : World) (g o : Nat) (y : Value) : w.grownBy (w.setCell ⟨g, o, none⟩ y) (some g) :=
  ⟨rfl, rfl, rfl, by simp [World.setCell], fun i hi hne => Below.heap_setCell _ _ _ _ (by show i ≠ g; exact fun e => hne (by rw [e]))⟩
set_option maxRecDepth 100000 in
set_option maxHeartbeats 1000000 in
theorem markInt_off (g off cap : Nat) (xs : List Value) (n : Nat) (k : Int) (hxl : xs.length = n) (hn : n ≤ 1000000000000) (hk0 : 0 ≤ k) (hk : k ≤ 1000000000000) (w : World) (hc : RowFrom w g off xs) (hf : ∀ i, w.frozen? ⟨g, i, none⟩ = false) :
    Calls Try.prog 41 #[.slice (some ⟨g, off, none⟩) n cap, .int .i64 k] w fun e' w' => e' = .returned (.int .i64 (k + n)) ∧ RowFrom w' g off (marks k n) ∧ (∀ i, w'.frozen? ⟨g, i, none⟩ = false) ∧ w.grownBy w' (some g) := by
  go_enter Try.func41, Try.ntmps41
  go_wp2_with fail
  go_loopw [1, 5] (fun m i wr => ∃ j : Nat, j ≤ n ∧ i = .int .i64 j ∧ m = .int .i64 (k + j) ∧ Hid (RowFrom wr g off (marks k j ++ xs.drop j)) ∧ Hid (∀ i, wr.frozen? ⟨g, i, none⟩ = false) ∧ Hid (w.grownBy wr (some g))) (fun _ i _ => n - (intOf i).toNat)
  case atStart => exact ⟨0, by omega, rfl, by simp, hc, hf, grown_refl _ _⟩
  case round =>
    obtain ⟨j, hj, rfl, rfl, HO, HF, HG⟩ := hrel
    by_cases hlt : j < n
    · have hlen : (marks k j ++ xs.drop j).length = n := by rw [List.length_append, marks_len, List.length_drop]; omega
      obtain ⟨u0, hu0⟩ : ∃ u0, (marks k j ++ xs.drop j)[j]? = some u0 := ⟨_, List.getElem?_eq_getElem (by omega)⟩
      have d0 := HO.out j u0 hu0
      have f0 := HF.out (off + j)
      have HN : Hid (RowFrom (wr.setCell ⟨g, off + j, none⟩ (.int .i64 (k + j))) g off (marks k (j + 1) ++ xs.drop (j + 1))) := by
        have h1 := rowFrom_set HO.out j (by omega) (.int .i64 (k + j))
        rw [marks_set k n j xs hxl hlt] at h1
        exact h1
      have HF2 : Hid (∀ i, (wr.setCell ⟨g, off + j, none⟩ (.int .i64 (k + j))).frozen? ⟨g, i, none⟩ = false) := fun i => (frozen_setC _ _ _ _).trans (HF.out i)
      have HG2 : Hid (w.grownBy (wr.setCell ⟨g, off + j, none⟩ (.int .i64 (k + j))) (some g)) := grown_trans HG.out (grownSet _ _ _ _)
      clear hlen hu0 HO HG HF hc hf
      go_wp2_with fail
      go_roundw
      case rel => exact ⟨j + 1, by omega, by go_num, by go_num, HN, HF2, HG2⟩
      case measure => simp [intOf]; omega
    · obtain rfl : j = n := by omega
      have HN : Hid (RowFrom wr g off (marks k j)) := by
        have h1 := HO.out
        rw [List.drop_of_length_le (by omega), List.append_nil] at h1
        exact h1
      clear HO hc hf
      go_wp2_with fail
      go_ret
      exact ⟨rfl, HN.out, HF.out, HG.out⟩
set_option maxHeartbeats 1000000 in
theorem heldInt_off (g off cap n : Nat) (k : Int) (hn : n ≤ 1000000000000) (hk0 : 0 ≤ k) (hk : k ≤ 1000000000000) (w : World) (hc : RowFrom w g off (marks k n)) :
    Calls Try.prog 42 #[.slice (some ⟨g, off, none⟩) n cap, .int .i64 k] w fun e' w' => e' = .returned (.int .i64 (k + n)) ∧ w' = w := by
  go_enter Try.func42, Try.ntmps42
  go_wp2_with fail
  go_loop [1, 5] (fun m i => ∃ j : Nat, j ≤ n ∧ i = .int .i64 j ∧ m = .int .i64 (k + j)) (fun _ i => n - (intOf i).toNat)
  case atStart => exact ⟨0, by omega, rfl, by simp⟩
  case round =>
    obtain ⟨j, hj, rfl, rfl⟩ := hrel
    by_cases hlt : j < n
    · have d0 : w.cell? ⟨g, off + j, none⟩ = some (.int .i64 (k + j)) := hc j _ (marks_at k n j hlt)
      clear hc
      go_wp2_with fail
      go_round
      case rel => exact ⟨j + 1, by omega, by go_num, by go_num⟩
      case measure => simp [intOf]; omega
    · obtain rfl : j = n := by omega
      clear hc
      go_wp2_with fail
      go_ret
      exact ⟨rfl, rfl⟩
theorem markInt_none (a : Option Addr) (cap : Nat) (k : Int) (w : World) :
    Calls Try.prog 41 #[.slice a 0 cap, .int .i64 k] w fun e' w' => e' = .returned (.int .i64 k) ∧ w' = w := by
  go_enter Try.func41, Try.ntmps41
  go_wp2_with fail
  go_loop [1, 5] (fun m i => i = .int .i64 0 ∧ m = .int .i64 k) (fun _ _ => 0)
  case atStart => exact ⟨rfl, rfl⟩
  case round =>
    obtain ⟨rfl, rfl⟩ := hrel
    go_wp2_with fail
    go_ret
    exact ⟨rfl, rfl⟩
theorem heldInt_none (a : Option Addr) (cap : Nat) (k : Int) (w : World) :
    Calls Try.prog 42 #[.slice a 0 cap, .int .i64 k] w fun e' w' => e' = .returned (.int .i64 k) ∧ w' = w := by
  go_enter Try.func42, Try.ntmps42
  go_wp2_with fail
  go_loop [1, 5] (fun m i => i = .int .i64 0 ∧ m = .int .i64 k) (fun _ _ => 0)
  case atStart => exact ⟨rfl, rfl⟩
  case round =>
    obtain ⟨rfl, rfl⟩ := hrel
    go_wp2_with fail
    go_ret
    exact ⟨rfl, rfl⟩
theorem markOff_any (v : Value) (lo hi : Nat) (xs : List Value) (k : Int) (hn : xs.length ≤ 1000000000000) (hk0 : 0 ≤ k) (hk : k ≤ 1000000000000) (w : World) (h : OffIn w lo hi v xs) :
    Calls Try.prog 41 #[v, .int .i64 k] w fun e' w' => e' = .returned (.int .i64 (k + xs.length)) ∧ OffIn w' lo hi v (marks k xs.length) ∧ (∃ row, w.grownBy w' row ∧ (∀ j, row = some j → blkN v = some j) ∧ ∀ j, row = some j → lo ≤ j ∧ j < hi) := by
  by_cases hx : xs = []
  · obtain ⟨a, cap, rfl, hz⟩ := h.empty hx
    subst hx
    refine (markInt_none a cap k w).mono ?_
    rintro e' w' ⟨he, rfl⟩
    exact ⟨by rw [he]; exact ret_int (by simp), ⟨h.1, Or.inl ⟨rfl, a, cap, rfl, hz⟩⟩, none, grown_refl _ _, (fun j e => by cases e), (fun j e => by cases e)⟩
  obtain ⟨n, hn1⟩ : ∃ n, xs.length = n + 1 := by
    cases xs with
    | nil => exact absurd rfl hx
    | cons x r => exact ⟨r.length, rfl⟩
  obtain ⟨h0, ⟨rfl, a, cap, rfl, hz⟩ | ⟨g, off, cap, rfl, h2, h3, hc, hf, hcp⟩⟩ := h
  · refine (markInt_none a cap k w).mono ?_
    rintro e' w' ⟨he, rfl⟩
    exact ⟨by rw [he]; exact ret_int (by simp), ⟨h0, Or.inl ⟨rfl, a, cap, rfl, hz⟩⟩, none, grown_refl _ _, (fun j e => by cases e), (fun j e => by cases e)⟩
  · refine (markInt_off g off cap xs _ k rfl hn hk0 hk w hc hf).mono ?_
    rintro e' w' ⟨he, hc', hf', hg⟩
    exact ⟨he, ⟨Nat.le_trans h0 hg.size, Or.inr ⟨g, off, cap, by rw [marks_len], h2, h3, hc', hf', by rw [marks_len]; exact hcp⟩⟩, some g, hg, (fun j e => by rw [hn1]; exact e), (fun j e => by have : g = j := Option.some.inj e; omega)⟩
theorem heldOff_any (v : Value) (lo hi n : Nat) (k : Int) (hn : n ≤ 1000000000000) (hk0 : 0 ≤ k) (hk : k ≤ 1000000000000) (w : World) (h : OffIn w lo hi v (marks k n)) :
    Calls Try.prog 42 #[v, .int .i64 k] w fun e' w' => e' = .returned (.int .i64 (k + n)) ∧ w' = w := by
  obtain ⟨h0, ⟨h1, a, cap, rfl, hz⟩ | ⟨g, off, cap, rfl, h2, h3, hc, hf, hcp⟩⟩ := h
  · have hn0 : n = 0 := by
      have := congrArg List.length h1
      rw [marks_len] at this
      exact this
    subst hn0
    refine (heldInt_none a cap k w).mono ?_
    rintro e' w' ⟨he, hw⟩
    exact ⟨by rw [he]; exact ret_int (by simp), hw⟩
  · rw [marks_len]
    exact heldInt_off g off cap n k hn hk0 hk w hc
/-- numbers that a call owns, somewhere within its blocks -/
def OwnOI (w : World) (lo hi : Nat) (v : Value) (t : List Int) : Prop := OffIn w lo hi v (cellsI t)
def MarkOI (w : World) (lo hi : Nat) (v : Value) (t : List Int) (k : Int) : Prop := OffIn w lo hi v (marks k t.length)
theorem cellsI_len (t : List Int) : (cellsI t).length = t.length := by simp [cellsI]
theorem OwnOI.hi {w : World} {lo hi : Nat} {v : Value} {t : List Int} (h : OwnOI w lo hi v t) : hi ≤ w.heap.size := h.1
theorem MarkOI.hi {w : World} {lo hi : Nat} {v : Value} {t : List Int} {k : Int} (h : MarkOI w lo hi v t k) : hi ≤ w.heap.size := h.1
theorem OwnOI.same {w w' : World} {lo hi : Nat} {v : Value} {t : List Int} (h : OwnOI w lo hi v t) (hs : w.heap.size ≤ w'.heap.size) (hb : ∀ i, lo ≤ i → i < hi → w'.heap[i]? = w.heap[i]?) : OwnOI w' lo hi v t := OffIn.same h hs hb
theorem MarkOI.same {w w' : World} {lo hi : Nat} {v : Value} {t : List Int} {k : Int} (h : MarkOI w lo hi v t k) (hs : w.heap.size ≤ w'.heap.size) (hb : ∀ i, lo ≤ i → i < hi → w'.heap[i]? = w.heap[i]?) : MarkOI w' lo hi v t k := OffIn.same h hs hb
theorem OwnOI.shape {w : World} {lo hi : Nat} {v : Value} {t : List Int} (h : OwnOI w lo hi v t) : ∃ a n cap, v = .slice a n cap := by
  obtain ⟨a, cap, e⟩ := OffIn.shape h
  exact ⟨a, _, cap, e⟩
theorem OwnOI.reads {w : World} {lo hi : Nat} {v : Value} {t : List Int} (h : OwnOI w lo hi v t) (ok : t.length ≤ 1048576) : IntsAt w v t := by
  refine ⟨by omega, ?_⟩
  rcases h.2 with ⟨e, a, cap, hv, _⟩ | ⟨g, off, cap, hv, h2, h3, hc, hf, hcp⟩
  · have := congrArg List.length e
    rw [cellsI_len] at this
    exact Or.inl ⟨List.length_eq_zero_iff.1 this, a, cap, hv⟩
  · refine Or.inr ⟨g, off, cap, by rw [hv, cellsI_len], by have := h.1; omega, fun i x hx => hc i _ ?_⟩
    simp [cellsI, hx]
theorem markOI_any (v : Value) (t : List Int) (lo hi : Nat) (k : Int) (hl : t.length ≤ 1048576) (hk0 : 0 ≤ k) (hk : k ≤ 100000000000) (w : World) (h : OwnOI w lo hi v t) :
    Calls Try.prog 41 #[v, .int .i64 k] w fun e w' => e = .returned (.int .i64 (k + t.length)) ∧ MarkOI w' lo hi v t k ∧ Touch lo hi w w' := by
  refine (markOff_any v lo hi _ k (by rw [cellsI_len]; omega) hk0 (by omega) w h).mono ?_
  rintro e w' ⟨he, m, row, gr, h1, h2⟩
  rw [cellsI_len] at he m
  exact ⟨he, m, touch_of_grown gr h2⟩
theorem heldOI_any (v : Value) (t : List Int) (lo hi : Nat) (k : Int) (hl : t.length ≤ 1048576) (hk0 : 0 ≤ k) (hk : k ≤ 100000000000) (w : World) (h : MarkOI w lo hi v t k) :
    Calls Try.prog 42 #[v, .int .i64 k] w fun e w' => e = .returned (.int .i64 (k + t.length)) ∧ Below w.heap.size w w' := by
  refine (heldOff_any v lo hi _ k (by omega) hk0 (by omega) w h).mono ?_
  rintro e w' ⟨he, rfl⟩
  exact ⟨he, Below.refl _ _⟩
end Go.Proofs.Ythamdefkcjfjpaa
