/-
  A state as four words: the program's stateFrom.
-/
import Derived.Test.YtmhpnkfibecnmaaDoorEqS
import Derived.Test.YtmhpnkfibecnmaaDoorValueOf
import Derived.Laws.CopyOwn
import Derived.Deep.RegionWith
namespace Go.Proofs.YtmhpnkfibecnmaaDoor
open Go Go.RowKit
open M
set_option linter.unusedVariables false

def padW (st : List Int) (i : Nat) : Int := st.getD i 0
def stB (k : Nat) (pv : Int) (st : List Int) : Bool := decide ((st.length : Int) = pv) && st.all (goodB k)
theorem padW_in (st : List Int) (hok : ∀ s ∈ st, 0 ≤ s ∧ s ≤ 18446744073709551615) (i : Nat) : 0 ≤ padW st i ∧ padW st i ≤ 18446744073709551615 := by
  unfold padW
  rw [List.getD_eq_getElem?_getD]
  cases e : st[i]? with
  | none => simp
  | some x => simpa using hok x (List.mem_of_getElem? e)
theorem splice_pad (st : List Int) (h : st.length ≤ 4) : splice [Value.int .u64 0, .int .u64 0, .int .u64 0, .int .u64 0] 0 (st.map (Value.int .u64)) = [.int .u64 (padW st 0), .int .u64 (padW st 1), .int .u64 (padW st 2), .int .u64 (padW st 3)] := by
  match st, h with
  | [], _ => simp [splice, padW]
  | [a], _ => simp [splice, padW]
  | [a, b], _ => simp [splice, padW]
  | [a, b, c], _ => simp [splice, padW]
  | [a, b, c, d], _ => simp [splice, padW]
theorem good_cut (k : Nat) (hk : 1 ≤ k ∧ k ≤ 64) (a : Int) (h0 : 0 ≤ a) (h1 : a ≤ 18446744073709551615) : goodB k a = (a == cut k a) := by
  have hc := cut_eq_iff k a h0
  have e : (1 ≤ (k : Int) ∧ (k : Int) ≤ 64 ∧ a < pw (k : Int).toNat) ↔ a < pw k := by
    have : (k : Int).toNat = k := by omega
    rw [this]
    constructor
    · exact fun h => h.2.2
    · exact fun h => ⟨by omega, by omega, h⟩
  unfold goodB
  by_cases h : a < pw k
  · rw [decide_eq_true (e.2 h), hc.2 h]
    simp
  · have hn : ¬ cut k a = a := fun x => h (hc.1 x)
    rw [decide_eq_false (fun x => h (e.1 x))]
    symm
    simpa using fun x => hn x.symm
theorem good_pad (k : Nat) (hk : 1 ≤ k ∧ k ≤ 64) (st : List Int) (hok : ∀ s ∈ st, 0 ≤ s ∧ s ≤ 18446744073709551615) (h : st.length ≤ 4) : (padW st 0 == cut k (padW st 0) && (padW st 1 == cut k (padW st 1) && (padW st 2 == cut k (padW st 2) && padW st 3 == cut k (padW st 3)))) = st.all (goodB k) := by
  have hz : ((0 : Int) == cut k 0) = true := by
    have : cut k 0 = 0 := by unfold cut; simp
    rw [this]
    rfl
  match st, h with
  | [], _ => simp [padW, hz]
  | [a], _ =>
    have ga := good_cut k hk a (hok a (by simp)).1 (hok a (by simp)).2
    simp [padW, hz, ga]
  | [a, b], _ =>
    have ga := good_cut k hk a (hok a (by simp)).1 (hok a (by simp)).2
    have gb := good_cut k hk b (hok b (by simp)).1 (hok b (by simp)).2
    simp [padW, hz, ga, gb]
  | [a, b, c], _ =>
    have ga := good_cut k hk a (hok a (by simp)).1 (hok a (by simp)).2
    have gb := good_cut k hk b (hok b (by simp)).1 (hok b (by simp)).2
    have gc := good_cut k hk c (hok c (by simp)).1 (hok c (by simp)).2
    simp [padW, hz, ga, gb, gc]
  | [a, b, c, d], _ =>
    have ga := good_cut k hk a (hok a (by simp)).1 (hok a (by simp)).2
    have gb := good_cut k hk b (hok b (by simp)).1 (hok b (by simp)).2
    have gc := good_cut k hk c (hok c (by simp)).1 (hok c (by simp)).2
    have gd := good_cut k hk d (hok d (by simp)).1 (hok d (by simp)).2
    simp [padW, ga, gb, gc, gd]
/-- what stateFrom answers -/
def StOut (w : World) (k : Nat) (pv : Int) (st : List Int) (e : Ending) (w' : World) : Prop :=
  ∃ a b c d : Int, e = .returned (.tuple #[.agg #[.int .u64 a, .int .u64 b, .int .u64 c, .int .u64 d], .bool (stB k pv st)]) ∧ (stB k pv st = true → a = padW st 0 ∧ b = padW st 1 ∧ c = padW st 2 ∧ d = padW st 3) ∧ Below w.heap.size w w'
end Go.Proofs.YtmhpnkfibecnmaaDoor
