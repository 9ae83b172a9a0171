/-
  Where the tree of a node begins: the model's l2From.
-/
import Derived.Test.YtmhpnkfibecnmaaDoorNodes
import Derived.Test.YtmhpnkfibecnmaaDoorValue
namespace Go.Proofs.YtmhpnkfibecnmaaDoor
open Go Go.RowKit
open M
set_option linter.unusedVariables false

/-- the cells of a row of nodes -/
def Cells (w : World) (b off : Nat) (t : List Nd) : Prop := ∀ (i : Nat) (x : Nd), t[i]? = some x → w.cell? ⟨b, off + i * 2, none⟩ = some (.int .i64 x.1) ∧ w.cell? ⟨b, off + i * 2 + 1, none⟩ = some (.int .u64 x.2)
section
variable {α : Type} {wide vars : Int} {f0 : Nd → α} {f1 : Nd → α → α} {f2 : Nd → α → α → α}
set_option maxRecDepth 100000 in
set_option maxHeartbeats 1000000 in
theorem l2From_step (b off cap : Nat) (t : List Nd) (hl : t.length ≤ 1048576) (w : World) (hc : Cells w b off t) (k : Nat) (e0 : Ent α) (ht : TreeAt wide vars f0 f1 f2 t k e0)
    (ih : ∀ (i : Int) (e1 : Ent α), 0 ≤ i → i < k → TreeAt wide vars f0 f1 f2 t i.toNat e1 →
      Calls Tryd.prog 134 #[.slice (some ⟨b, off, none⟩) t.length cap, .int .i64 i] w fun e w' => e = .returned (.int .i64 e1.at0) ∧ w' = w) :
    Calls Tryd.prog 134 #[.slice (some ⟨b, off, none⟩) t.length cap, .int .i64 k] w fun e w' => e = .returned (.int .i64 e0.at0) ∧ w' = w := by
  obtain ⟨⟨op, n⟩, hx, n1, n2, hcase⟩ := tree_cases ht
  have hk : k < t.length := (List.getElem?_eq_some_iff.1 hx).1
  obtain ⟨c0, c1⟩ := hc k (op, n) hx
  have g := l2Need_any op w
  simp only at hcase n1 n2 c0 c1
  clear hx n1 n2 ht hc
  rcases hcase with ⟨m0, rfl⟩ | ⟨m1, hk1, d, hd, _, hdk, rfl⟩ | ⟨m2, hk1, d, c, hd, _, hd1, hdk, hcc, _, hck, rfl⟩
  · rw [m0] at g
    clear ih
    generalize ownOf op = o at *
    generalize partOf op = q at *
    clear m0
    go_enter Tryd.func134, Tryd.ntmps134
    go_wp2_with fail
    refine g.mono ?_
    rintro e w' ⟨rfl, rfl⟩
    clear g
    go_wp2_with fail
    go_loop [5, 8] (fun m f => m = .int .i64 0 ∧ f = .int .i64 k) (fun _ _ => 0)
    case atStart => exact ⟨rfl, rfl⟩
    case round =>
      obtain ⟨rfl, rfl⟩ := hrel
      go_wp2_with fail
      go_ret
      exact ⟨rfl, rfl⟩
  · rw [m1] at g
    have ih1 := fun (i : Int) (h0 : 0 ≤ i) (h1 : i < k) (h2 : i.toNat = k - 1) => ih i d h0 h1 (h2 ▸ hd)
    have HI : Hid _ := ih1
    clear ih ih1 m1 hd
    generalize d.at0 = da at *
    generalize ownOf op = o at *
    generalize partOf op = q at *
    go_enter Tryd.func134, Tryd.ntmps134
    go_wp2_with fail
    refine g.mono ?_
    rintro e w' ⟨rfl, rfl⟩
    clear g
    go_wp2_with fail
    go_loop [5, 8] (fun m f => (m = .int .i64 1 ∧ f = .int .i64 k) ∨ (m = .int .i64 0 ∧ f = .int .i64 da)) (fun m _ => (intOf m).toNat)
    case atStart => exact Or.inl ⟨rfl, rfl⟩
    case round =>
      rcases hrel with ⟨rfl, rfl⟩ | ⟨rfl, rfl⟩
      · go_wp2_with fail
        refine (HI.out _ (by omega) (by omega) (by omega)).mono ?_
        rintro e w' ⟨rfl, rfl⟩
        go_wp2_with fail
        go_round
        case rel => exact Or.inr ⟨rfl, rfl⟩
        case measure => simp [intOf]
      · go_wp2_with fail
        go_ret
        exact ⟨rfl, rfl⟩
  · rw [m2] at g
    have ih1 := fun (i : Int) (h0 : 0 ≤ i) (h1 : i < k) (h2 : i.toNat = k - 1) => ih i d h0 h1 (h2 ▸ hd)
    have ih2 := fun (i : Int) (h0 : 0 ≤ i) (h1 : i < k) (h2 : i.toNat = d.at0 - 1) => ih i c h0 h1 (h2 ▸ hcc)
    have HI : Hid _ := ih1
    have HI2 : Hid _ := ih2
    clear ih ih1 ih2 m2 hd hcc
    generalize d.at0 = da at *
    generalize c.at0 = ca at *
    generalize ownOf op = o at *
    generalize partOf op = q at *
    go_enter Tryd.func134, Tryd.ntmps134
    go_wp2_with fail
    refine g.mono ?_
    rintro e w' ⟨rfl, rfl⟩
    clear g
    go_wp2_with fail
    go_loop [5, 8] (fun m f => (m = .int .i64 2 ∧ f = .int .i64 k) ∨ (m = .int .i64 1 ∧ f = .int .i64 da) ∨ (m = .int .i64 0 ∧ f = .int .i64 ca)) (fun m _ => (intOf m).toNat)
    case atStart => exact Or.inl ⟨rfl, rfl⟩
    case round =>
      rcases hrel with ⟨rfl, rfl⟩ | ⟨rfl, rfl⟩ | ⟨rfl, rfl⟩
      · go_wp2_with fail
        refine (HI.out _ (by omega) (by omega) (by omega)).mono ?_
        rintro e w' ⟨rfl, rfl⟩
        go_wp2_with fail
        go_round
        case rel => exact Or.inr (Or.inl ⟨rfl, rfl⟩)
        case measure => simp [intOf]
      · go_wp2_with fail
        refine (HI2.out _ (by omega) (by omega) (by omega)).mono ?_
        rintro e w' ⟨rfl, rfl⟩
        go_wp2_with fail
        go_round
        case rel => exact Or.inr (Or.inr ⟨rfl, rfl⟩)
        case measure => simp [intOf]
      · go_wp2_with fail
        go_ret
        exact ⟨rfl, rfl⟩
theorem l2From_any (b off cap : Nat) (t : List Nd) (hl : t.length ≤ 1048576) (w : World) (hc : Cells w b off t) : ∀ (n k : Nat), k ≤ n → ∀ (e0 : Ent α), TreeAt wide vars f0 f1 f2 t k e0 →
    Calls Tryd.prog 134 #[.slice (some ⟨b, off, none⟩) t.length cap, .int .i64 k] w fun e w' => e = .returned (.int .i64 e0.at0) ∧ w' = w
  | 0, k, hk, e0, ht => l2From_step b off cap t hl w hc k e0 ht (fun i e1 h0 h1 _ => by omega)
  | n + 1, k, hk, e0, ht => l2From_step b off cap t hl w hc k e0 ht (fun i e1 h0 h1 h2 => by
    have g := l2From_any b off cap t hl w hc n i.toNat (by omega) e1 h2
    rw [Int.toNat_of_nonneg h0] at g
    exact g)
end
end Go.Proofs.YtmhpnkfibecnmaaDoor
