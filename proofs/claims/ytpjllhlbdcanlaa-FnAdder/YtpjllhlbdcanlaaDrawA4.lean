/-
  What AddGates is asked of, as it is drawn.
-/
import Derived.Test.YtpjllhlbdcanlaaCirc4
import Derived.Deep.RegionHeld
namespace Go.Proofs.Ytpjllhlbdcanlaa
open Go Go.RowKit
open M
set_option linter.unusedVariables false
set_option linter.unusedSimpArgs false

theorem results_c3 {P : Program} {fn : Func} {p u v x : Tmp} {ty : TypeId} (h : fn.results = #[.cell p ty, .tmp u, .tmp v, .tmp x]) (tmps : Array Value) (w : World) (g : Nat) (t : TypeId) (cs : Array Value) (fr : Nat × Nat) (d : TypeDesc)
    (hp : tmps.getD p undef = .pointer (some ⟨g, 0, none⟩)) (hg : w.heap[g]? = some (.cells cs t fr))
    (hu : P.underlying ty = some d) (hd : (match d with | .struct _ | .array _ _ => true | _ => false) = true) (hi : (P.info? ty).map (·.size) = some cs.size) :
    (results fn tmps).run P w = .ok (.tuple #[.agg cs, tmps.getD u undef, tmps.getD v undef, tmps.getD x undef]) w := by
  have hp' : tmps[p]?.getD undef = .pointer (some ⟨g, 0, none⟩) := by simpa using hp
  simp [results, h, hp', asAddr, run_loadVar_row w g t ty cs fr d hg hu hd hi]
theorem CodeOk.up {B B' : Nat} {w : World} {sv : Value} (h : CodeOk B w sv) (hB : B ≤ B') : CodeOk B' w sv := by
  rcases h with h | ⟨cb, off, len, cap, h1, h2, h3, h4⟩
  · exact Or.inl h
  · exact Or.inr ⟨cb, off, len, cap, h1, by omega, h3, h4⟩
/-- what is drawn with a circuit, while more is drawn -/
structure DS (u : World) (R b X base B m : Nat) (sv : Value) (c : Ci) (gsl osl : Value) (v : World) : Prop where
  cur : Cur B b m sv v
  res : Box3 v R 27 (.int .i64 0) (.slice none 0 0) (.slice none 0 0)
  x : Box3 v X 27 (.int .i64 c.1) gsl osl
  rows : v.ownsRow base 128 3 gsl c.2.1.length (flat3 c.2.1)
  outs : v.ownsRow base 3 1 osl c.2.2.length (cellsI c.2.2)
  on : Only b u v
theorem DS.only {u v v' : World} {R b X base B m m' : Nat} {sv : Value} {c : Ci} {gsl osl : Value} (h : DS u R b X base B m sv c gsl osl v) (ho : Only b v v') (hc : Cur B b m' sv v') (hR : R ≠ b) (hX : X ≠ b) (hb : b < base) : DS u R b X base B m' sv c gsl osl v' :=
  ⟨hc, ho.box h.res hR, ho.box h.x hX, ho.keeps h.rows hb, ho.keeps h.outs hb, h.on.trans ho⟩
theorem DS.alloc {u v : World} {R b X base B m : Nat} {sv : Value} {c : Ci} {gsl osl : Value} (h : DS u R b X base B m sv c gsl osl v) (o : Obj) : DS u R b X base B m sv c gsl osl (v.alloc o) :=
  ⟨h.cur.alloc o, h.res.alloc o, h.x.alloc o, h.rows.alloc o, h.outs.alloc o, h.on.alloc o⟩
theorem DS.drew {u v : World} {R b X base B m : Nat} {sv : Value} {c : Ci} {gsl osl : Value} (h : DS u R b X base B m sv c gsl osl v) : DS u R b X base B m sv c gsl osl v.drew :=
  ⟨h.cur.drew, ⟨h.res.heap⟩, ⟨h.x.heap⟩, h.rows, h.outs, h.on.drew⟩
/-- what DrawAddGates answers -/
def AddOut (w : World) (e : Ending) (w' : World) : Prop := ∃ (cv av bv : Value) (c : Ci) (a b : List Int) (k : Int), e = .returned (.tuple #[cv, av, bv, .int .i64 k]) ∧ AtC w' cv c ∧ AtIS w' av a ∧ AtIS w' bv b ∧ Fit k ∧ CiOk c ∧ a.length ≤ 20 ∧ b.length ≤ 20 ∧ Below w.heap.size w w'
set_option maxRecDepth 100000 in
set_option maxHeartbeats 8000000 in
theorem drawAddGates_any (ad : Option Addr) (l cc : Nat) (w : World) (h : CodeOk w.heap.size w (.slice ad l cc)) :
    Calls Try.prog 19 #[.slice ad l cc] w fun e w' => AddOut w e w' := by
  have hb0 : Below w.heap.size w (w.alloc (.cells #[.int .i64 0, .slice none 0 0, .slice none 0 0] 27)) := (Below.refl _ _).alloc (Nat.le_refl _) _
  have hk : CodeOk (w.alloc (.cells #[.int .i64 0, .slice none 0 0, .slice none 0 0] 27)).heap.size (w.alloc (.cells #[.int .i64 0, .slice none 0 0, .slice none 0 0] 27)) (.slice ad l cc) := (h.below hb0).up (by rw [World.size_alloc]; omega)
  have x0 := box3_alloc w 27 (.int .i64 0) (.slice none 0 0) (.slice none 0 0)
  have hc0 := cur_new _ _ hk
  have hsz : (w.alloc (.cells #[.int .i64 0, .slice none 0 0, .slice none 0 0] 27)).heap.size = w.heap.size + 1 := by simp only [World.size_alloc]
  rw [hsz] at hc0
  have x1 := x0.alloc (.cells #[.slice ad l cc, .int .i64 0, .int .u64 0] 109)
  have hb1 : Below w.heap.size w ((w.alloc (.cells #[.int .i64 0, .slice none 0 0, .slice none 0 0] 27)).alloc (.cells #[.slice ad l cc, .int .i64 0, .int .u64 0] 109)) := hb0.alloc hb0.size _
  have hsz1 : ((w.alloc (.cells #[.int .i64 0, .slice none 0 0, .slice none 0 0] 27)).alloc (.cells #[.slice ad l cc, .int .i64 0, .int .u64 0] 109)).heap.size = w.heap.size + 1 + 1 := by simp only [World.size_alloc]
  have g1 := circuit_any _ _ _ _ _ hc0 (by omega)
  clear h hk hb0 x0 hsz
  go_enter Try.func19, Try.ntmps19
  go_wp2_with fail
  refine g1.mono ?_
  clear g1 hc0
  generalize ((w.alloc (.cells #[.int .i64 0, .slice none 0 0, .slice none 0 0] 27)).alloc (.cells #[.slice ad l cc, .int .i64 0, .int .u64 0] 109)) = wa at *
  rintro e w1 hco
  unfold CircOut at hco
  obtain ⟨gv, ov, c, rfl, ⟨hi, hgl, hol, hsm⟩, hgr, hor, ho1, hc1⟩ := hco
  have hs1 := ho1.size
  rw [hsz1] at hs1
  have hgr1 : w1.ownsRow (w.heap.size + 1 + 1) 128 3 gv c.2.1.length (flat3 c.2.1) := by rw [hsz1] at hgr; exact hgr
  have hor1 : w1.ownsRow (w.heap.size + 1 + 1) 3 1 ov c.2.2.length (cellsI c.2.2) := by rw [hsz1] at hor; exact hor
  have x2 := ho1.box x1 (by omega)
  clear hgr hor x1
  obtain ⟨ga, gcap, hgv⟩ := own_shape hgr1
  obtain ⟨oa, ocap, hov⟩ := own_shape hor1
  subst hgv hov
  have D1 : DS wa w.heap.size (w.heap.size + 1) w1.heap.size (w.heap.size + 1 + 1) (w.heap.size + 1) (0 + 10000) (.slice ad l cc) c (.slice ga c.2.1.length gcap) (.slice oa c.2.2.length ocap) (w1.alloc (.cells #[.int .i64 c.1, .slice ga c.2.1.length gcap, .slice oa c.2.2.length ocap] 27)) := ⟨hc1.alloc _, x2.alloc _, box3_alloc _ _ _ _ _, hgr1.alloc _, hor1.alloc _, ho1.alloc _⟩
  obtain ⟨X, hX⟩ : ∃ X, w1.heap.size = X := ⟨_, rfl⟩
  rw [hX] at D1 hs1
  have g2 := pick_any _ _ _ _ 6 (by omega) (by omega) _ D1.cur (by omega)
  clear ho1 hc1 x2 hgr1 hor1
  go_wp2_with fail
  refine g2.mono ?_
  rintro e w2 ⟨n', ⟨hn0, hn1⟩, rfl, ho2, hc2⟩
  have D2 := D1.only ho2 hc2 (by omega) (by omega) (by omega)
  obtain ⟨n, rfl⟩ := Int.eq_ofNat_of_zero_le hn0
  have g3 := one_any _ _ _ _ 12 (by omega) (by omega) _ D2.cur (by omega)
  clear g2 D1 ho2 hc2
  go_wp2_with fail
  refine g3.mono ?_
  rintro e w3 ⟨z, rfl, ho3, hc3⟩
  have D3 := D2.only ho3 hc3 (by omega) (by omega) (by omega)
  clear g3 D2 ho3 hc3
  have hcg : c.2.1.length ≤ 301 := hgl
  obtain ⟨N, hN⟩ : ∃ N : Int, c.1 + (c.2.1.length : Int) = N := ⟨_, rfl⟩
  have hN2 : N ≤ 400 := by omega
  have hN3 : -1 ≤ N := by omega
  have GW : Hid (∀ w5 : World, Calls Try.prog 93 #[.agg #[.int .i64 c.1, .slice ga c.2.1.length gcap, .slice oa c.2.2.length ocap]] w5 fun e w' => e = .returned (.int .i64 N) ∧ w' = w5.alloc (.cells #[.int .i64 c.1, .slice ga c.2.1.length gcap, .slice oa c.2.2.length ocap] 27)) := fun w5 => by
    have g := l4Wires_raw c.1 ga c.2.1.length gcap (.slice oa c.2.2.length ocap) (by omega) (by omega) (by omega) w5
    rw [hN] at g
    exact g
  obtain ⟨N1, hN1⟩ : ∃ N1 : Int, N + 1 = N1 := ⟨_, rfl⟩
  have hN1w : IntKind.i64.wrap N1 = N1 := IntWalk.i64_in _ ⟨by omega, by omega⟩
  have hN1b : N1 ≤ 500 := by omega
  clear hN hX
  cases z with
  | false =>
    obtain ⟨p0, p1, p2⟩ := D3.x.cells
    have ph := D3.x.heap
    have pl := D3.x.lt
    go_wp2_with fail
    go_region_held (fun w' => w'.cell? ⟨X, 0, none⟩ = some (.int .i64 c.1) ∧ w'.cell? ⟨X, 1, none⟩ = some (.slice ga c.2.1.length gcap) ∧ w'.cell? ⟨X, 2, none⟩ = some (.slice oa c.2.2.length ocap)) (first | exact HD6.x.cells | exact (((HD6.x.other hXR _).other hXR _).other hXR _).cells | exact HD5.x.cells | exact HD4.x.cells | exact HD3.x.cells | exact HD2.x.cells | exact HD1.x.cells | exact D3.drew.x.cells | exact D3.x.cells | go_keep) (first | (go_at_call 89; refine (pick_all _ _ _ _ N1 (by omega) _ HD5.cur (by omega)).mono ?_; rintro e w16 ⟨kx, ⟨hkx0, hkx1⟩, rfl, ho16, hc16⟩; have HD6 := HD5.only ho16 hc16 (by omega) (by omega) (by omega); have HA6 := ho16.keeps HA5 (by omega); have HB6 := ho16.keeps HB5 (by omega); obtain ⟨rz0, rz1, rz2⟩ := HD6.res.cells; have rzh := HD6.res.heap; have rzl := HD6.res.lt; have rf0 := HD6.res.frozen 0; have rf1 := HD6.res.frozen 1; have rf2 := HD6.res.frozen 2; obtain ⟨xz0, xz1, xz2⟩ := HD6.x.cells; have hXR : X ≠ w.heap.size := (by omega); clear ho16 hc16) | (go_at_call 93; first | (have qq := HD4; refine (GW.out _).mono ?_; rintro e w15 ⟨rfl, hw15⟩; have HD5 : DS wa w.heap.size (w.heap.size + 1) X (w.heap.size + 1 + 1) (w.heap.size + 1) (0 + 10000 + 2 + 2 + 2 * n + 2 * n) (.slice ad l cc) c (.slice ga c.2.1.length gcap) (.slice oa c.2.2.length ocap) w15 := (by rw [hw15]; exact HD4.alloc _); have HA5 : w15.ownsRow (w.heap.size + 1 + 1) 3 1 (.slice ra1 t1.length rc1) t1.length (cellsI t1) := (by rw [hw15]; exact HA4.alloc _); have HB5 : w15.ownsRow (w.heap.size + 1 + 1) 3 1 (.slice ra2 t2.length rc2) t2.length (cellsI t2) := (by rw [hw15]; exact HB4.alloc _); clear hw15 qq) | (have qq := HD2; refine (GW.out _).mono ?_; rintro e w13 ⟨rfl, hw13⟩; have HD3 : DS wa w.heap.size (w.heap.size + 1) X (w.heap.size + 1 + 1) (w.heap.size + 1) (0 + 10000 + 2 + 2 + 2 * n) (.slice ad l cc) c (.slice ga c.2.1.length gcap) (.slice oa c.2.2.length ocap) w13 := (by rw [hw13]; exact HD2.alloc _); have HA3 : w13.ownsRow (w.heap.size + 1 + 1) 3 1 (.slice ra1 t1.length rc1) t1.length (cellsI t1) := (by rw [hw13]; exact HA2.alloc _); clear hw13 qq) | (refine (GW.out _).mono ?_; rintro e w11 ⟨rfl, hw11⟩; have HD1 : DS wa w.heap.size (w.heap.size + 1) X (w.heap.size + 1 + 1) (w.heap.size + 1) (0 + 10000 + 2 + 2) (.slice ad l cc) c (.slice ga c.2.1.length gcap) (.slice oa c.2.2.length ocap) w11 := (by rw [hw11]; first | exact D3.alloc _ | exact D3.drew.alloc _); clear hw11)) | (go_at_call 92; first | (have qq := HD3; refine (wires_any _ _ _ _ N (by omega) n (by omega) _ HD3.cur (by omega)).mono ?_; rintro e w14 ⟨r2, t2, rfl, ht2, htb2, hr2, ho14, hc14⟩; have HT2 : Hid (t2.length = n) := ht2; clear ht2 htb2; have HD4 := HD3.only ho14 hc14 (by omega) (by omega) (by omega); have HA4 := ho14.keeps HA3 (by omega); have HB4 : w14.ownsRow (w.heap.size + 1 + 1) 3 1 r2 t2.length (cellsI t2) := own_base hr2 (by have := HD3.on.size; omega); obtain ⟨ra2, rc2, hrr2⟩ := own_shape HB4; subst hrr2; clear ho14 hc14 hr2 qq) | (refine (wires_any _ _ _ _ N (by omega) n (by omega) _ HD1.cur (by omega)).mono ?_; rintro e w12 ⟨r1, t1, rfl, ht1, htb1, hr1, ho12, hc12⟩; have HT1 : Hid (t1.length = n) := ht1; clear ht1 htb1; have HD2 := HD1.only ho12 hc12 (by omega) (by omega) (by omega); have HA2 : w12.ownsRow (w.heap.size + 1 + 1) 3 1 r1 t1.length (cellsI t1) := own_base hr1 (by have := HD1.on.size; omega); obtain ⟨ra1, rc1, hrr1⟩ := own_shape HA2; subst hrr1; clear ho12 hc12 hr1)))
    all_goals
      have hb6 : Below w.heap.size w w16 := hb1.trans (HD6.on.below (B := w.heap.size) (by omega) (by omega))
      have HZ : Hid _ := ((HD6.res.set0 (.int .i64 c.1)).set1 (.slice ga c.2.1.length gcap)).set2 (.slice oa c.2.2.length ocap)
      have hlo : w.heap.size < w.heap.size + 1 + 1 := by omega
      have sets := fun {e : TypeId} {s : Nat} {v : Value} {k : Nat} {xs : List Value} (ho : w16.ownsRow (w.heap.size + 1 + 1) e s v k xs) => own_set (b := w.heap.size) (o := 2) (u := .slice oa c.2.2.length ocap) (own_set (b := w.heap.size) (o := 1) (u := .slice ga c.2.1.length gcap) (own_set (b := w.heap.size) (o := 0) (u := .int .i64 c.1) ho hlo) hlo) hlo
      have HG : Hid _ := sets HD6.rows
      have HO : Hid _ := sets HD6.outs
      have HA : Hid _ := sets HA6
      have HB : Hid _ := sets HB6
      have HBl : Hid _ := ((hb6.setCell (p := ⟨w.heap.size, 0, none⟩) (Nat.le_refl _) (.int .i64 c.1)).setCell (p := ⟨w.heap.size, 1, none⟩) (Nat.le_refl _) (.slice ga c.2.1.length gcap)).setCell (p := ⟨w.heap.size, 2, none⟩) (Nat.le_refl _) (.slice oa c.2.2.length ocap)
      have hsmk : ∀ g ∈ c.2.1, GtOk g := fun g hg => smG_ok (hsm g hg) (by omega)
      clear sets HD6 HA6 HB6 HD5 HD4 HD3 HD2 HD1 D3 HA5 HA4 HA3 HA2 HB5 HB4 rz0 rz1 rz2 rzh rzl rf0 rf1 rf2 xz0 xz1 xz2 GW hb6
      go_wp2_with fail
      refine bodyPost_ret (results_c3 rfl _ _ w.heap.size 27 _ (0, 0) _ rfl HZ.out.heap Try.underlying27 rfl (by kernel_rfl)) rfl ?_
      have hfit : Fit c.1 := ⟨by omega, by omega⟩
      unfold AddOut
      refine ⟨_, _, _, c, t1, t2, kx, rfl, ⟨hfit, _, _, rfl, gates_of_own hsmk (by omega) HG.out, ints_of_own (by omega) HO.out, strong_of HG.out, strong_of HO.out⟩, ⟨ints_of_own (by have := HT1.out; omega) HA.out, strong_of HA.out⟩, ⟨ints_of_own (by have := HT2.out; omega) HB.out, strong_of HB.out⟩, ⟨by omega, by omega⟩, ⟨hfit, hsmk, by omega, by omega⟩, by have := HT1.out; omega, by have := HT2.out; omega, HBl.out⟩
  | true =>
    have D10 := D3.alloc (.cells #[.int .i64 16, .int .i64 17] 3)
    have hlb : ∀ i : Nat, i < 2 → ∃ x : Int, (w3.alloc (.cells #[.int .i64 16, .int .i64 17] 3)).cell? ⟨w3.heap.size, i, none⟩ = some (.int .i64 x) ∧ 16 ≤ x ∧ x ≤ 17 := by
      intro i hi
      match i, hi with
      | 0, _ => exact ⟨16, by simp, by omega, by omega⟩
      | 1, _ => exact ⟨17, by simp, by omega, by omega⟩
    have hl3 := D3.cur.lies
    have ga1 := among_any _ _ _ _ w3.heap.size 2 2 16 17 (by omega) (by omega) _ D10.cur (by omega) (by omega) (by rw [World.size_alloc]; omega) hlb
    clear hlb
    go_wp2_with fail
    refine ga1.mono ?_
    rintro e w10 ⟨nn, ⟨hnn0, hnn1⟩, rfl, ho10, hc10⟩
    obtain ⟨n2, rfl⟩ := Int.eq_ofNat_of_zero_le (show 0 ≤ nn by omega)
    have D3x := D10.only ho10 hc10 (by omega) (by omega) (by omega)
    clear ga1 D3 D10 ho10 hc10
    obtain ⟨p0, p1, p2⟩ := D3x.x.cells
    have ph := D3x.x.heap
    have pl := D3x.x.lt
    go_wp2_with fail
    go_region_held (fun w' => w'.cell? ⟨X, 0, none⟩ = some (.int .i64 c.1) ∧ w'.cell? ⟨X, 1, none⟩ = some (.slice ga c.2.1.length gcap) ∧ w'.cell? ⟨X, 2, none⟩ = some (.slice oa c.2.2.length ocap)) (first | exact HD6.x.cells | exact (((HD6.x.other hXR _).other hXR _).other hXR _).cells | exact HD5.x.cells | exact HD4.x.cells | exact HD3x.x.cells | exact HD2.x.cells | exact HD1.x.cells | exact D3x.drew.x.cells | exact D3x.x.cells | go_keep) (first | (go_at_call 89; refine (pick_all _ _ _ _ N1 (by omega) _ HD5.cur (by omega)).mono ?_; rintro e w16 ⟨kx, ⟨hkx0, hkx1⟩, rfl, ho16, hc16⟩; have HD6 := HD5.only ho16 hc16 (by omega) (by omega) (by omega); have HA6 := ho16.keeps HA5 (by omega); have HB6 := ho16.keeps HB5 (by omega); obtain ⟨rz0, rz1, rz2⟩ := HD6.res.cells; have rzh := HD6.res.heap; have rzl := HD6.res.lt; have rf0 := HD6.res.frozen 0; have rf1 := HD6.res.frozen 1; have rf2 := HD6.res.frozen 2; obtain ⟨xz0, xz1, xz2⟩ := HD6.x.cells; have hXR : X ≠ w.heap.size := (by omega); clear ho16 hc16) | (go_at_call 93; first | (have qq := HD4; refine (GW.out _).mono ?_; rintro e w15 ⟨rfl, hw15⟩; have HD5 : DS wa w.heap.size (w.heap.size + 1) X (w.heap.size + 1 + 1) (w.heap.size + 1) (0 + 10000 + 2 + 2 + 2 + 2 * n2 + 2 * n2) (.slice ad l cc) c (.slice ga c.2.1.length gcap) (.slice oa c.2.2.length ocap) w15 := (by rw [hw15]; exact HD4.alloc _); have HA5 : w15.ownsRow (w.heap.size + 1 + 1) 3 1 (.slice ra1 t1.length rc1) t1.length (cellsI t1) := (by rw [hw15]; exact HA4.alloc _); have HB5 : w15.ownsRow (w.heap.size + 1 + 1) 3 1 (.slice ra2 t2.length rc2) t2.length (cellsI t2) := (by rw [hw15]; exact HB4.alloc _); clear hw15 qq) | (have qq := HD2; refine (GW.out _).mono ?_; rintro e w13 ⟨rfl, hw13⟩; have HD3x : DS wa w.heap.size (w.heap.size + 1) X (w.heap.size + 1 + 1) (w.heap.size + 1) (0 + 10000 + 2 + 2 + 2 + 2 * n2) (.slice ad l cc) c (.slice ga c.2.1.length gcap) (.slice oa c.2.2.length ocap) w13 := (by rw [hw13]; exact HD2.alloc _); have HA3 : w13.ownsRow (w.heap.size + 1 + 1) 3 1 (.slice ra1 t1.length rc1) t1.length (cellsI t1) := (by rw [hw13]; exact HA2.alloc _); clear hw13 qq) | (refine (GW.out _).mono ?_; rintro e w11 ⟨rfl, hw11⟩; have HD1 : DS wa w.heap.size (w.heap.size + 1) X (w.heap.size + 1 + 1) (w.heap.size + 1) (0 + 10000 + 2 + 2 + 2) (.slice ad l cc) c (.slice ga c.2.1.length gcap) (.slice oa c.2.2.length ocap) w11 := (by rw [hw11]; first | exact D3x.alloc _ | exact D3x.drew.alloc _); clear hw11)) | (go_at_call 92; first | (have qq := HD3x; refine (wires_any _ _ _ _ N (by omega) n2 (by omega) _ HD3x.cur (by omega)).mono ?_; rintro e w14 ⟨r2, t2, rfl, ht2, htb2, hr2, ho14, hc14⟩; have HT2 : Hid (t2.length = n2) := ht2; clear ht2 htb2; have HD4 := HD3x.only ho14 hc14 (by omega) (by omega) (by omega); have HA4 := ho14.keeps HA3 (by omega); have HB4 : w14.ownsRow (w.heap.size + 1 + 1) 3 1 r2 t2.length (cellsI t2) := own_base hr2 (by have := HD3x.on.size; omega); obtain ⟨ra2, rc2, hrr2⟩ := own_shape HB4; subst hrr2; clear ho14 hc14 hr2 qq) | (refine (wires_any _ _ _ _ N (by omega) n2 (by omega) _ HD1.cur (by omega)).mono ?_; rintro e w12 ⟨r1, t1, rfl, ht1, htb1, hr1, ho12, hc12⟩; have HT1 : Hid (t1.length = n2) := ht1; clear ht1 htb1; have HD2 := HD1.only ho12 hc12 (by omega) (by omega) (by omega); have HA2 : w12.ownsRow (w.heap.size + 1 + 1) 3 1 r1 t1.length (cellsI t1) := own_base hr1 (by have := HD1.on.size; omega); obtain ⟨ra1, rc1, hrr1⟩ := own_shape HA2; subst hrr1; clear ho12 hc12 hr1)))
    all_goals
      have hb6 : Below w.heap.size w w16 := hb1.trans (HD6.on.below (B := w.heap.size) (by omega) (by omega))
      have HZ : Hid _ := ((HD6.res.set0 (.int .i64 c.1)).set1 (.slice ga c.2.1.length gcap)).set2 (.slice oa c.2.2.length ocap)
      have hlo : w.heap.size < w.heap.size + 1 + 1 := by omega
      have sets := fun {e : TypeId} {s : Nat} {v : Value} {k : Nat} {xs : List Value} (ho : w16.ownsRow (w.heap.size + 1 + 1) e s v k xs) => own_set (b := w.heap.size) (o := 2) (u := .slice oa c.2.2.length ocap) (own_set (b := w.heap.size) (o := 1) (u := .slice ga c.2.1.length gcap) (own_set (b := w.heap.size) (o := 0) (u := .int .i64 c.1) ho hlo) hlo) hlo
      have HG : Hid _ := sets HD6.rows
      have HO : Hid _ := sets HD6.outs
      have HA : Hid _ := sets HA6
      have HB : Hid _ := sets HB6
      have HBl : Hid _ := ((hb6.setCell (p := ⟨w.heap.size, 0, none⟩) (Nat.le_refl _) (.int .i64 c.1)).setCell (p := ⟨w.heap.size, 1, none⟩) (Nat.le_refl _) (.slice ga c.2.1.length gcap)).setCell (p := ⟨w.heap.size, 2, none⟩) (Nat.le_refl _) (.slice oa c.2.2.length ocap)
      have hsmk : ∀ g ∈ c.2.1, GtOk g := fun g hg => smG_ok (hsm g hg) (by omega)
      clear sets HD6 HA6 HB6 HD5 HD4 HD3x HD2 HD1 D3x HA5 HA4 HA3 HA2 HB5 HB4 rz0 rz1 rz2 rzh rzl rf0 rf1 rf2 xz0 xz1 xz2 GW hb6
      go_wp2_with fail
      refine bodyPost_ret (results_c3 rfl _ _ w.heap.size 27 _ (0, 0) _ rfl HZ.out.heap Try.underlying27 rfl (by kernel_rfl)) rfl ?_
      have hfit : Fit c.1 := ⟨by omega, by omega⟩
      unfold AddOut
      refine ⟨_, _, _, c, t1, t2, kx, rfl, ⟨hfit, _, _, rfl, gates_of_own hsmk (by omega) HG.out, ints_of_own (by omega) HO.out, strong_of HG.out, strong_of HO.out⟩, ⟨ints_of_own (by have := HT1.out; omega) HA.out, strong_of HA.out⟩, ⟨ints_of_own (by have := HT2.out; omega) HB.out, strong_of HB.out⟩, ⟨by omega, by omega⟩, ⟨hfit, hsmk, by omega, by omega⟩, by have := HT1.out; omega, by have := HT2.out; omega, HBl.out⟩
end Go.Proofs.Ytpjllhlbdcanlaa
