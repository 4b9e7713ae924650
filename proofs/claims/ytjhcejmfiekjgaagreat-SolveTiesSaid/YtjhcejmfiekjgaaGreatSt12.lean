/- ShapeG Place -/
import Derived.Test.YtjhcejmfiekjgaaGreatSt1
import Derived.Test.YtjhcejmfiekjgaaGreatSt4
import Derived.Test.YtjhcejmfiekjgaaGreatSt11
import Derived.Deep.DeepCutAuto
set_option maxRecDepth 100000
set_option maxHeartbeats 64000000
/- The contract of the statements' seed: a circle, a box, some places of a ring. -/
namespace Go.Proofs.YtjhcejmfiekjgaaGreat.Fx
open Go.ChangeShapes Go.WideShapes Go.ChangeAt Go.RowKit
set_option linter.unusedVariables false
theorem and6 (x : Int) : bits .and .i64 x 63 = x % 64 := and_low x 6 (by omega)
theorem and5 (x : Int) : bits .and .i64 x 31 = x % 32 := and_low x 5 (by omega)
theorem and2 (x : Int) : bits .and .i64 x 3 = x % 4 := and_low x 2 (by omega)
def ringF : Cs := fun i => ringL.getD i (0, 0)
theorem ring_is (w : World) :
  Calls Tryz.prog 147 #[] w fun e w' => ∃ g, e = .returned (.slice (some ⟨g, 0, none⟩) 10 10) ∧ w.heap.size ≤ g ∧ Row w' g 26 10 ringF ∧ Made w.heap.size w w' := by
 go_enter Tryz.func147, Tryz.ntmps147
 go_wp2_with fail
 go_ret
 refine ⟨_, rfl, Nat.le_refl _, ⟨_, has_new _ _ _, by simp, fun j hj => ?_⟩, (Made.rfl_ _ _).cells (Nat.le_refl _) _ _⟩
 rcases (show j = 0 ∨ j = 1 ∨ j = 2 ∨ j = 3 ∨ j = 4 ∨ j = 5 ∨ j = 6 ∨ j = 7 ∨ j = 8 ∨ j = 9 ∨ j = 10 ∨ j = 11 ∨ j = 12 ∨ j = 13 ∨ j = 14 ∨ j = 15 ∨ j = 16 ∨ j = 17 ∨ j = 18 ∨ j = 19 by omega) with
  rfl | rfl | rfl | rfl | rfl | rfl | rfl | rfl | rfl | rfl | rfl | rfl | rfl | rfl | rfl | rfl | rfl | rfl | rfl | rfl <;> rfl
abbrev seedV (K N S T : Int) : Value := .agg #[.int .i64 K, .int .i64 N, .int .i64 S, .int .i64 T]
def SeedC (K N S T R : Int) : Prop := 268435456 ≤ R ∧ R ≤ 17179869184 ∧ ∀ w, Calls Tryz.prog 129 #[seedV K N S T] w fun e w' => e = .returned (shapeV 1 R (.slice none 0 0)) ∧ Made w.heap.size w w'
def SeedG (K N S T : Int) (n : Nat) (x y : Nat → Int) (k : Int) : Prop := Grid x y k n ∧ Around x y n ∧
 ∀ w, Calls Tryz.prog 129 #[seedV K N S T] w fun e w' => ∃ g c, e = .returned (shapeV 2 0 (.slice (some ⟨g, 0, none⟩) n c)) ∧ w.heap.size ≤ g ∧ Row w' g 26 n (grid x y k) ∧ Made w.heap.size w w'
def SeedQ (w : World) (e : Ending) (w' : World) : Prop :=
 ((∃ R, 268435456 ≤ R ∧ R ≤ 17179869184 ∧ e = .returned (shapeV 1 R (.slice none 0 0))) ∨
  (∃ g c n x y k, Grid x y k n ∧ Around x y n ∧ e = .returned (shapeV 2 0 (.slice (some ⟨g, 0, none⟩) n c)) ∧ w.heap.size ≤ g ∧ Row w' g 26 n (grid x y k))) ∧ Made w.heap.size w w'
def SeedP (w : World) (e : Ending) (w' : World) : Prop :=
 ((∃ R, 268435456 ≤ R ∧ R ≤ 17179869184 ∧ e = .returned (shapeV 1 R (.slice none 0 0))) ∨
  (∃ g c n x y k, Grid x y k n ∧ e = .returned (shapeV 2 0 (.slice (some ⟨g, 0, none⟩) n c)) ∧ w.heap.size ≤ g ∧ Row w' g 26 n (grid x y k))) ∧ Made w.heap.size w w'
theorem seed_circle (K N S T : Int) (h : K % 4 = 0) : ∃ R, SeedC K N S T R := by
 have aK := and2 K
 rw [h] at aK
 obtain ⟨s, es⟩ : ∃ s, S % 64 = s := ⟨_, rfl⟩
 have s0 : 0 ≤ s := by omega
 have s1 : s ≤ 63 := by omega
 have aS := and6 S
 rw [es] at aS
 clear es h
 obtain ⟨z, ez⟩ : ∃ z, ((1 + s) * 4294967296).tdiv 16 = z := ⟨_, rfl⟩
 have z0 : z = (1 + s) * 268435456 := by rw [← ez, Int.tdiv_eq_ediv_of_nonneg (by omega)]; omega
 have Z0 := hid z0
 have zb0 : 268435456 ≤ z := by omega
 have zb1 : z ≤ 17179869184 := by omega
 clear z0
 refine ⟨z, zb0, zb1, fun w => ?_⟩
 go_enter Tryz.func129, Tryz.ntmps129
 go_wp2_with fail
 refine bodyPost_ret (v := shapeV 1 z (.slice none 0 0)) (by simp [results, Tryz.results129, go_sem]) rfl ⟨rfl, ?_⟩
 ·exact ((Made.rfl_ _ _).cells (Nat.le_refl _) _ _).cells (by simp) _ _
theorem seed_box (K N S T : Int) (h : K % 4 = 1) : ∃ n x y k, SeedG K N S T n x y k := by
 have aK := and2 K
 rw [h] at aK
 obtain ⟨s, es⟩ : ∃ s, S % 64 = s := ⟨_, rfl⟩
 have s0 : 0 ≤ s := by omega
 have s1 : s ≤ 63 := by omega
 have aS := and6 S
 rw [es] at aS
 obtain ⟨t, et⟩ : ∃ t, T % 32 = t := ⟨_, rfl⟩
 have t0 : 0 ≤ t := by omega
 have t1 : t ≤ 31 := by omega
 have aT := and5 T
 rw [et] at aT
 clear es et h
 obtain ⟨z, ez⟩ : ∃ z, ((1 + s) * 4294967296).tdiv 16 = z := ⟨_, rfl⟩
 have z0 : z = (1 + s) * 268435456 := by rw [← ez, Int.tdiv_eq_ediv_of_nonneg (by omega)]; omega
 obtain ⟨y, ey⟩ : ∃ z, ((1 + t) * 4294967296).tdiv 16 = z := ⟨_, rfl⟩
 have y0 : y = (1 + t) * 268435456 := by rw [← ey, Int.tdiv_eq_ediv_of_nonneg (by omega)]; omega
 have iz : I64 z := by unfold I64; omega
 have iy : I64 y := by unfold I64; omega
 have gr := box_grid (a := 1 + s) (b := 1 + t) (by omega) (by omega) (by omega) (by omega)
 have hf : Hid (∀ i, i < 4 → boxF z y i = grid (boxX (1 + s)) (boxY (1 + t)) 64 i) := fun i hi => by
  have nz : negF z = -z := negR (by unfold Rg; omega)
  have ny : negF y = -y := negR (by unfold Rg; omega)
  unfold boxF grid boxX boxY
  rw [nz, ny]
  simp only [Prod.mk.injEq]
  constructor <;> split <;> omega
 have GR := hid gr
 have RR := hid (show Around (boxX (1 + s)) (boxY (1 + t)) 4 from ⟨box_round (a := 1 + s) (b := 1 + t) (by omega) (by omega), box_mid _ _, box_fat (by omega) (by omega)⟩)
 have zb0 : 268435456 ≤ z := by omega
 have zb1 : z ≤ 17179869184 := by omega
 have yb0 : 268435456 ≤ y := by omega
 have yb1 : y ≤ 17179869184 := by omega
 clear z0 y0 gr
 refine ⟨4, _, _, _, GR.out, RR.out, fun w => ?_⟩
 go_enter Tryz.func129, Tryz.ntmps129
 go_wp2_with fail
 refine (box_is z y _ _ iz iy hf.out).mono ?_
 rintro e w1 ⟨g, rfl, hg, hrow, k1⟩
 have r0 := k1.reads (p := ⟨w.heap.size + 1, 0, none⟩) (x := .int .i64 0) (by go_simp)
 have r1 := k1.reads (p := ⟨w.heap.size + 1, 1, none⟩) (x := .int .i64 0) (by go_simp)
 have r2 := k1.reads (p := ⟨w.heap.size + 1, 2, none⟩) (x := .slice none 0 0) (by go_simp)
 have n0 : w1.frozen? ⟨w.heap.size + 1, 0, none⟩ = false := (k1.2 _).trans (by go_simp)
 have n1 : w1.frozen? ⟨w.heap.size + 1, 1, none⟩ = false := (k1.2 _).trans (by go_simp)
 have n2 : w1.frozen? ⟨w.heap.size + 1, 2, none⟩ = false := (k1.2 _).trans (by go_simp)
 have HG : Hid (w.heap.size + 1 < g) := by unfold Hid; simp at hg; omega
 have M1 := hid (made_box (made_box k1))
 have HR := hid hrow
 clear k1 hg hrow
 go_wp2_with fail
 refine bodyPost_ret (v := shapeV 2 0 (.slice (some ⟨g, 0, none⟩) 4 4)) (by simp [results, Tryz.results129, go_sem, r0, r1, r2]) rfl ⟨g, 4, rfl, ?_, ?_, ?_⟩
 ·have := HG.out; omega
 ·have := HG.out
  exact ((HR.out.other _ (by simp; omega) _).other _ (by simp; omega) _).other _ (by simp; omega) _
 ·exact ((M1.out.put (by simp) _).put (by simp) _).put (by simp) _
theorem seed_ring (K N S T : Int) (h0 : K % 4 ≠ 0) (h1 : K % 4 ≠ 1) : ∃ n x y k, SeedG K N S T n x y k := by
 obtain ⟨k, ek⟩ : ∃ k, K % 4 = k := ⟨_, rfl⟩
 have aK := and2 K
 rw [ek] at aK h0 h1
 have k0 : (k == 0) = false := by simpa using h0
 have k1 : (k == 1) = false := by simpa using h1
 obtain ⟨s, es⟩ : ∃ s, S % 64 = s := ⟨_, rfl⟩
 have s0 : 0 ≤ s := by omega
 have s1 : s ≤ 63 := by omega
 have aS := and6 S
 rw [es] at aS
 obtain ⟨v, ev⟩ : ∃ v, N % 256 = v := ⟨_, rfl⟩
 have v0 : 0 ≤ v := by omega
 have v1 : v ≤ 255 := by omega
 have aN := and8 N
 rw [ev] at aN
 obtain ⟨t, et⟩ : ∃ t : Nat, T % 256 = (t : Int) := ⟨(T % 256).toNat, by omega⟩
 have t1 : t ≤ 255 := by omega
 have aT := and8 T
 rw [et] at aT
 clear es et ev ek h0 h1
 obtain ⟨z, ez⟩ : ∃ z, ((1 + s) * 4294967296).tdiv 16 = z := ⟨_, rfl⟩
 have z0 : z = (1 + s) * 268435456 := by rw [← ez, Int.tdiv_eq_ediv_of_nonneg (by omega)]; omega
 obtain ⟨n, en⟩ : ∃ n : Nat, 3 + v % 6 = (n : Int) := ⟨(3 + v % 6).toNat, by omega⟩
 have en' : 3 + v.tmod 6 = (n : Int) := by rw [Int.tmod_eq_emod_of_nonneg (by omega)]; exact en
 have n0 : 3 ≤ n := by omega
 have n1 : n ≤ 8 := by omega
 have GR := hid (ring_grid (k := 1 + s) t (by omega) (by omega) n0 n1)
 have RR := hid (show Around (ringX n t) (ringY n t) n from ⟨ring_round t n0 n1, ring_mid t n0 n1, ring_fat t n0 n1⟩)
 have GB := hid (ring_grid (k := 1) t (by omega) (by omega) n0 n1)
 have Z0 := hid z0
 have zb0 : 268435456 ≤ z := by omega
 have zb1 : z ≤ 17179869184 := by omega
 obtain ⟨i0, hi, hz0, hz1, hz2⟩ := info_parts info_V
 have iHi := hid hi; have iH0 := hid hz0; have iH1 := hid hz1; have iH2 := hid hz2
 clear z0 hi hz0 hz1 hz2
 refine ⟨n, _, _, _, GR.out, RR.out, fun w => ?_⟩
 go_enter Tryz.func129, Tryz.ntmps129
 go_wp2_with fail
 refine (ring_is _).mono ?_
 rintro e w1 ⟨rg, rfl, hg, hrow, k1⟩
 have x3 := k1.reads (p := ⟨w.heap.size, 3, none⟩) (x := .int .i64 T) (by go_simp)
 have r0 := k1.reads (p := ⟨w.heap.size + 1, 0, none⟩) (x := .int .i64 0) (by go_simp)
 have r1 := k1.reads (p := ⟨w.heap.size + 1, 1, none⟩) (x := .int .i64 0) (by go_simp)
 have r2 := k1.reads (p := ⟨w.heap.size + 1, 2, none⟩) (x := .slice none 0 0) (by go_simp)
 have rf : Hid (∀ i, w1.frozen? ⟨w.heap.size + 1, i, none⟩ = false) := fun i => (k1.2 _).trans (by go_simp)
 have o0 : Has w1 (w.heap.size + 1 + 1) 41 #[.int .i64 2, .int .i64 0, .slice none 0 0] := by
  refine Has.stays ?_ k1 (by simp)
  simpa using has_new ((w.alloc (.cells #[.int .i64 K, .int .i64 N, .int .i64 S, .int .i64 T] 70)).alloc (.cells #[.int .i64 0, .int .i64 0, .slice none 0 0] 41)) 41 #[.int .i64 2, .int .i64 0, .slice none 0 0]
 have M1 : Hid (Made w.heap.size w w1) := made_box (made_box (made_box k1))
 have hrg : w.heap.size + 1 + 1 < rg := by simp at hg; omega
 obtain ⟨H, eH⟩ : ∃ H, w.heap.size = H := ⟨_, rfl⟩
 obtain ⟨H1, e1⟩ : ∃ H1, H + 1 = H1 := ⟨_, rfl⟩
 obtain ⟨O, eO⟩ : ∃ O, H1 + 1 = O := ⟨_, rfl⟩
 rw [eH] at x3
 rw [eH, e1] at r0 r1 r2 rf
 rw [eH, e1, eO] at o0 hrg
 have R1 := hid hrow
 have hrg1 := hrow.here
 have OO := hid o0
 have X3 := hid x3; have Q0 := hid r0; have Q1 := hid r1; have Q2 := hid r2
 have lt1 : H < H1 := by omega
 have lt2 : H1 < O := by omega
 have lt0 : H < O := by omega
 have EH := hid eH
 clear k1 hg hrow x3 r0 r1 r2 o0
 go_wp2_with fail
 clear eH e1 eO
 go_loopg [40] n (fun g i wr => ∃ (m : Nat) (v : Value), m + g = n ∧ i = .int .i64 m ∧ Hid (Has wr O 41 #[.int .i64 2, .int .i64 0, v]) ∧ Hid (Row wr rg 26 10 ringF) ∧
  Hid (wr.ownsRow w1.heap.size 26 2 v m (flat (grid (ringX n t) (ringY n t) (1 + s)) m)) ∧ Hid (Made O w1 wr))
 case atStart => exact ⟨0, _, by omega, rfl, OO, R1, World.ownsRow_nil _ _ _ _, Made.rfl_ _ _⟩
 case round =>
  obtain ⟨m, sv, hm, rfl, HO, HR, HW, HM⟩ := hrel
  by_cases hlt : m < n
  ·obtain ⟨q, eq⟩ : ∃ q, m * 10 / n = q := ⟨_, rfl⟩
   have q1 : q ≤ 80 := by rw [← eq]; exact Nat.le_trans (Nat.div_le_self _ _) (by omega)
   have e2' : ((m : Int) * 10) / (n : Int) = (q : Int) := by rw [← eq, Int.natCast_ediv, Int.natCast_mul]; rfl
   have e2 : ((m : Int) * 10).tdiv (n : Int) = (q : Int) := by rw [Int.tdiv_eq_ediv_of_nonneg (by omega)]; exact e2'
   obtain ⟨j, ej⟩ : ∃ j, (q + t) % 10 = j := ⟨_, rfl⟩
   have j1 : j < 10 := by omega
   have e3' : ((q : Int) + (t : Int)) % 10 = (j : Int) := by omega
   have e3 : ((q : Int) + (t : Int)).tmod 10 = (j : Int) := by rw [Int.tmod_eq_emod_of_nonneg (by omega)]; exact e3'
   obtain ⟨x, ex⟩ : ∃ x, (ringF j).1 = x := ⟨_, rfl⟩
   obtain ⟨y, ey⟩ : ∃ y, (ringF j).2 = y := ⟨_, rfl⟩
   have gx : ringX n t m = x := by unfold ringX; rw [eq, ej]; exact ex
   have gy : ringY n t m = y := by unfold ringY; rw [eq, ej]; exact ey
   have bx := GB.out.xb m hlt
   have b_y := GB.out.yb m hlt
   rw [gx] at bx
   rw [gy] at b_y
   obtain ⟨c0, c1⟩ := HR.out.pts j j1
   rw [ex, Nat.zero_add] at c0
   rw [ey, Nat.zero_add] at c1
   have px := prod_in (x := x) (y := z) (X := 65) (Y := 17179869184) (by omega) (by omega) (by omega) (by omega)
   have py := prod_in (x := y) (y := z) (X := 65) (Y := 17179869184) (by omega) (by omega) (by omega) (by omega)
   obtain ⟨X, eX⟩ : ∃ X, x * z = X := ⟨_, rfl⟩
   obtain ⟨Y, eY⟩ : ∃ Y, y * z = Y := ⟨_, rfl⟩
   rw [eX] at px
   rw [eY] at py
   obtain ⟨px0, px1⟩ := px
   obtain ⟨py0, py1⟩ := py
   obtain ⟨X', eX'⟩ : ∃ X', X.tdiv 64 = X' := ⟨_, rfl⟩
   obtain ⟨Y', eY'⟩ : ∃ Y', Y.tdiv 64 = Y' := ⟨_, rfl⟩
   have fX : X' = x * ((1 + s) * 4194304) := by
    have : X = x * ((1 + s) * 4194304) * 64 := by rw [← eX, Z0.out, Int.mul_assoc]; congr 1; omega
    rw [← eX', this, Int.mul_tdiv_cancel _ (by omega)]
   have fY : Y' = y * ((1 + s) * 4194304) := by
    have : Y = y * ((1 + s) * 4194304) * 64 := by rw [← eY, Z0.out, Int.mul_assoc]; congr 1; omega
    rw [← eY', this, Int.mul_tdiv_cancel _ (by omega)]
   have kz := prod_in (x := x) (y := (1 + s) * 4194304) (X := 65) (Y := 268435456) (by omega) (by omega) (by omega) (by omega)
   have ky := prod_in (x := y) (y := (1 + s) * 4194304) (X := 65) (Y := 268435456) (by omega) (by omega) (by omega) (by omega)
   rw [← fX] at kz
   rw [← fY] at ky
   obtain ⟨kx0, kx1⟩ := kz
   obtain ⟨ky0, ky1⟩ := ky
   have HX : Hid ((grid (ringX n t) (ringY n t) (1 + s) m).1 = X') := by unfold Hid grid; simp only []; rw [gx, fX]
   have HY : Hid ((grid (ringX n t) (ringY n t) (1 + s) m).2 = Y') := by unfold Hid grid; simp only []; rw [gy, fY]
   have x3 := HM.out.at_ (by exact lt0) X3.out
   have hrs := HR.out.here
   have hOs := HO.out.here
   have hnz : (n : Int) ≠ 0 := by omega
   clear bx b_y fX fY gx gy ex ey eq ej
   go_wp2_with fail
   refine reg_float1 12 73 8 26 #[.int .i64 0, .int .i64 0] _ (by kernel_rfl) (by kernel_rfl) (by kernel_rfl) rfl rfl alc_V ?_
   apply Exists.intro
   refine ⟨?h1, ?h2⟩
   case h1 =>
    intro T' hT fw hf
    have b0 := Class.reads hf c0
    have b1 := Class.reads hf c1
    have b2 := Class.reads hf x3
    simp only [List.take_succ_cons, List.take_zero]
    repeat (go_big_quiet_step (fail))
    exact wpQuiet_nil rfl
   intro g w3 k3 hg hh
   have hOg : O < g := by omega
   have O3 := HO.out.stays k3 hOs
   have R3 := HR.out.kept k3
   have W3 := own_stays HW.out k3
   have M3 : Hid (Made O w1 w3) := HM.out.then_ (k3.low (Nat.le_of_lt hOs))
   have hs1 : w1.heap.size ≤ wr.heap.size := HM.out.1.size
   have z0 := hh.at_ 0
   have z1 := hh.at_ 1
   simp at z0 z1
   have zf : ∀ i, w3.frozen? ⟨g, i, none⟩ = false := fun i => hh.free i
   have hgs := hh.here
   obtain ⟨V1, eV⟩ : ∃ W, W = (w3.setCell ⟨g, 0, none⟩ (.int .i64 x)).setCell ⟨g, 1, none⟩ (.int .i64 y) := ⟨_, rfl⟩
   have O4 : Hid (Has V1 O 41 #[.int .i64 2, .int .i64 0, sv]) := by unfold Hid; rw [eV]; exact (O3.other _ (by simp; omega) _).other _ (by simp; omega) _
   have R4 : Hid (Row V1 rg 26 10 ringF) := by unfold Hid; rw [eV]; exact (R3.other _ (by simp; omega) _).other _ (by simp; omega) _
   have hsv : ∀ b, sv.ownBlock = some b → b < wr.heap.size := fun b hb => (HW.out.lt b hb).2
   have W4 : Hid (V1.ownsRow w1.heap.size 26 2 sv m (flat (grid (ringX n t) (ringY n t) (1 + s)) m)) := by
    unfold Hid; rw [eV]
    have ne : ∀ i, sv.ownBlock ≠ some (Addr.block ⟨g, i, none⟩) := fun i e => by
     have := hsv _ e
     simp at this
     omega
    exact own_other (own_other W3 (ne 0) _) (ne 1) _
   have M4 : Hid (Made O w1 V1) := by unfold Hid; rw [eV]; exact (M3.out.put (by simp; omega) _).put (by simp; omega) _
   have v0 : V1.cell? ⟨g, 0, none⟩ = some (.int .i64 x) := by rw [eV]; go_simp
   have v1 : V1.cell? ⟨g, 1, none⟩ = some (.int .i64 y) := by rw [eV]; go_simp
   have sz4 : V1.heap.size = w3.heap.size := by rw [eV]; simp
   have hw3 : w1.heap.size ≤ V1.heap.size := by have := k3.1.size; omega
   have u2 := O4.out.at_ 2
   simp at u2
   clear k3 hh hg O3 R3 W3 c0 c1 x3
   simp only [List.drop_succ_cons, List.drop_zero]
   go_upto_region 14 with fail
   rw [← eV]
   clear eV z0 z1 zf sz4
   have hOw : ∀ b, sv.ownBlock = some b → w1.heap.size ≤ b := fun b hb => (HW.out.lt b hb).1
   have HOW := hid hOw
   have HSV := hid hsv
   clear hOw hsv
   go_wp2_with (at_builtin; refine wpList_append_made _ rfl (.tmp 56) (.tmp 68) 39 rfl w1.heap.size 26 i0 (.agg #[.int .i64 0, .int .i64 0]) 2 16 Tryz.underlying39 iHi.out iH0.out iH1.out iH2.out rfl (by decide) sv m (flat (grid (ringX n t) (ringY n t) (1 + s)) m) rfl (W4.out.alloc _) ⟨V1.heap.size, 0, none⟩ 1 1 [.int .i64 X', .int .i64 Y'] rfl rfl (news_pair _ _ _ _) (pair_one _ _) (by unfold maxLen; omega) (by omega) (by simp; omega) (by omega) ?_)
   intro v' w2 hown hgr hfr
   rw [flat_next _ m HX.out HY.out] at hown
   obtain ⟨g', cap', rfl, hgb, _, _, _⟩ := Row.of_own hown (by omega)
   have neO : some O ≠ sv.ownBlock := fun e => by have := HOW.out O e.symm; omega
   have neR : some rg ≠ sv.ownBlock := fun e => by have := HOW.out rg e.symm; omega
   have O6 : Hid (Has w2 O 41 #[.int .i64 2, .int .i64 0, sv]) := (O4.out.more _).app hgr neO
   have R6 : Hid (Row w2 rg 26 10 ringF) := (R4.out.more _).app hgr neR
   have M6 : Hid (Made O w1 w2) := (M4.out.cells (by omega) _ _).app hgr hfr (by simp; omega) (fun k hk => by have := HOW.out k hk; omega)
   have W6 := hid hown
   have y2 := O6.out.at_ 2
   simp at y2
   have fz := O6.out.free 2
   clear hown hgr hfr
   go_wp2_with fail
   go_roundg (n - m - 1)
   case rel =>
    refine ⟨m + 1, _, by omega, by go_num, O6.out.put 2 _, R6.out.other _ (by simp; omega) _, ownsRow_setCell_below W6.out (by simp; omega) _, M6.out.put (by simp) _⟩
   case measure => omega
  ·have e : m = n := by omega
   subst e
   obtain ⟨g, cap, rfl, hgb, hgc, hgm, hrow⟩ := Row.of_own HW.out (by omega)
   have y0 := HO.out.at_ 0
   have y1 := HO.out.at_ 1
   have y2 := HO.out.at_ 2
   simp at y0 y1 y2
   have q0 := HM.out.at_ (by exact lt2) Q0.out
   have q1 := HM.out.at_ (by exact lt2) Q1.out
   have q2 := HM.out.at_ (by exact lt2) Q2.out
   have f0 : ∀ i, wr.frozen? ⟨H1, i, none⟩ = false := fun i => (HM.out.2 _).trans (rf.out i)
   have RW := hid hrow
   have HG : Hid (rg < g) := by unfold Hid; omega
   clear hgb hgc hgm hrow
   go_wp2_with fail
   refine bodyPost_ret (v := shapeV 2 0 (.slice (some ⟨g, 0, none⟩) m cap)) (by simp [results, Tryz.results129, go_sem, q0, q1, q2]) rfl ⟨g, cap, rfl, ?_, ?_, ?_⟩
   ·have h1 := HG.out
    have h2 := EH.out
    omega
   ·have h1 := HG.out
    exact ((RW.out.other _ (by simp; omega) _).other _ (by simp; omega) _).other _ (by simp; omega) _
   ·have h2 := EH.out
    exact (((M1.out.then_ (HM.out.low (by omega))).put (by simp; omega) _).put (by simp; omega) _).put (by simp; omega) _
theorem seed_det (K N S T : Int) : (∃ R, SeedC K N S T R) ∨ ∃ n x y k, SeedG K N S T n x y k := by
 by_cases h0 : K % 4 = 0
 ·exact .inl (seed_circle K N S T h0)
 ·by_cases h1 : K % 4 = 1
  ·exact .inr (seed_box K N S T h1)
  ·exact .inr (seed_ring K N S T h0 h1)
end Go.Proofs.YtjhcejmfiekjgaaGreat.Fx
/- The contract of the statements' place: a body of a seed's shape, with a place and an angle. -/
namespace Go.Proofs.YtjhcejmfiekjgaaGreat.Fx
open Go.ChangeShapes Go.WideShapes Go.ChangeAt Go.RowKit
set_option linter.unusedVariables false
theorem Has.put11 {w : World} {g : Nat} {t : TypeId} {c0 c1 c2 c3 c4 c5 c6 c7 c8 c9 c10 : Value} (h : Has w g t #[c0, c1, c2, c3, c4, c5, c6, c7, c8, c9, c10]) (v0 v1 v2 v3 v4 v5 v6 v7 v8 v9 v10 : Value) :
  Has (((((((((((w.setCell ⟨g, 0, none⟩ v0).setCell ⟨g, 1, none⟩ v1).setCell ⟨g, 2, none⟩ v2).setCell ⟨g, 3, none⟩ v3).setCell ⟨g, 4, none⟩ v4).setCell ⟨g, 5, none⟩ v5).setCell ⟨g, 6, none⟩ v6).setCell ⟨g, 7, none⟩ v7).setCell ⟨g, 8, none⟩ v8).setCell ⟨g, 9, none⟩ v9).setCell ⟨g, 10, none⟩ v10) g t #[v0, v1, v2, v3, v4, v5, v6, v7, v8, v9, v10] := by
 have h1 : Has (w.setCell ⟨g, 0, none⟩ v0) g t #[v0, c1, c2, c3, c4, c5, c6, c7, c8, c9, c10] := h.put 0 v0
 have h2 : Has ((w.setCell ⟨g, 0, none⟩ v0).setCell ⟨g, 1, none⟩ v1) g t #[v0, v1, c2, c3, c4, c5, c6, c7, c8, c9, c10] := h1.put 1 v1
 have h3 : Has (((w.setCell ⟨g, 0, none⟩ v0).setCell ⟨g, 1, none⟩ v1).setCell ⟨g, 2, none⟩ v2) g t #[v0, v1, v2, c3, c4, c5, c6, c7, c8, c9, c10] := h2.put 2 v2
 have h4 : Has ((((w.setCell ⟨g, 0, none⟩ v0).setCell ⟨g, 1, none⟩ v1).setCell ⟨g, 2, none⟩ v2).setCell ⟨g, 3, none⟩ v3) g t #[v0, v1, v2, v3, c4, c5, c6, c7, c8, c9, c10] := h3.put 3 v3
 have h5 : Has (((((w.setCell ⟨g, 0, none⟩ v0).setCell ⟨g, 1, none⟩ v1).setCell ⟨g, 2, none⟩ v2).setCell ⟨g, 3, none⟩ v3).setCell ⟨g, 4, none⟩ v4) g t #[v0, v1, v2, v3, v4, c5, c6, c7, c8, c9, c10] := h4.put 4 v4
 have h6 : Has ((((((w.setCell ⟨g, 0, none⟩ v0).setCell ⟨g, 1, none⟩ v1).setCell ⟨g, 2, none⟩ v2).setCell ⟨g, 3, none⟩ v3).setCell ⟨g, 4, none⟩ v4).setCell ⟨g, 5, none⟩ v5) g t #[v0, v1, v2, v3, v4, v5, c6, c7, c8, c9, c10] := h5.put 5 v5
 have h7 : Has (((((((w.setCell ⟨g, 0, none⟩ v0).setCell ⟨g, 1, none⟩ v1).setCell ⟨g, 2, none⟩ v2).setCell ⟨g, 3, none⟩ v3).setCell ⟨g, 4, none⟩ v4).setCell ⟨g, 5, none⟩ v5).setCell ⟨g, 6, none⟩ v6) g t #[v0, v1, v2, v3, v4, v5, v6, c7, c8, c9, c10] := h6.put 6 v6
 have h8 : Has ((((((((w.setCell ⟨g, 0, none⟩ v0).setCell ⟨g, 1, none⟩ v1).setCell ⟨g, 2, none⟩ v2).setCell ⟨g, 3, none⟩ v3).setCell ⟨g, 4, none⟩ v4).setCell ⟨g, 5, none⟩ v5).setCell ⟨g, 6, none⟩ v6).setCell ⟨g, 7, none⟩ v7) g t #[v0, v1, v2, v3, v4, v5, v6, v7, c8, c9, c10] := h7.put 7 v7
 have h9 : Has (((((((((w.setCell ⟨g, 0, none⟩ v0).setCell ⟨g, 1, none⟩ v1).setCell ⟨g, 2, none⟩ v2).setCell ⟨g, 3, none⟩ v3).setCell ⟨g, 4, none⟩ v4).setCell ⟨g, 5, none⟩ v5).setCell ⟨g, 6, none⟩ v6).setCell ⟨g, 7, none⟩ v7).setCell ⟨g, 8, none⟩ v8) g t #[v0, v1, v2, v3, v4, v5, v6, v7, v8, c9, c10] := h8.put 8 v8
 have h10 : Has ((((((((((w.setCell ⟨g, 0, none⟩ v0).setCell ⟨g, 1, none⟩ v1).setCell ⟨g, 2, none⟩ v2).setCell ⟨g, 3, none⟩ v3).setCell ⟨g, 4, none⟩ v4).setCell ⟨g, 5, none⟩ v5).setCell ⟨g, 6, none⟩ v6).setCell ⟨g, 7, none⟩ v7).setCell ⟨g, 8, none⟩ v8).setCell ⟨g, 9, none⟩ v9) g t #[v0, v1, v2, v3, v4, v5, v6, v7, v8, v9, c10] := h9.put 9 v9
 have h11 : Has (((((((((((w.setCell ⟨g, 0, none⟩ v0).setCell ⟨g, 1, none⟩ v1).setCell ⟨g, 2, none⟩ v2).setCell ⟨g, 3, none⟩ v3).setCell ⟨g, 4, none⟩ v4).setCell ⟨g, 5, none⟩ v5).setCell ⟨g, 6, none⟩ v6).setCell ⟨g, 7, none⟩ v7).setCell ⟨g, 8, none⟩ v8).setCell ⟨g, 9, none⟩ v9).setCell ⟨g, 10, none⟩ v10) g t #[v0, v1, v2, v3, v4, v5, v6, v7, v8, v9, v10] := h10.put 10 v10
 exact h11
theorem Made.put11 {B : Nat} {a w : World} {g : Nat} (h : Made B a w) (hg : B ≤ g) (v0 v1 v2 v3 v4 v5 v6 v7 v8 v9 v10 : Value) : Made B a (((((((((((w.setCell ⟨g, 0, none⟩ v0).setCell ⟨g, 1, none⟩ v1).setCell ⟨g, 2, none⟩ v2).setCell ⟨g, 3, none⟩ v3).setCell ⟨g, 4, none⟩ v4).setCell ⟨g, 5, none⟩ v5).setCell ⟨g, 6, none⟩ v6).setCell ⟨g, 7, none⟩ v7).setCell ⟨g, 8, none⟩ v8).setCell ⟨g, 9, none⟩ v9).setCell ⟨g, 10, none⟩ v10) := by
 have h1 : Made B a (w.setCell ⟨g, 0, none⟩ v0) := h.put (p := ⟨g, 0, none⟩) hg v0
 have h2 : Made B a ((w.setCell ⟨g, 0, none⟩ v0).setCell ⟨g, 1, none⟩ v1) := h1.put (p := ⟨g, 1, none⟩) hg v1
 have h3 : Made B a (((w.setCell ⟨g, 0, none⟩ v0).setCell ⟨g, 1, none⟩ v1).setCell ⟨g, 2, none⟩ v2) := h2.put (p := ⟨g, 2, none⟩) hg v2
 have h4 : Made B a ((((w.setCell ⟨g, 0, none⟩ v0).setCell ⟨g, 1, none⟩ v1).setCell ⟨g, 2, none⟩ v2).setCell ⟨g, 3, none⟩ v3) := h3.put (p := ⟨g, 3, none⟩) hg v3
 have h5 : Made B a (((((w.setCell ⟨g, 0, none⟩ v0).setCell ⟨g, 1, none⟩ v1).setCell ⟨g, 2, none⟩ v2).setCell ⟨g, 3, none⟩ v3).setCell ⟨g, 4, none⟩ v4) := h4.put (p := ⟨g, 4, none⟩) hg v4
 have h6 : Made B a ((((((w.setCell ⟨g, 0, none⟩ v0).setCell ⟨g, 1, none⟩ v1).setCell ⟨g, 2, none⟩ v2).setCell ⟨g, 3, none⟩ v3).setCell ⟨g, 4, none⟩ v4).setCell ⟨g, 5, none⟩ v5) := h5.put (p := ⟨g, 5, none⟩) hg v5
 have h7 : Made B a (((((((w.setCell ⟨g, 0, none⟩ v0).setCell ⟨g, 1, none⟩ v1).setCell ⟨g, 2, none⟩ v2).setCell ⟨g, 3, none⟩ v3).setCell ⟨g, 4, none⟩ v4).setCell ⟨g, 5, none⟩ v5).setCell ⟨g, 6, none⟩ v6) := h6.put (p := ⟨g, 6, none⟩) hg v6
 have h8 : Made B a ((((((((w.setCell ⟨g, 0, none⟩ v0).setCell ⟨g, 1, none⟩ v1).setCell ⟨g, 2, none⟩ v2).setCell ⟨g, 3, none⟩ v3).setCell ⟨g, 4, none⟩ v4).setCell ⟨g, 5, none⟩ v5).setCell ⟨g, 6, none⟩ v6).setCell ⟨g, 7, none⟩ v7) := h7.put (p := ⟨g, 7, none⟩) hg v7
 have h9 : Made B a (((((((((w.setCell ⟨g, 0, none⟩ v0).setCell ⟨g, 1, none⟩ v1).setCell ⟨g, 2, none⟩ v2).setCell ⟨g, 3, none⟩ v3).setCell ⟨g, 4, none⟩ v4).setCell ⟨g, 5, none⟩ v5).setCell ⟨g, 6, none⟩ v6).setCell ⟨g, 7, none⟩ v7).setCell ⟨g, 8, none⟩ v8) := h8.put (p := ⟨g, 8, none⟩) hg v8
 have h10 : Made B a ((((((((((w.setCell ⟨g, 0, none⟩ v0).setCell ⟨g, 1, none⟩ v1).setCell ⟨g, 2, none⟩ v2).setCell ⟨g, 3, none⟩ v3).setCell ⟨g, 4, none⟩ v4).setCell ⟨g, 5, none⟩ v5).setCell ⟨g, 6, none⟩ v6).setCell ⟨g, 7, none⟩ v7).setCell ⟨g, 8, none⟩ v8).setCell ⟨g, 9, none⟩ v9) := h9.put (p := ⟨g, 9, none⟩) hg v9
 have h11 : Made B a (((((((((((w.setCell ⟨g, 0, none⟩ v0).setCell ⟨g, 1, none⟩ v1).setCell ⟨g, 2, none⟩ v2).setCell ⟨g, 3, none⟩ v3).setCell ⟨g, 4, none⟩ v4).setCell ⟨g, 5, none⟩ v5).setCell ⟨g, 6, none⟩ v6).setCell ⟨g, 7, none⟩ v7).setCell ⟨g, 8, none⟩ v8).setCell ⟨g, 9, none⟩ v9).setCell ⟨g, 10, none⟩ v10) := h10.put (p := ⟨g, 10, none⟩) hg v10
 exact h11
theorem Row.other11 {w : World} {g b n : Nat} {t : TypeId} {f : Cs} (h : Row w g t n f) (hg : g ≠ b) (v0 v1 v2 v3 v4 v5 v6 v7 v8 v9 v10 : Value) : Row (((((((((((w.setCell ⟨b, 0, none⟩ v0).setCell ⟨b, 1, none⟩ v1).setCell ⟨b, 2, none⟩ v2).setCell ⟨b, 3, none⟩ v3).setCell ⟨b, 4, none⟩ v4).setCell ⟨b, 5, none⟩ v5).setCell ⟨b, 6, none⟩ v6).setCell ⟨b, 7, none⟩ v7).setCell ⟨b, 8, none⟩ v8).setCell ⟨b, 9, none⟩ v9).setCell ⟨b, 10, none⟩ v10) g t n f := by
 have h1 : Row (w.setCell ⟨b, 0, none⟩ v0) g t n f := h.other ⟨b, 0, none⟩ hg v0
 have h2 : Row ((w.setCell ⟨b, 0, none⟩ v0).setCell ⟨b, 1, none⟩ v1) g t n f := h1.other ⟨b, 1, none⟩ hg v1
 have h3 : Row (((w.setCell ⟨b, 0, none⟩ v0).setCell ⟨b, 1, none⟩ v1).setCell ⟨b, 2, none⟩ v2) g t n f := h2.other ⟨b, 2, none⟩ hg v2
 have h4 : Row ((((w.setCell ⟨b, 0, none⟩ v0).setCell ⟨b, 1, none⟩ v1).setCell ⟨b, 2, none⟩ v2).setCell ⟨b, 3, none⟩ v3) g t n f := h3.other ⟨b, 3, none⟩ hg v3
 have h5 : Row (((((w.setCell ⟨b, 0, none⟩ v0).setCell ⟨b, 1, none⟩ v1).setCell ⟨b, 2, none⟩ v2).setCell ⟨b, 3, none⟩ v3).setCell ⟨b, 4, none⟩ v4) g t n f := h4.other ⟨b, 4, none⟩ hg v4
 have h6 : Row ((((((w.setCell ⟨b, 0, none⟩ v0).setCell ⟨b, 1, none⟩ v1).setCell ⟨b, 2, none⟩ v2).setCell ⟨b, 3, none⟩ v3).setCell ⟨b, 4, none⟩ v4).setCell ⟨b, 5, none⟩ v5) g t n f := h5.other ⟨b, 5, none⟩ hg v5
 have h7 : Row (((((((w.setCell ⟨b, 0, none⟩ v0).setCell ⟨b, 1, none⟩ v1).setCell ⟨b, 2, none⟩ v2).setCell ⟨b, 3, none⟩ v3).setCell ⟨b, 4, none⟩ v4).setCell ⟨b, 5, none⟩ v5).setCell ⟨b, 6, none⟩ v6) g t n f := h6.other ⟨b, 6, none⟩ hg v6
 have h8 : Row ((((((((w.setCell ⟨b, 0, none⟩ v0).setCell ⟨b, 1, none⟩ v1).setCell ⟨b, 2, none⟩ v2).setCell ⟨b, 3, none⟩ v3).setCell ⟨b, 4, none⟩ v4).setCell ⟨b, 5, none⟩ v5).setCell ⟨b, 6, none⟩ v6).setCell ⟨b, 7, none⟩ v7) g t n f := h7.other ⟨b, 7, none⟩ hg v7
 have h9 : Row (((((((((w.setCell ⟨b, 0, none⟩ v0).setCell ⟨b, 1, none⟩ v1).setCell ⟨b, 2, none⟩ v2).setCell ⟨b, 3, none⟩ v3).setCell ⟨b, 4, none⟩ v4).setCell ⟨b, 5, none⟩ v5).setCell ⟨b, 6, none⟩ v6).setCell ⟨b, 7, none⟩ v7).setCell ⟨b, 8, none⟩ v8) g t n f := h8.other ⟨b, 8, none⟩ hg v8
 have h10 : Row ((((((((((w.setCell ⟨b, 0, none⟩ v0).setCell ⟨b, 1, none⟩ v1).setCell ⟨b, 2, none⟩ v2).setCell ⟨b, 3, none⟩ v3).setCell ⟨b, 4, none⟩ v4).setCell ⟨b, 5, none⟩ v5).setCell ⟨b, 6, none⟩ v6).setCell ⟨b, 7, none⟩ v7).setCell ⟨b, 8, none⟩ v8).setCell ⟨b, 9, none⟩ v9) g t n f := h9.other ⟨b, 9, none⟩ hg v9
 have h11 : Row (((((((((((w.setCell ⟨b, 0, none⟩ v0).setCell ⟨b, 1, none⟩ v1).setCell ⟨b, 2, none⟩ v2).setCell ⟨b, 3, none⟩ v3).setCell ⟨b, 4, none⟩ v4).setCell ⟨b, 5, none⟩ v5).setCell ⟨b, 6, none⟩ v6).setCell ⟨b, 7, none⟩ v7).setCell ⟨b, 8, none⟩ v8).setCell ⟨b, 9, none⟩ v9).setCell ⟨b, 10, none⟩ v10) g t n f := h10.other ⟨b, 10, none⟩ hg v10
 exact h11
def alP (n : Nat) (F : Cs) (i : Nat) (v : World) (g : Nat) : Prop := Row v g 26 n F
def valP (n : Nat) (i g e : Nat) : Value := shapeV 2 0 (.slice (some ⟨g, 0, none⟩) n e)
theorem alP_lasts (n : Nat) (F : Cs) : Lasts (alP n F) := fun i u v g h hg k => h.stays k hg
abbrev placeV (K N S T x y an : Int) : Value := .agg #[.int .i64 K, .int .i64 N, .int .i64 S, .int .i64 T, .int .i64 x, .int .i64 y, .int .i64 an]
def thou (x : Int) : Int := bringF x (negF 4294967296000) 4294967296000
theorem thou_bd {x : Int} (h : I64 x) : -4294967296000 ≤ thou x ∧ thou x ≤ 4294967296000 := by
 unfold thou
 rw [negF_in (by omega)]
 exact ⟨(bring_around h (by omega) (by omega)).1, (bring_around h (by omega) (by omega)).2.1⟩
theorem place_circle {K N S T R : Int} (h : SeedC K N S T R) (x y an X Y A : Int) (w : World) (hx : I64 x) (hy : I64 y) (eX : thou x = X) (eY : thou y = Y) (eA : an % 4294967296 = A) :
  Calls Tryz.prog 99 #[placeV K N S T x y an] w fun e w' => e = .returned (bodyV 0 X Y 0 0 A 0 0 1 R (.slice none 0 0)) ∧ Made w.heap.size w w' := by
 obtain ⟨r0, r1, hs⟩ := h
 have iM : I64 4294967296000 := by unfold I64; omega
 have EX := hid (show bringF x (negF 4294967296000) 4294967296000 = X from eX)
 have EY := hid (show bringF y (negF 4294967296000) 4294967296000 = Y from eY)
 have HS := hid hs
 have aA := and32 an
 rw [eA] at aA
 clear eX eY eA hs
 go_enter Tryz.func99, Tryz.ntmps99
 go_wp2_with fail
 refine reg_made_tail 10 (by kernel_rfl) (by kernel_rfl) ?_
 intro Ty hT fw hf
 have c0 := Class.reads hf (p := ⟨w.heap.size, 0, none⟩) (u := .int .i64 K) (by go_simp)
 have c1 := Class.reads hf (p := ⟨w.heap.size, 1, none⟩) (u := .int .i64 N) (by go_simp)
 have c2 := Class.reads hf (p := ⟨w.heap.size, 2, none⟩) (u := .int .i64 S) (by go_simp)
 have c3 := Class.reads hf (p := ⟨w.heap.size, 3, none⟩) (u := .int .i64 T) (by go_simp)
 have c4 := Class.reads hf (p := ⟨w.heap.size, 4, none⟩) (u := .int .i64 x) (by go_simp)
 have c5 := Class.reads hf (p := ⟨w.heap.size, 5, none⟩) (u := .int .i64 y) (by go_simp)
 have c6 := Class.reads hf (p := ⟨w.heap.size, 6, none⟩) (u := .int .i64 an) (by go_simp)
 simp only [List.take_succ_cons, List.take_zero, List.drop_succ_cons, List.drop_zero]
 repeat (go_big_quiet_step ((first | (go_at_call 87; with_reducible exact hf.made (vbring_is _ _ _ _ _ _ hx hy iM EX.out EY.out)) | (go_at_call 129; with_reducible exact hf.made (HS.out _)))))
 refine wpQuiet_nil ?_
 intro w1 h1
 have hb := hf.here h1
 have hH : Has w1 (w.heap.size + 1) 43 #[.int .i64 0, .int .i64 0, .int .i64 0, .int .i64 0, .int .i64 0, .int .i64 0, .int .i64 0, .int .i64 0, .int .i64 0, .int .i64 0, .slice none 0 0] := (has_next w (.cells (#[.int .i64 K, .int .i64 N, .int .i64 S, .int .i64 T, .int .i64 x, .int .i64 y, .int .i64 an] : Array Value) 72) 43 #[.int .i64 0, .int .i64 0, .int .i64 0, .int .i64 0, .int .i64 0, .int .i64 0, .int .i64 0, .int .i64 0, .int .i64 0, .int .i64 0, .slice none 0 0]).stays hb (by simp)
 have z0 := hH.at_ 0
 have z1 := hH.at_ 1
 have z2 := hH.at_ 2
 have z3 := hH.at_ 3
 have z4 := hH.at_ 4
 have z5 := hH.at_ 5
 have z6 := hH.at_ 6
 have z7 := hH.at_ 7
 have z8 := hH.at_ 8
 have z9 := hH.at_ 9
 have z10 := hH.at_ 10
 simp at z0 z1 z2 z3 z4 z5 z6 z7 z8 z9 z10
 have zf : ∀ i, w1.frozen? ⟨w.heap.size + 1, i, none⟩ = false := fun i => hH.free i
 have HH := hid hH
 have M1 := hid (made_box (made_box hb))
 clear hb h1 hf hH c0 c1 c2 c3 c4 c5 c6
 go_wp2_with fail
 obtain ⟨V, eV⟩ : ∃ V, V = (((((((((((w1.setCell ⟨w.heap.size + 1, 0, none⟩ (.int .i64 0)).setCell ⟨w.heap.size + 1, 1, none⟩ (.int .i64 X)).setCell ⟨w.heap.size + 1, 2, none⟩ (.int .i64 Y)).setCell ⟨w.heap.size + 1, 3, none⟩ (.int .i64 0)).setCell ⟨w.heap.size + 1, 4, none⟩ (.int .i64 0)).setCell ⟨w.heap.size + 1, 5, none⟩ (.int .i64 A)).setCell ⟨w.heap.size + 1, 6, none⟩ (.int .i64 0)).setCell ⟨w.heap.size + 1, 7, none⟩ (.int .i64 0)).setCell ⟨w.heap.size + 1, 8, none⟩ (.int .i64 1)).setCell ⟨w.heap.size + 1, 9, none⟩ (.int .i64 R)).setCell ⟨w.heap.size + 1, 10, none⟩ (.slice none 0 0)) := ⟨_, rfl⟩
 have hV : Has V (w.heap.size + 1) 43 #[.int .i64 0, .int .i64 X, .int .i64 Y, .int .i64 0, .int .i64 0, .int .i64 A, .int .i64 0, .int .i64 0, .int .i64 1, .int .i64 R, .slice none 0 0] := by
  rw [eV]
  exact HH.out.put11 _ _ _ _ _ _ _ _ _ _ _
 have kV : Made w.heap.size w V := by
  rw [eV]
  exact M1.out.put11 (by simp) _ _ _ _ _ _ _ _ _ _ _
 rw [← eV]
 have r0 := hV.at_ 0
 have r1 := hV.at_ 1
 have r2 := hV.at_ 2
 have r3 := hV.at_ 3
 have r4 := hV.at_ 4
 have r5 := hV.at_ 5
 have r6 := hV.at_ 6
 have r7 := hV.at_ 7
 have r8 := hV.at_ 8
 have r9 := hV.at_ 9
 have r10 := hV.at_ 10
 simp at r0 r1 r2 r3 r4 r5 r6 r7 r8 r9 r10
 exact bodyPost_ret (v := bodyV 0 X Y 0 0 A 0 0 1 R (.slice none 0 0)) (by simp [results, Tryz.results99, go_sem, r0, r1, r2, r3, r4, r5, r6, r7, r8, r9, r10]) rfl ⟨rfl, kV⟩
theorem place_poly {K N S T : Int} {n : Nat} {gx gy : Nat → Int} {gk : Int} (h : SeedG K N S T n gx gy gk) (x y an X Y A : Int) (w : World) (hx : I64 x) (hy : I64 y) (eX : thou x = X) (eY : thou y = Y) (eA : an % 4294967296 = A) :
  Calls Tryz.prog 99 #[placeV K N S T x y an] w fun e w' => ∃ g c, e = .returned (bodyV 0 X Y 0 0 A 0 0 2 0 (.slice (some ⟨g, 0, none⟩) n c)) ∧ w.heap.size ≤ g ∧ Row w' g 26 n (grid gx gy gk) ∧ Made w.heap.size w w' := by
 obtain ⟨gr, ar, hs⟩ := h
 obtain ⟨F, eF⟩ : ∃ F, grid gx gy gk = F := ⟨_, rfl⟩
 rw [eF] at hs
 rw [eF]
 clear eF gr ar
 have iM : I64 4294967296000 := by unfold I64; omega
 have EX := hid (show bringF x (negF 4294967296000) 4294967296000 = X from eX)
 have EY := hid (show bringF y (negF 4294967296000) 4294967296000 = Y from eY)
 have HS := hid hs
 have aA := and32 an
 rw [eA] at aA
 clear eX eY eA hs
 go_enter Tryz.func99, Tryz.ntmps99
 go_wp2_with fail
 obtain ⟨W0, eW⟩ : ∃ W, W = (w.alloc (.cells (#[.int .i64 K, .int .i64 N, .int .i64 S, .int .i64 T, .int .i64 x, .int .i64 y, .int .i64 an] : Array Value) 72)).alloc (.cells #[.int .i64 0, .int .i64 0, .int .i64 0, .int .i64 0, .int .i64 0, .int .i64 0, .int .i64 0, .int .i64 0, .int .i64 0, .int .i64 0, .slice none 0 0] 43) := ⟨_, rfl⟩
 have hP : Has W0 w.heap.size 72 #[.int .i64 K, .int .i64 N, .int .i64 S, .int .i64 T, .int .i64 x, .int .i64 y, .int .i64 an] := by rw [eW]; exact (has_new _ _ _).more _
 have hH0 : Has W0 (w.heap.size + 1) 43 #[.int .i64 0, .int .i64 0, .int .i64 0, .int .i64 0, .int .i64 0, .int .i64 0, .int .i64 0, .int .i64 0, .int .i64 0, .int .i64 0, .slice none 0 0] := by rw [eW]; exact has_next _ _ _ _
 have M0 : Hid (Made w.heap.size w W0) := by unfold Hid; rw [eW]; exact ((Made.rfl_ _ _).cells (Nat.le_refl _) _ _).cells (by simp) _ _
 rw [← eW]
 clear eW
 have p0 := hP.at_ 0
 have p1 := hP.at_ 1
 have p2 := hP.at_ 2
 have p3 := hP.at_ 3
 have p4 := hP.at_ 4
 have p5 := hP.at_ 5
 have p6 := hP.at_ 6
 simp at p0 p1 p2 p3 p4 p5 p6
 refine region_makes 9 13 [0, 1, 2, 3, 4, 5, 6, 7] [8] (alP n F) (valP n) (by kernel_rfl) (alP_lasts n F) (by kernel_rfl) rfl (by kernel_rfl) rfl ?_
 apply Exists.intro
 refine ⟨?h1, ?h2⟩
 case h1 =>
  intro Ty hT fw hf
  have c0 := Class.reads hf p0
  have c1 := Class.reads hf p1
  have c2 := Class.reads hf p2
  have c3 := Class.reads hf p3
  have c4 := Class.reads hf p4
  have c5 := Class.reads hf p5
  have c6 := Class.reads hf p6
  change wpQuiet _ _ _ _ [_, _, _, _, _, _, _, _] _
  repeat (go_big_quiet_step ((go_at_call 87; with_reducible exact hf.made (vbring_is _ _ _ _ _ _ hx hy iM EX.out EY.out))))
  exact wpQuiet_nil rfl
 clear p0 p1 p2 p3 p4 p5 p6
 have mk : Hid (∀ (G : Nat → Option Nat) (u : World), ClM W0 (alP n F) G u → MkUpon Tryz.prog W0 (alP n F) (valP n) 8 G (.ok (.enter 129 #[seedV K N S T]) u)) := by
  intro G u hu
  refine (HS.out u).mono ?_
  rintro e u' ⟨g', c', rfl, hg', hrow', k'⟩
  exact ⟨g', c', rfl, hu.next (alP_lasts n F) k' hg' hrow'.here hrow'⟩
 refine ⟨_, 11, rfl, ⟨rfl, rfl, fun G u hu => ?mk1⟩, fun g c => ?rest⟩
 case mk1 =>
  rw [show (execOp _ _).run Tryz.prog u = .ok (.enter 129 #[seedV K N S T]) u by kernel_rfl]
  exact mk.out G u hu
 clear mk
 intro w1 hu
 have q : upd (fun _ => none) 8 g 8 = some g := by unfold upd; simp
 obtain ⟨lg, _, hrow⟩ := hu.2.1 8 g q
 have hrow : Row w1 g 26 n F := hrow
 have hH : Has w1 (w.heap.size + 1) 43 #[.int .i64 0, .int .i64 0, .int .i64 0, .int .i64 0, .int .i64 0, .int .i64 0, .int .i64 0, .int .i64 0, .int .i64 0, .int .i64 0, .slice none 0 0] := hH0.stays hu.1 hH0.here
 have hg1 : w.heap.size + 1 < g := Nat.lt_of_lt_of_le hH0.here lg
 have M1 : Hid (Made w.heap.size w w1) := M0.out.then_ (hu.1.low M0.out.1.size)
 have HR := hid hrow
 have HG := hid hg1
 clear hu q lg hrow hg1 hH0 hP
 rw [show valP n 8 g c = shapeV 2 0 (.slice (some ⟨g, 0, none⟩) n c) from rfl]
 simp only [List.drop_succ_cons, List.drop_zero]
 have z0 := hH.at_ 0
 have z1 := hH.at_ 1
 have z2 := hH.at_ 2
 have z3 := hH.at_ 3
 have z4 := hH.at_ 4
 have z5 := hH.at_ 5
 have z6 := hH.at_ 6
 have z7 := hH.at_ 7
 have z8 := hH.at_ 8
 have z9 := hH.at_ 9
 have z10 := hH.at_ 10
 simp at z0 z1 z2 z3 z4 z5 z6 z7 z8 z9 z10
 have zf : ∀ i, w1.frozen? ⟨w.heap.size + 1, i, none⟩ = false := fun i => hH.free i
 have HH := hid hH
 clear hH
 go_wp2_with fail
 obtain ⟨V, eV⟩ : ∃ V, V = (((((((((((w1.setCell ⟨w.heap.size + 1, 0, none⟩ (.int .i64 0)).setCell ⟨w.heap.size + 1, 1, none⟩ (.int .i64 X)).setCell ⟨w.heap.size + 1, 2, none⟩ (.int .i64 Y)).setCell ⟨w.heap.size + 1, 3, none⟩ (.int .i64 0)).setCell ⟨w.heap.size + 1, 4, none⟩ (.int .i64 0)).setCell ⟨w.heap.size + 1, 5, none⟩ (.int .i64 A)).setCell ⟨w.heap.size + 1, 6, none⟩ (.int .i64 0)).setCell ⟨w.heap.size + 1, 7, none⟩ (.int .i64 0)).setCell ⟨w.heap.size + 1, 8, none⟩ (.int .i64 2)).setCell ⟨w.heap.size + 1, 9, none⟩ (.int .i64 0)).setCell ⟨w.heap.size + 1, 10, none⟩ (.slice (some ⟨g, 0, none⟩) n c)) := ⟨_, rfl⟩
 have hV : Has V (w.heap.size + 1) 43 #[.int .i64 0, .int .i64 X, .int .i64 Y, .int .i64 0, .int .i64 0, .int .i64 A, .int .i64 0, .int .i64 0, .int .i64 2, .int .i64 0, .slice (some ⟨g, 0, none⟩) n c] := by
  rw [eV]
  exact HH.out.put11 _ _ _ _ _ _ _ _ _ _ _
 have kV : Made w.heap.size w V := by
  rw [eV]
  exact M1.out.put11 (by simp) _ _ _ _ _ _ _ _ _ _ _
 have rV : Row V g 26 n F := by
  rw [eV]
  exact HR.out.other11 (by have := HG.out; omega) _ _ _ _ _ _ _ _ _ _ _
 rw [← eV]
 have r0 := hV.at_ 0
 have r1 := hV.at_ 1
 have r2 := hV.at_ 2
 have r3 := hV.at_ 3
 have r4 := hV.at_ 4
 have r5 := hV.at_ 5
 have r6 := hV.at_ 6
 have r7 := hV.at_ 7
 have r8 := hV.at_ 8
 have r9 := hV.at_ 9
 have r10 := hV.at_ 10
 simp at r0 r1 r2 r3 r4 r5 r6 r7 r8 r9 r10
 exact bodyPost_ret (v := bodyV 0 X Y 0 0 A 0 0 2 0 (.slice (some ⟨g, 0, none⟩) n c)) (by simp [results, Tryz.results99, go_sem, r0, r1, r2, r3, r4, r5, r6, r7, r8, r9, r10]) rfl ⟨g, c, rfl, by have := HG.out; omega, rV, kV⟩
end Go.Proofs.YtjhcejmfiekjgaaGreat.Fx