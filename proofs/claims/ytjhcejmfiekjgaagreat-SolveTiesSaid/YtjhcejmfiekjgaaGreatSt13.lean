/- WlD -/
import Derived.Test.YtjhcejmfiekjgaaGreatSt10
import Derived.Test.YtjhcejmfiekjgaaGreatSt11
import Derived.Test.YtjhcejmfiekjgaaGreatSt12
import Derived.BigQuiet
set_option maxRecDepth 100000
set_option maxHeartbeats 64000000
/- Deeds: Joint and Body of one. -/
namespace Go.Proofs.YtjhcejmfiekjgaaGreat.Fx
open Go.ChangeShapes Go.WideShapes Go.ChangeAt Go.RowKit
set_option linter.unusedVariables false
structure De where
 kd : Int
 pk : Int
 pn : Int
 ps : Int
 pt : Int
 px : Int
 py : Int
 pa : Int
 vx : Int
 vy : Int
 sp : Int
 de : Int
 a : Int
 b : Int
 ax : Int
 ay : Int
 tx : Int
 ty : Int
 ln : Int
 rid : Int
 rx : Int
 ry : Int
 rvx : Int
 rvy : Int
 ran : Int
 rsp : Int
 rde : Int
 rk : Int
 rr : Int
 rao : Option Addr
 rn : Nat
 rc : Nat
 rf : Cs
def De.raw (d : De) : Bd := ⟨d.rid, d.rx, d.ry, d.rvx, d.rvy, d.ran, d.rsp, d.rde, d.rk, d.rr, d.rao, d.rn, d.rc, d.rf⟩
abbrev deV (d : De) : Value := .agg #[.int .i64 d.kd, .int .i64 d.pk, .int .i64 d.pn, .int .i64 d.ps, .int .i64 d.pt, .int .i64 d.px, .int .i64 d.py, .int .i64 d.pa, .int .i64 d.vx, .int .i64 d.vy, .int .i64 d.sp, .int .i64 d.de, .int .i64 d.a, .int .i64 d.b, .int .i64 d.ax, .int .i64 d.ay, .int .i64 d.tx, .int .i64 d.ty, .int .i64 d.ln, .int .i64 d.rid, .int .i64 d.rx, .int .i64 d.ry, .int .i64 d.rvx, .int .i64 d.rvy, .int .i64 d.ran, .int .i64 d.rsp, .int .i64 d.rde, .int .i64 d.rk, .int .i64 d.rr, .slice d.rao d.rn d.rc]
def encD (d : De) : List Value := [.int .i64 d.kd, .int .i64 d.pk, .int .i64 d.pn, .int .i64 d.ps, .int .i64 d.pt, .int .i64 d.px, .int .i64 d.py, .int .i64 d.pa, .int .i64 d.vx, .int .i64 d.vy, .int .i64 d.sp, .int .i64 d.de, .int .i64 d.a, .int .i64 d.b, .int .i64 d.ax, .int .i64 d.ay, .int .i64 d.tx, .int .i64 d.ty, .int .i64 d.ln, .int .i64 d.rid, .int .i64 d.rx, .int .i64 d.ry, .int .i64 d.rvx, .int .i64 d.rvy, .int .i64 d.ran, .int .i64 d.rsp, .int .i64 d.rde, .int .i64 d.rk, .int .i64 d.rr, .slice d.rao d.rn d.rc]
theorem encD_len (d : De) : (encD d).length = 30 := rfl
structure DeI (d : De) : Prop where
 kd : I64 d.kd
 pk : I64 d.pk
 pn : I64 d.pn
 ps : I64 d.ps
 pt : I64 d.pt
 px : I64 d.px
 py : I64 d.py
 pa : I64 d.pa
 vx : I64 d.vx
 vy : I64 d.vy
 sp : I64 d.sp
 de : I64 d.de
 a : I64 d.a
 b : I64 d.b
 ax : I64 d.ax
 ay : I64 d.ay
 tx : I64 d.tx
 ty : I64 d.ty
 ln : I64 d.ln
 raw : BdI d.raw
 rok : (d.rao = none ∧ d.rn = 0 ∧ d.rc = 0) ∨ ∃ a, d.rao = some a
theorem bring_I {a lo hi : Int} (ha : I64 a) (hl : I64 lo) (hh : I64 hi) : I64 (bringF a lo hi) := by
 unfold I64 bringF cl at *
 (repeat' split) <;> omega
theorem place_w (K N S T x y an : Int) (ix : I64 x) (iy : I64 y) : ∃ X Y A k r n f, RightP k r n f ∧ Cin f n ∧ I64 r ∧ I64 k ∧ Inn X 4503599627370496 ∧ Inn Y 4503599627370496 ∧ (0 ≤ A ∧ A ≤ 4294967295) ∧ ∀ w, Calls Tryz.prog 99 #[placeV K N S T x y an] w fun e v =>
  ∃ ao c, e = .returned (bodyV 0 X Y 0 0 A 0 0 k r (.slice ao n c)) ∧ Sl v ao n f ∧ ((ao = none ∧ n = 0 ∧ c = 0) ∨ ∃ a, ao = some a) ∧ (∀ b off s, ao = some ⟨b, off, s⟩ → w.heap.size ≤ b) ∧ Made w.heap.size w v := by
 have bX := thou_bd ix
 have bY := thou_bd iy
 rcases seed_det K N S T with ⟨R, h⟩ | ⟨n, gx, gy, gk, h⟩
 ·have iR : I64 R := by have := h.1; have := h.2.1; unfold I64; omega
  refine ⟨thou x, thou y, an % 4294967296, 1, R, 0, fun _ => (0, 0), .inl ⟨rfl, rfl, by have := h.1; omega, by have := h.2.1; omega⟩, fun i hi => absurd hi (by omega), iR, by unfold I64; omega, by unfold Inn; omega, by unfold Inn; omega, by omega, fun w => (place_circle h x y an _ _ _ w ix iy rfl rfl rfl).mono ?_⟩
  rintro e v ⟨rfl, k⟩
  exact ⟨none, 0, rfl, fun h => absurd h (by omega), .inl ⟨rfl, rfl, rfl⟩, fun b off s e => (by cases e), k⟩
 ·refine ⟨thou x, thou y, an % 4294967296, 2, 0, n, grid gx gy gk, grid_right h.1, grid_i64 h.1, by unfold I64; omega, by unfold I64; omega, by unfold Inn; omega, by unfold Inn; omega, by omega, fun w => (place_poly h x y an _ _ _ w ix iy rfl rfl rfl).mono ?_⟩
  rintro e v ⟨g, c, rfl, hg, hr, k⟩
  exact ⟨some ⟨g, 0, none⟩, c, rfl, fun _ => ⟨g, 0, rfl, hr.pts⟩, .inr ⟨_, rfl⟩, fun b off s e => (by cases e; exact hg), k⟩
def jointOf (d : De) : Jt := ⟨0, d.a % 16, d.b % 16, bringF d.ax (negF 17179869184) 17179869184, bringF d.ay (negF 17179869184) 17179869184, bringF d.tx (negF 17179869184) 17179869184, bringF d.ty (negF 17179869184) 17179869184, d.ln⟩
theorem jointOf_i {d : De} (h : DeI d) : JtI (jointOf d) := by
 have iM : I64 17179869184 := by unfold I64; omega
 have iN : I64 (negF 17179869184) := by unfold I64 negF cl; simp
 exact ⟨by show I64 0; unfold I64; omega, by show I64 (d.a % 16); unfold I64; omega, by show I64 (d.b % 16); unfold I64; omega, bring_I h.ax iN iM, bring_I h.ay iN iM, bring_I h.tx iN iM, bring_I h.ty iN iM, h.ln⟩
theorem and15 (x : Int) : bits .and .i64 x 15 = x % 16 := and_low x 4 (by omega)
theorem and3 (x : Int) : bits .and .i64 x 3 = x % 4 := and_low x 2 (by omega)
theorem and7 (x : Int) : bits .and .i64 x 7 = x % 8 := and_low x 3 (by omega)
theorem and35 (x : Int) : bits .and .i64 x 34359738367 = x % 34359738368 := and_low x 35 (by omega)
theorem djoint_c (d : De) (hi : DeI d) (w : World) : Calls Tryz.prog 53 #[deV d] w fun e v => e = .returned (jtV (jointOf d)) ∧ Made w.heap.size w v := by
 have iM : I64 17179869184 := by unfold I64; omega
 obtain ⟨j0, j1, j2, j3, j4, j5, j6, j7⟩ : JtI (jointOf d) := jointOf_i hi
 have iax := hi.ax; have iay := hi.ay; have itx := hi.tx; have ity := hi.ty
 obtain ⟨kd, pk, pn, ps, pt, px, py, pa, vx, vy, sp, de, a, b, ax, ay, tx, ty, ln, rid, rx, ry, rvx, rvy, ran, rsp, rde, rk, rr, rao, rn, rc, rf⟩ := d
 unfold jointOf
 simp only [] at iax iay itx ity ⊢
 obtain ⟨A, eA⟩ : ∃ z, a % 16 = z := ⟨_, rfl⟩
 obtain ⟨B, eB⟩ : ∃ z, b % 16 = z := ⟨_, rfl⟩
 obtain ⟨X, eX⟩ : ∃ z, bringF ax (negF 17179869184) 17179869184 = z := ⟨_, rfl⟩
 obtain ⟨Y, eY⟩ : ∃ z, bringF ay (negF 17179869184) 17179869184 = z := ⟨_, rfl⟩
 obtain ⟨U, eU⟩ : ∃ z, bringF tx (negF 17179869184) 17179869184 = z := ⟨_, rfl⟩
 obtain ⟨V, eV⟩ : ∃ z, bringF ty (negF 17179869184) 17179869184 = z := ⟨_, rfl⟩
 have aA := (and15 a).trans eA
 have aB := (and15 b).trans eB
 rw [eA, eB, eX, eY, eU, eV]
 have HX := hid eX; have HY := hid eY; have HU := hid eU; have HV := hid eV
 clear eA eB eX eY eU eV hi j0 j1 j2 j3 j4 j5 j6 j7
 obtain ⟨W, eW⟩ : ∃ W, W = (w.alloc (.cells #[.int .i64 kd, .int .i64 pk, .int .i64 pn, .int .i64 ps, .int .i64 pt, .int .i64 px, .int .i64 py, .int .i64 pa, .int .i64 vx, .int .i64 vy, .int .i64 sp, .int .i64 de, .int .i64 a, .int .i64 b, .int .i64 ax, .int .i64 ay, .int .i64 tx, .int .i64 ty, .int .i64 ln, .int .i64 rid, .int .i64 rx, .int .i64 ry, .int .i64 rvx, .int .i64 rvy, .int .i64 ran, .int .i64 rsp, .int .i64 rde, .int .i64 rk, .int .i64 rr, .slice rao rn rc] 74)).alloc (.cells #[.int .i64 0, .int .i64 0, .int .i64 0, .int .i64 0, .int .i64 0, .int .i64 0, .int .i64 0, .int .i64 0] 36) := ⟨_, rfl⟩
 have KW : Hid (Made w.heap.size w W) := by unfold Hid; rw [eW]; exact ((Made.rfl_ _ _).cells (Nat.le_refl _) _ _).cells (by simp) _ _
 have HD : Hid (Has W w.heap.size 74 #[.int .i64 kd, .int .i64 pk, .int .i64 pn, .int .i64 ps, .int .i64 pt, .int .i64 px, .int .i64 py, .int .i64 pa, .int .i64 vx, .int .i64 vy, .int .i64 sp, .int .i64 de, .int .i64 a, .int .i64 b, .int .i64 ax, .int .i64 ay, .int .i64 tx, .int .i64 ty, .int .i64 ln, .int .i64 rid, .int .i64 rx, .int .i64 ry, .int .i64 rvx, .int .i64 rvy, .int .i64 ran, .int .i64 rsp, .int .i64 rde, .int .i64 rk, .int .i64 rr, .slice rao rn rc]) := by unfold Hid; rw [eW]; exact (has_new _ _ _).more _
 have HR : Hid (Has W (w.heap.size + 1) 36 #[.int .i64 0, .int .i64 0, .int .i64 0, .int .i64 0, .int .i64 0, .int .i64 0, .int .i64 0, .int .i64 0]) := by unfold Hid; rw [eW]; exact has_nxt' _ _ _ _
 obtain ⟨g0, eg0⟩ : ∃ g, w.heap.size = g := ⟨_, rfl⟩
 obtain ⟨g1, eg1⟩ : ∃ g, g0 + 1 = g := ⟨_, rfl⟩
 have hg1 : w.heap.size ≤ g1 := by omega
 rw [eg0] at HD
 rw [eg0, eg1] at HR
 have b0 := HD.out.at_ 0
 have b1 := HD.out.at_ 1
 have b2 := HD.out.at_ 2
 have b3 := HD.out.at_ 3
 have b4 := HD.out.at_ 4
 have b5 := HD.out.at_ 5
 have b6 := HD.out.at_ 6
 have b7 := HD.out.at_ 7
 have b8 := HD.out.at_ 8
 have b9 := HD.out.at_ 9
 have b10 := HD.out.at_ 10
 have b11 := HD.out.at_ 11
 have b12 := HD.out.at_ 12
 have b13 := HD.out.at_ 13
 have b14 := HD.out.at_ 14
 have b15 := HD.out.at_ 15
 have b16 := HD.out.at_ 16
 have b17 := HD.out.at_ 17
 have b18 := HD.out.at_ 18
 have b19 := HD.out.at_ 19
 have b20 := HD.out.at_ 20
 have b21 := HD.out.at_ 21
 have b22 := HD.out.at_ 22
 have b23 := HD.out.at_ 23
 have b24 := HD.out.at_ 24
 have b25 := HD.out.at_ 25
 have b26 := HD.out.at_ 26
 have b27 := HD.out.at_ 27
 have b28 := HD.out.at_ 28
 have b29 := HD.out.at_ 29
 simp at b0 b1 b2 b3 b4 b5 b6 b7 b8 b9 b10 b11 b12 b13 b14 b15 b16 b17 b18 b19 b20 b21 b22 b23 b24 b25 b26 b27 b28 b29
 have l0 : g0 < W.heap.size := HD.out.here
 go_enter Tryz.func53, Tryz.ntmps53
 go_upto_region 1 with fail
 rw [← eW]
 clear eW
 try rw [eg0]
 try rw [eg1]
 refine reg_made_tail 15 (by kernel_rfl) (by kernel_rfl) ?_
 intro Ty hT fw hf
 have z12 := Class.reads hf b12
 have z13 := Class.reads hf b13
 have z14 := Class.reads hf b14
 have z15 := Class.reads hf b15
 have z16 := Class.reads hf b16
 have z17 := Class.reads hf b17
 have z18 := Class.reads hf b18
 simp only [List.take_succ_cons, List.take_zero, List.drop_succ_cons, List.drop_zero]
 repeat (go_big_quiet_step ((first | (go_at_call 87; with_reducible exact hf.made (vbring_is _ _ _ _ _ _ iax iay iM HX.out HY.out)) | (go_at_call 87; with_reducible exact hf.made (vbring_is _ _ _ _ _ _ itx ity iM HU.out HV.out)))))
 refine wpQuiet_nil ?_
 intro w1 h1
 have k1 := hf.here h1
 have K1 := hid (KW.out.then_ (k1.low KW.out.1.size))
 have HR1 := hid (HR.out.stays k1 HR.out.here)
 clear k1 h1 hf l0 b0 b1 b2 b3 b4 b5 b6 b7 b8 b9 b10 b11 b12 b13 b14 b15 b16 b17 b18 b19 b20 b21 b22 b23 b24 b25 b26 b27 b28 b29 z12 z13 z14 z15 z16 z17 z18
 have c0 := HR1.out.at_ 0
 have c1 := HR1.out.at_ 1
 have c2 := HR1.out.at_ 2
 have c3 := HR1.out.at_ 3
 have c4 := HR1.out.at_ 4
 have c5 := HR1.out.at_ 5
 have c6 := HR1.out.at_ 6
 have c7 := HR1.out.at_ 7
 simp at c0 c1 c2 c3 c4 c5 c6 c7
 have l1 : g1 < w1.heap.size := HR1.out.here
 have fr : ∀ i, w1.frozen? ⟨g1, i, none⟩ = false := HR1.out.free
 go_wp2_with fail
 obtain ⟨W2, eW2⟩ : ∃ W2, W2 = (((((((w1.setCell ⟨g1, 0, none⟩ (.int .i64 0)).setCell ⟨g1, 1, none⟩ (.int .i64 A)).setCell ⟨g1, 2, none⟩ (.int .i64 B)).setCell ⟨g1, 3, none⟩ (.int .i64 X)).setCell ⟨g1, 4, none⟩ (.int .i64 Y)).setCell ⟨g1, 5, none⟩ (.int .i64 U)).setCell ⟨g1, 6, none⟩ (.int .i64 V)).setCell ⟨g1, 7, none⟩ (.int .i64 ln) := ⟨_, rfl⟩
 have h2 : Has W2 g1 36 #[.int .i64 0, .int .i64 A, .int .i64 B, .int .i64 X, .int .i64 Y, .int .i64 U, .int .i64 V, .int .i64 ln] := by rw [eW2]; exact (((((((HR1.out.put 0 _).put 1 _).put 2 _).put 3 _).put 4 _).put 5 _).put 6 _).put 7 _
 have k2 : Made w.heap.size w W2 := by rw [eW2]; exact (((((((K1.out.put hg1 _).put hg1 _).put hg1 _).put hg1 _).put hg1 _).put hg1 _).put hg1 _).put hg1 _
 rw [← eW2]
 clear c0 c1 c2 c3 c4 c5 c6 c7 eW2
 have q0 := h2.at_ 0
 have q1 := h2.at_ 1
 have q2 := h2.at_ 2
 have q3 := h2.at_ 3
 have q4 := h2.at_ 4
 have q5 := h2.at_ 5
 have q6 := h2.at_ 6
 have q7 := h2.at_ 7
 simp at q0 q1 q2 q3 q4 q5 q6 q7
 exact bodyPost_ret (v := jtV ⟨0, A, B, X, Y, U, V, ln⟩) (by simp [results, Tryz.results53, go_sem, q0, q1, q2, q3, q4, q5, q6, q7]) rfl ⟨rfl, k2⟩
theorem But.put11 {X : Nat → Prop} {g : Nat} {a w : World} (h : But X a w) (hg : X g) (v0 v1 v2 v3 v4 v5 v6 v7 v8 v9 v10 : Value) : But X a (((((((((((w.setCell ⟨g, 0, none⟩ v0).setCell ⟨g, 1, none⟩ v1).setCell ⟨g, 2, none⟩ v2).setCell ⟨g, 3, none⟩ v3).setCell ⟨g, 4, none⟩ v4).setCell ⟨g, 5, none⟩ v5).setCell ⟨g, 6, none⟩ v6).setCell ⟨g, 7, none⟩ v7).setCell ⟨g, 8, none⟩ v8).setCell ⟨g, 9, none⟩ v9).setCell ⟨g, 10, none⟩ v10) :=
 ((((((((((h.put (p := ⟨g, 0, none⟩) (.inl hg) _).put (p := ⟨g, 1, none⟩) (.inl hg) _).put (p := ⟨g, 2, none⟩) (.inl hg) _).put (p := ⟨g, 3, none⟩) (.inl hg) _).put (p := ⟨g, 4, none⟩) (.inl hg) _).put (p := ⟨g, 5, none⟩) (.inl hg) _).put (p := ⟨g, 6, none⟩) (.inl hg) _).put (p := ⟨g, 7, none⟩) (.inl hg) _).put (p := ⟨g, 8, none⟩) (.inl hg) _).put (p := ⟨g, 9, none⟩) (.inl hg) _).put (p := ⟨g, 10, none⟩) (.inl hg) _
theorem dbody_raw (kd pk pn ps pt px py pa vx vy sp de a b ax ay tx ty ln rid rx ry rvx rvy ran rsp rde rk rr : Int) (rao : Option Addr) (rn rc : Nat) (w : World) (hk : kd % 16 = 15) : Calls Tryz.prog 56 #[.agg #[.int .i64 kd, .int .i64 pk, .int .i64 pn, .int .i64 ps, .int .i64 pt, .int .i64 px, .int .i64 py, .int .i64 pa, .int .i64 vx, .int .i64 vy, .int .i64 sp, .int .i64 de, .int .i64 a, .int .i64 b, .int .i64 ax, .int .i64 ay, .int .i64 tx, .int .i64 ty, .int .i64 ln, .int .i64 rid, .int .i64 rx, .int .i64 ry, .int .i64 rvx, .int .i64 rvy, .int .i64 ran, .int .i64 rsp, .int .i64 rde, .int .i64 rk, .int .i64 rr, .slice rao rn rc]] w fun e v => e = .returned (.agg #[.int .i64 rid, .int .i64 rx, .int .i64 ry, .int .i64 rvx, .int .i64 rvy, .int .i64 ran, .int .i64 rsp, .int .i64 rde, .int .i64 rk, .int .i64 rr, .slice rao rn rc]) ∧ Made w.heap.size w v := by
 have aK := (and15 kd).trans hk
 clear hk
 obtain ⟨W, eW⟩ : ∃ W, W = (w.alloc (.cells #[.int .i64 kd, .int .i64 pk, .int .i64 pn, .int .i64 ps, .int .i64 pt, .int .i64 px, .int .i64 py, .int .i64 pa, .int .i64 vx, .int .i64 vy, .int .i64 sp, .int .i64 de, .int .i64 a, .int .i64 b, .int .i64 ax, .int .i64 ay, .int .i64 tx, .int .i64 ty, .int .i64 ln, .int .i64 rid, .int .i64 rx, .int .i64 ry, .int .i64 rvx, .int .i64 rvy, .int .i64 ran, .int .i64 rsp, .int .i64 rde, .int .i64 rk, .int .i64 rr, .slice rao rn rc] 74)).alloc (.cells #[.int .i64 0, .int .i64 0, .int .i64 0, .int .i64 0, .int .i64 0, .int .i64 0, .int .i64 0, .int .i64 0, .int .i64 0, .int .i64 0, .slice none 0 0] 43) := ⟨_, rfl⟩
 have KW : Hid (Made w.heap.size w W) := by unfold Hid; rw [eW]; exact ((Made.rfl_ _ _).cells (Nat.le_refl _) _ _).cells (by simp) _ _
 have HD : Hid (Has W w.heap.size 74 #[.int .i64 kd, .int .i64 pk, .int .i64 pn, .int .i64 ps, .int .i64 pt, .int .i64 px, .int .i64 py, .int .i64 pa, .int .i64 vx, .int .i64 vy, .int .i64 sp, .int .i64 de, .int .i64 a, .int .i64 b, .int .i64 ax, .int .i64 ay, .int .i64 tx, .int .i64 ty, .int .i64 ln, .int .i64 rid, .int .i64 rx, .int .i64 ry, .int .i64 rvx, .int .i64 rvy, .int .i64 ran, .int .i64 rsp, .int .i64 rde, .int .i64 rk, .int .i64 rr, .slice rao rn rc]) := by unfold Hid; rw [eW]; exact (has_new _ _ _).more _
 have HR : Hid (Has W (w.heap.size + 1) 43 #[.int .i64 0, .int .i64 0, .int .i64 0, .int .i64 0, .int .i64 0, .int .i64 0, .int .i64 0, .int .i64 0, .int .i64 0, .int .i64 0, .slice none 0 0]) := by unfold Hid; rw [eW]; exact has_nxt' _ _ _ _
 have hsz : Hid (W.heap.size = w.heap.size + 2) := by unfold Hid; rw [eW]; simp
 obtain ⟨g0, eg0⟩ : ∃ g, w.heap.size = g := ⟨_, rfl⟩
 obtain ⟨g1, eg1⟩ : ∃ g, g0 + 1 = g := ⟨_, rfl⟩
 have hg1 : w.heap.size ≤ g1 := by omega
 rw [eg0] at HD
 rw [eg0, eg1] at HR
 have b0 := HD.out.at_ 0
 have b1 := HD.out.at_ 1
 have b2 := HD.out.at_ 2
 have b3 := HD.out.at_ 3
 have b4 := HD.out.at_ 4
 have b5 := HD.out.at_ 5
 have b6 := HD.out.at_ 6
 have b7 := HD.out.at_ 7
 have b8 := HD.out.at_ 8
 have b9 := HD.out.at_ 9
 have b10 := HD.out.at_ 10
 have b11 := HD.out.at_ 11
 have b12 := HD.out.at_ 12
 have b13 := HD.out.at_ 13
 have b14 := HD.out.at_ 14
 have b15 := HD.out.at_ 15
 have b16 := HD.out.at_ 16
 have b17 := HD.out.at_ 17
 have b18 := HD.out.at_ 18
 have b19 := HD.out.at_ 19
 have b20 := HD.out.at_ 20
 have b21 := HD.out.at_ 21
 have b22 := HD.out.at_ 22
 have b23 := HD.out.at_ 23
 have b24 := HD.out.at_ 24
 have b25 := HD.out.at_ 25
 have b26 := HD.out.at_ 26
 have b27 := HD.out.at_ 27
 have b28 := HD.out.at_ 28
 have b29 := HD.out.at_ 29
 simp at b0 b1 b2 b3 b4 b5 b6 b7 b8 b9 b10 b11 b12 b13 b14 b15 b16 b17 b18 b19 b20 b21 b22 b23 b24 b25 b26 b27 b28 b29
 have l0 : g0 < W.heap.size := HD.out.here
 have hne : ¬ g1 = g0 := by omega
 have hne' : ¬ g0 = g1 := by omega
 go_enter Tryz.func56, Tryz.ntmps56
 go_upto_region 1 with fail
 rw [← eW]
 clear eW
 try rw [eg0]
 try rw [eg1]
 have c0 := HR.out.at_ 0
 have c1 := HR.out.at_ 1
 have c2 := HR.out.at_ 2
 have c3 := HR.out.at_ 3
 have c4 := HR.out.at_ 4
 have c5 := HR.out.at_ 5
 have c6 := HR.out.at_ 6
 have c7 := HR.out.at_ 7
 have c8 := HR.out.at_ 8
 have c9 := HR.out.at_ 9
 have c10 := HR.out.at_ 10
 simp at c0 c1 c2 c3 c4 c5 c6 c7 c8 c9 c10
 have l1 : g1 < W.heap.size := HR.out.here
 have fr : ∀ i, W.frozen? ⟨g1, i, none⟩ = false := HR.out.free
 go_wp2_with fail
 obtain ⟨VV, eVV⟩ : ∃ VV, VV = (((((((((((W.setCell ⟨g1, 0, none⟩ (.int .i64 rid)).setCell ⟨g1, 1, none⟩ (.int .i64 rx)).setCell ⟨g1, 2, none⟩ (.int .i64 ry)).setCell ⟨g1, 3, none⟩ (.int .i64 rvx)).setCell ⟨g1, 4, none⟩ (.int .i64 rvy)).setCell ⟨g1, 5, none⟩ (.int .i64 ran)).setCell ⟨g1, 6, none⟩ (.int .i64 rsp)).setCell ⟨g1, 7, none⟩ (.int .i64 rde)).setCell ⟨g1, 8, none⟩ (.int .i64 rk)).setCell ⟨g1, 9, none⟩ (.int .i64 rr)).setCell ⟨g1, 10, none⟩ (.slice rao rn rc)) := ⟨_, rfl⟩
 have hVV : Has VV g1 43 #[.int .i64 rid, .int .i64 rx, .int .i64 ry, .int .i64 rvx, .int .i64 rvy, .int .i64 ran, .int .i64 rsp, .int .i64 rde, .int .i64 rk, .int .i64 rr, .slice rao rn rc] := by rw [eVV]; exact HR.out.put11 _ _ _ _ _ _ _ _ _ _ _
 have kVV : Made w.heap.size w VV := by rw [eVV]; exact KW.out.put11 hg1 _ _ _ _ _ _ _ _ _ _ _
 rw [← eVV]
 have q0 := hVV.at_ 0
 have q1 := hVV.at_ 1
 have q2 := hVV.at_ 2
 have q3 := hVV.at_ 3
 have q4 := hVV.at_ 4
 have q5 := hVV.at_ 5
 have q6 := hVV.at_ 6
 have q7 := hVV.at_ 7
 have q8 := hVV.at_ 8
 have q9 := hVV.at_ 9
 have q10 := hVV.at_ 10
 simp at q0 q1 q2 q3 q4 q5 q6 q7 q8 q9 q10
 refine bodyPost_ret (v := .agg #[.int .i64 rid, .int .i64 rx, .int .i64 ry, .int .i64 rvx, .int .i64 rvy, .int .i64 ran, .int .i64 rsp, .int .i64 rde, .int .i64 rk, .int .i64 rr, .slice rao rn rc]) (by simp [results, Tryz.results56, go_sem, q0, q1, q2, q3, q4, q5, q6, q7, q8, q9, q10]) rfl ⟨rfl, kVV⟩
theorem dbody_still (kd pk pn ps pt px py pa vx vy sp de a b ax ay tx ty ln rid rx ry rvx rvy ran rsp rde rk rr : Int) (rao : Option Addr) (rn rc : Nat) (w : World) (hk : kd % 16 ≠ 15) (hd : de % 4 = 0) (X Y A k r : Int) (n : Nat) (f : Cs)
  (hpl : ∀ w, Calls Tryz.prog 99 #[placeV pk pn ps pt px py pa] w fun e v => ∃ ao c, e = .returned (bodyV 0 X Y 0 0 A 0 0 k r (.slice ao n c)) ∧ Sl v ao n f ∧ ((ao = none ∧ n = 0 ∧ c = 0) ∨ ∃ a, ao = some a) ∧ (∀ b off s, ao = some ⟨b, off, s⟩ → w.heap.size ≤ b) ∧ Made w.heap.size w v) :
  Calls Tryz.prog 56 #[.agg #[.int .i64 kd, .int .i64 pk, .int .i64 pn, .int .i64 ps, .int .i64 pt, .int .i64 px, .int .i64 py, .int .i64 pa, .int .i64 vx, .int .i64 vy, .int .i64 sp, .int .i64 de, .int .i64 a, .int .i64 b, .int .i64 ax, .int .i64 ay, .int .i64 tx, .int .i64 ty, .int .i64 ln, .int .i64 rid, .int .i64 rx, .int .i64 ry, .int .i64 rvx, .int .i64 rvy, .int .i64 ran, .int .i64 rsp, .int .i64 rde, .int .i64 rk, .int .i64 rr, .slice rao rn rc]] w fun e v => ∃ ao c, e = .returned (bodyV 0 X Y 0 0 A 0 0 k r (.slice ao n c)) ∧ Sl v ao n f ∧ ((ao = none ∧ n = 0 ∧ c = 0) ∨ ∃ a, ao = some a) ∧ Made w.heap.size w v ∧ (∀ b off s, ao = some ⟨b, off, s⟩ → w.heap.size ≤ b) := by
 obtain ⟨kq, ekq⟩ : ∃ z, kd % 16 = z := ⟨_, rfl⟩
 have aK := (and15 kd).trans ekq
 have hkq : (kq == 15) = false := by rw [← ekq]; simpa using hk
 have aD := (and3 de).trans hd
 clear hk hd ekq
 obtain ⟨W, eW⟩ : ∃ W, W = (w.alloc (.cells #[.int .i64 kd, .int .i64 pk, .int .i64 pn, .int .i64 ps, .int .i64 pt, .int .i64 px, .int .i64 py, .int .i64 pa, .int .i64 vx, .int .i64 vy, .int .i64 sp, .int .i64 de, .int .i64 a, .int .i64 b, .int .i64 ax, .int .i64 ay, .int .i64 tx, .int .i64 ty, .int .i64 ln, .int .i64 rid, .int .i64 rx, .int .i64 ry, .int .i64 rvx, .int .i64 rvy, .int .i64 ran, .int .i64 rsp, .int .i64 rde, .int .i64 rk, .int .i64 rr, .slice rao rn rc] 74)).alloc (.cells #[.int .i64 0, .int .i64 0, .int .i64 0, .int .i64 0, .int .i64 0, .int .i64 0, .int .i64 0, .int .i64 0, .int .i64 0, .int .i64 0, .slice none 0 0] 43) := ⟨_, rfl⟩
 have KW : Hid (Made w.heap.size w W) := by unfold Hid; rw [eW]; exact ((Made.rfl_ _ _).cells (Nat.le_refl _) _ _).cells (by simp) _ _
 have HD : Hid (Has W w.heap.size 74 #[.int .i64 kd, .int .i64 pk, .int .i64 pn, .int .i64 ps, .int .i64 pt, .int .i64 px, .int .i64 py, .int .i64 pa, .int .i64 vx, .int .i64 vy, .int .i64 sp, .int .i64 de, .int .i64 a, .int .i64 b, .int .i64 ax, .int .i64 ay, .int .i64 tx, .int .i64 ty, .int .i64 ln, .int .i64 rid, .int .i64 rx, .int .i64 ry, .int .i64 rvx, .int .i64 rvy, .int .i64 ran, .int .i64 rsp, .int .i64 rde, .int .i64 rk, .int .i64 rr, .slice rao rn rc]) := by unfold Hid; rw [eW]; exact (has_new _ _ _).more _
 have HR : Hid (Has W (w.heap.size + 1) 43 #[.int .i64 0, .int .i64 0, .int .i64 0, .int .i64 0, .int .i64 0, .int .i64 0, .int .i64 0, .int .i64 0, .int .i64 0, .int .i64 0, .slice none 0 0]) := by unfold Hid; rw [eW]; exact has_nxt' _ _ _ _
 have hsz : Hid (W.heap.size = w.heap.size + 2) := by unfold Hid; rw [eW]; simp
 obtain ⟨g0, eg0⟩ : ∃ g, w.heap.size = g := ⟨_, rfl⟩
 obtain ⟨g1, eg1⟩ : ∃ g, g0 + 1 = g := ⟨_, rfl⟩
 have hg1 : w.heap.size ≤ g1 := by omega
 rw [eg0] at HD
 rw [eg0, eg1] at HR
 have b0 := HD.out.at_ 0
 have b1 := HD.out.at_ 1
 have b2 := HD.out.at_ 2
 have b3 := HD.out.at_ 3
 have b4 := HD.out.at_ 4
 have b5 := HD.out.at_ 5
 have b6 := HD.out.at_ 6
 have b7 := HD.out.at_ 7
 have b8 := HD.out.at_ 8
 have b9 := HD.out.at_ 9
 have b10 := HD.out.at_ 10
 have b11 := HD.out.at_ 11
 have b12 := HD.out.at_ 12
 have b13 := HD.out.at_ 13
 have b14 := HD.out.at_ 14
 have b15 := HD.out.at_ 15
 have b16 := HD.out.at_ 16
 have b17 := HD.out.at_ 17
 have b18 := HD.out.at_ 18
 have b19 := HD.out.at_ 19
 have b20 := HD.out.at_ 20
 have b21 := HD.out.at_ 21
 have b22 := HD.out.at_ 22
 have b23 := HD.out.at_ 23
 have b24 := HD.out.at_ 24
 have b25 := HD.out.at_ 25
 have b26 := HD.out.at_ 26
 have b27 := HD.out.at_ 27
 have b28 := HD.out.at_ 28
 have b29 := HD.out.at_ 29
 simp at b0 b1 b2 b3 b4 b5 b6 b7 b8 b9 b10 b11 b12 b13 b14 b15 b16 b17 b18 b19 b20 b21 b22 b23 b24 b25 b26 b27 b28 b29
 have l0 : g0 < W.heap.size := HD.out.here
 have hne : ¬ g1 = g0 := by omega
 have hne' : ¬ g0 = g1 := by omega
 go_enter Tryz.func56, Tryz.ntmps56
 go_upto_region 1 with fail
 rw [← eW]
 clear eW
 try rw [eg0]
 try rw [eg1]
 go_wp2_with fail
 refine (hpl _).mono ?_
 rintro e w1 ⟨ao, c, rfl, hsl, hok, hfr0, k1⟩
 have HPN : Hid (∀ b off s, 0 < n → ao = some ⟨b, off, s⟩ → ¬ b = g1) := fun b off s _ e hb => by
  have h1 := hfr0 b off s e
  have h2 := HR.out.here
  omega
 have HNW : Hid (∀ b off s, ao = some ⟨b, off, s⟩ → w.heap.size ≤ b) := fun b off s e => Nat.le_trans KW.out.1.size (hfr0 b off s e)
 clear hfr0
 have K1 := hid (KW.out.then_ (k1.low KW.out.1.size))
 have HR1 := hid (HR.out.stays k1 HR.out.here)
 have HD1 := hid (HD.out.stays k1 HD.out.here)
 have HSL := hid hsl
 have HOK := hid hok
 clear k1 hsl hok l0 b0 b1 b2 b3 b4 b5 b6 b7 b8 b9 b10 b11 b12 b13 b14 b15 b16 b17 b18 b19 b20 b21 b22 b23 b24 b25 b26 b27 b28 b29
 obtain ⟨W2, eW2⟩ : ∃ W2, W2 = w1.alloc (.cells #[.int .i64 0, .int .i64 X, .int .i64 Y, .int .i64 0, .int .i64 0, .int .i64 A, .int .i64 0, .int .i64 0, .int .i64 k, .int .i64 r, .slice ao n c] 43) := ⟨_, rfl⟩
 have K2 : Hid (Made w.heap.size w W2) := by unfold Hid; rw [eW2]; exact K1.out.cells K1.out.1.size _ _
 have kk2 : Made w1.heap.size w1 W2 := by rw [eW2]; exact (Made.rfl_ _ _).cells (Nat.le_refl _) _ _
 have HR2 := hid (HR1.out.stays kk2 HR1.out.here)
 have HD2 := hid (HD1.out.stays kk2 HD1.out.here)
 have HSL2 : Hid (Sl W2 ao n f) := fun hn => by obtain ⟨b, off, e, hp⟩ := HSL.out hn; exact ⟨b, off, e, hp.kept kk2⟩
 have HP : Hid (Has W2 w1.heap.size 43 #[.int .i64 0, .int .i64 X, .int .i64 Y, .int .i64 0, .int .i64 0, .int .i64 A, .int .i64 0, .int .i64 0, .int .i64 k, .int .i64 r, .slice ao n c]) := by unfold Hid; rw [eW2]; exact has_new _ _ _
 have HPS : Hid (∀ b off s, 0 < n → ao = some ⟨b, off, s⟩ → b < w1.heap.size) := fun b off s hn e => by
  obtain ⟨b', off', e', hp⟩ := HSL.out hn
  rw [e] at e'
  cases e'
  exact hp.here hn
 have hg2 : w.heap.size ≤ w1.heap.size := K1.out.1.size
 obtain ⟨g2, eg2⟩ : ∃ g, w1.heap.size = g := ⟨_, rfl⟩
 rw [eg2] at HP HPS hg2
 have hne2 : ¬ g2 = g1 := by have := HR1.out.here; omega
 have hne2' : ¬ g1 = g2 := by omega
 clear kk2
 go_upto_region 4 with fail
 rw [← eW2]
 clear eW2
 try rw [eg2]
 have b0 := HD2.out.at_ 0
 have b1 := HD2.out.at_ 1
 have b2 := HD2.out.at_ 2
 have b3 := HD2.out.at_ 3
 have b4 := HD2.out.at_ 4
 have b5 := HD2.out.at_ 5
 have b6 := HD2.out.at_ 6
 have b7 := HD2.out.at_ 7
 have b8 := HD2.out.at_ 8
 have b9 := HD2.out.at_ 9
 have b10 := HD2.out.at_ 10
 have b11 := HD2.out.at_ 11
 have b12 := HD2.out.at_ 12
 have b13 := HD2.out.at_ 13
 have b14 := HD2.out.at_ 14
 have b15 := HD2.out.at_ 15
 have b16 := HD2.out.at_ 16
 have b17 := HD2.out.at_ 17
 have b18 := HD2.out.at_ 18
 have b19 := HD2.out.at_ 19
 have b20 := HD2.out.at_ 20
 have b21 := HD2.out.at_ 21
 have b22 := HD2.out.at_ 22
 have b23 := HD2.out.at_ 23
 have b24 := HD2.out.at_ 24
 have b25 := HD2.out.at_ 25
 have b26 := HD2.out.at_ 26
 have b27 := HD2.out.at_ 27
 have b28 := HD2.out.at_ 28
 have b29 := HD2.out.at_ 29
 simp at b0 b1 b2 b3 b4 b5 b6 b7 b8 b9 b10 b11 b12 b13 b14 b15 b16 b17 b18 b19 b20 b21 b22 b23 b24 b25 b26 b27 b28 b29
 have l0 : g0 < W2.heap.size := HD2.out.here
 have p0 := HP.out.at_ 0
 have p1 := HP.out.at_ 1
 have p2 := HP.out.at_ 2
 have p3 := HP.out.at_ 3
 have p4 := HP.out.at_ 4
 have p5 := HP.out.at_ 5
 have p6 := HP.out.at_ 6
 have p7 := HP.out.at_ 7
 have p8 := HP.out.at_ 8
 have p9 := HP.out.at_ 9
 have p10 := HP.out.at_ 10
 simp at p0 p1 p2 p3 p4 p5 p6 p7 p8 p9 p10
 have l2 : g2 < W2.heap.size := HP.out.here
 have c0 := HR2.out.at_ 0
 have c1 := HR2.out.at_ 1
 have c2 := HR2.out.at_ 2
 have c3 := HR2.out.at_ 3
 have c4 := HR2.out.at_ 4
 have c5 := HR2.out.at_ 5
 have c6 := HR2.out.at_ 6
 have c7 := HR2.out.at_ 7
 have c8 := HR2.out.at_ 8
 have c9 := HR2.out.at_ 9
 have c10 := HR2.out.at_ 10
 simp at c0 c1 c2 c3 c4 c5 c6 c7 c8 c9 c10
 have l1 : g1 < W2.heap.size := HR2.out.here
 have fr : ∀ i, W2.frozen? ⟨g1, i, none⟩ = false := HR2.out.free
 go_wp2_with fail
 obtain ⟨VV, eVV⟩ : ∃ VV, VV = (((((((((((W2.setCell ⟨g1, 0, none⟩ (.int .i64 0)).setCell ⟨g1, 1, none⟩ (.int .i64 X)).setCell ⟨g1, 2, none⟩ (.int .i64 Y)).setCell ⟨g1, 3, none⟩ (.int .i64 0)).setCell ⟨g1, 4, none⟩ (.int .i64 0)).setCell ⟨g1, 5, none⟩ (.int .i64 A)).setCell ⟨g1, 6, none⟩ (.int .i64 0)).setCell ⟨g1, 7, none⟩ (.int .i64 0)).setCell ⟨g1, 8, none⟩ (.int .i64 k)).setCell ⟨g1, 9, none⟩ (.int .i64 r)).setCell ⟨g1, 10, none⟩ (.slice ao n c)) := ⟨_, rfl⟩
 have hVV : Has VV g1 43 #[.int .i64 0, .int .i64 X, .int .i64 Y, .int .i64 0, .int .i64 0, .int .i64 A, .int .i64 0, .int .i64 0, .int .i64 k, .int .i64 r, .slice ao n c] := by rw [eVV]; exact HR2.out.put11 _ _ _ _ _ _ _ _ _ _ _
 have kVV : Made w.heap.size w VV := by rw [eVV]; exact K2.out.put11 hg1 _ _ _ _ _ _ _ _ _ _ _
 rw [← eVV]
 have q0 := hVV.at_ 0
 have q1 := hVV.at_ 1
 have q2 := hVV.at_ 2
 have q3 := hVV.at_ 3
 have q4 := hVV.at_ 4
 have q5 := hVV.at_ 5
 have q6 := hVV.at_ 6
 have q7 := hVV.at_ 7
 have q8 := hVV.at_ 8
 have q9 := hVV.at_ 9
 have q10 := hVV.at_ 10
 simp at q0 q1 q2 q3 q4 q5 q6 q7 q8 q9 q10
 refine bodyPost_ret (v := .agg #[.int .i64 0, .int .i64 X, .int .i64 Y, .int .i64 0, .int .i64 0, .int .i64 A, .int .i64 0, .int .i64 0, .int .i64 k, .int .i64 r, .slice ao n c]) (by simp [results, Tryz.results56, go_sem, q0, q1, q2, q3, q4, q5, q6, q7, q8, q9, q10]) rfl ⟨ao, c, rfl, fun hn => ?_, HOK.out, kVV, HNW.out⟩
 have kb : But (fun b => b = g1) W2 VV := by rw [eVV]; exact (But.rfl_ (fun b => b = g1) _).put11 rfl _ _ _ _ _ _ _ _ _ _ _
 refine (HSL2.out).but kb (fun b off s e hb => ?_) hn
 have := HPS.out b off s hn e
 have hb : b = g1 := hb
 have hx : ∀ b off s, 0 < n → ao = some ⟨b, off, s⟩ → ¬ b = g1 := HPN.out
 exact hx b off s hn e hb
theorem dbody_full (kd pk pn ps pt px py pa vx vy sp de a b ax ay tx ty ln rid rx ry rvx rvy ran rsp rde rk rr : Int) (rao : Option Addr) (rn rc : Nat) (w : World) (hk : kd % 16 ≠ 15) (hd : de % 4 ≠ 0) (X Y A k r VX VY SP DE : Int) (n : Nat) (f : Cs) (ivx : I64 vx) (ivy : I64 vy) (isp : I64 sp)
  (eVX : bringF vx (negF 85899345920) 85899345920 = VX) (eVY : bringF vy (negF 85899345920) 85899345920 = VY) (eSP : bringF sp (-85899345920) 85899345920 = SP) (eDE : 1 + de % 34359738368 = DE)
  (hpl : ∀ w, Calls Tryz.prog 99 #[placeV pk pn ps pt px py pa] w fun e v => ∃ ao c, e = .returned (bodyV 0 X Y 0 0 A 0 0 k r (.slice ao n c)) ∧ Sl v ao n f ∧ ((ao = none ∧ n = 0 ∧ c = 0) ∨ ∃ a, ao = some a) ∧ (∀ b off s, ao = some ⟨b, off, s⟩ → w.heap.size ≤ b) ∧ Made w.heap.size w v) :
  Calls Tryz.prog 56 #[.agg #[.int .i64 kd, .int .i64 pk, .int .i64 pn, .int .i64 ps, .int .i64 pt, .int .i64 px, .int .i64 py, .int .i64 pa, .int .i64 vx, .int .i64 vy, .int .i64 sp, .int .i64 de, .int .i64 a, .int .i64 b, .int .i64 ax, .int .i64 ay, .int .i64 tx, .int .i64 ty, .int .i64 ln, .int .i64 rid, .int .i64 rx, .int .i64 ry, .int .i64 rvx, .int .i64 rvy, .int .i64 ran, .int .i64 rsp, .int .i64 rde, .int .i64 rk, .int .i64 rr, .slice rao rn rc]] w fun e v => ∃ ao c, e = .returned (bodyV 0 X Y VX VY A SP DE k r (.slice ao n c)) ∧ Sl v ao n f ∧ ((ao = none ∧ n = 0 ∧ c = 0) ∨ ∃ a, ao = some a) ∧ Made w.heap.size w v ∧ (∀ b off s, ao = some ⟨b, off, s⟩ → w.heap.size ≤ b) := by
 obtain ⟨kq, ekq⟩ : ∃ z, kd % 16 = z := ⟨_, rfl⟩
 have aK := (and15 kd).trans ekq
 have hkq : (kq == 15) = false := by rw [← ekq]; simpa using hk
 obtain ⟨dq, edq⟩ : ∃ z, de % 4 = z := ⟨_, rfl⟩
 have aD := (and3 de).trans edq
 have hdq : (dq == 0) = false := by rw [← edq]; simpa using hd
 obtain ⟨d5, ed5⟩ : ∃ z, de % 34359738368 = z := ⟨_, rfl⟩
 have aE := (and35 de).trans ed5
 have d50 : 0 ≤ d5 := by omega
 have d51 : d5 < 34359738368 := by omega
 rw [ed5] at eDE
 have iM : I64 85899345920 := by unfold I64; omega
 have iN : I64 (-85899345920) := by unfold I64; omega
 have HVX := hid eVX; have HVY := hid eVY; have HSP := hid eSP
 clear hk hd ekq edq ed5 eVX eVY eSP
 obtain ⟨W, eW⟩ : ∃ W, W = (w.alloc (.cells #[.int .i64 kd, .int .i64 pk, .int .i64 pn, .int .i64 ps, .int .i64 pt, .int .i64 px, .int .i64 py, .int .i64 pa, .int .i64 vx, .int .i64 vy, .int .i64 sp, .int .i64 de, .int .i64 a, .int .i64 b, .int .i64 ax, .int .i64 ay, .int .i64 tx, .int .i64 ty, .int .i64 ln, .int .i64 rid, .int .i64 rx, .int .i64 ry, .int .i64 rvx, .int .i64 rvy, .int .i64 ran, .int .i64 rsp, .int .i64 rde, .int .i64 rk, .int .i64 rr, .slice rao rn rc] 74)).alloc (.cells #[.int .i64 0, .int .i64 0, .int .i64 0, .int .i64 0, .int .i64 0, .int .i64 0, .int .i64 0, .int .i64 0, .int .i64 0, .int .i64 0, .slice none 0 0] 43) := ⟨_, rfl⟩
 have KW : Hid (Made w.heap.size w W) := by unfold Hid; rw [eW]; exact ((Made.rfl_ _ _).cells (Nat.le_refl _) _ _).cells (by simp) _ _
 have HD : Hid (Has W w.heap.size 74 #[.int .i64 kd, .int .i64 pk, .int .i64 pn, .int .i64 ps, .int .i64 pt, .int .i64 px, .int .i64 py, .int .i64 pa, .int .i64 vx, .int .i64 vy, .int .i64 sp, .int .i64 de, .int .i64 a, .int .i64 b, .int .i64 ax, .int .i64 ay, .int .i64 tx, .int .i64 ty, .int .i64 ln, .int .i64 rid, .int .i64 rx, .int .i64 ry, .int .i64 rvx, .int .i64 rvy, .int .i64 ran, .int .i64 rsp, .int .i64 rde, .int .i64 rk, .int .i64 rr, .slice rao rn rc]) := by unfold Hid; rw [eW]; exact (has_new _ _ _).more _
 have HR : Hid (Has W (w.heap.size + 1) 43 #[.int .i64 0, .int .i64 0, .int .i64 0, .int .i64 0, .int .i64 0, .int .i64 0, .int .i64 0, .int .i64 0, .int .i64 0, .int .i64 0, .slice none 0 0]) := by unfold Hid; rw [eW]; exact has_nxt' _ _ _ _
 have hsz : Hid (W.heap.size = w.heap.size + 2) := by unfold Hid; rw [eW]; simp
 obtain ⟨g0, eg0⟩ : ∃ g, w.heap.size = g := ⟨_, rfl⟩
 obtain ⟨g1, eg1⟩ : ∃ g, g0 + 1 = g := ⟨_, rfl⟩
 have hg1 : w.heap.size ≤ g1 := by omega
 rw [eg0] at HD
 rw [eg0, eg1] at HR
 have b0 := HD.out.at_ 0
 have b1 := HD.out.at_ 1
 have b2 := HD.out.at_ 2
 have b3 := HD.out.at_ 3
 have b4 := HD.out.at_ 4
 have b5 := HD.out.at_ 5
 have b6 := HD.out.at_ 6
 have b7 := HD.out.at_ 7
 have b8 := HD.out.at_ 8
 have b9 := HD.out.at_ 9
 have b10 := HD.out.at_ 10
 have b11 := HD.out.at_ 11
 have b12 := HD.out.at_ 12
 have b13 := HD.out.at_ 13
 have b14 := HD.out.at_ 14
 have b15 := HD.out.at_ 15
 have b16 := HD.out.at_ 16
 have b17 := HD.out.at_ 17
 have b18 := HD.out.at_ 18
 have b19 := HD.out.at_ 19
 have b20 := HD.out.at_ 20
 have b21 := HD.out.at_ 21
 have b22 := HD.out.at_ 22
 have b23 := HD.out.at_ 23
 have b24 := HD.out.at_ 24
 have b25 := HD.out.at_ 25
 have b26 := HD.out.at_ 26
 have b27 := HD.out.at_ 27
 have b28 := HD.out.at_ 28
 have b29 := HD.out.at_ 29
 simp at b0 b1 b2 b3 b4 b5 b6 b7 b8 b9 b10 b11 b12 b13 b14 b15 b16 b17 b18 b19 b20 b21 b22 b23 b24 b25 b26 b27 b28 b29
 have l0 : g0 < W.heap.size := HD.out.here
 have hne : ¬ g1 = g0 := by omega
 have hne' : ¬ g0 = g1 := by omega
 go_enter Tryz.func56, Tryz.ntmps56
 go_upto_region 1 with fail
 rw [← eW]
 clear eW
 try rw [eg0]
 try rw [eg1]
 go_wp2_with fail
 refine (hpl _).mono ?_
 rintro e w1 ⟨ao, c, rfl, hsl, hok, hfr0, k1⟩
 have HPN : Hid (∀ b off s, 0 < n → ao = some ⟨b, off, s⟩ → ¬ b = g1) := fun b off s _ e hb => by
  have h1 := hfr0 b off s e
  have h2 := HR.out.here
  omega
 have HNW : Hid (∀ b off s, ao = some ⟨b, off, s⟩ → w.heap.size ≤ b) := fun b off s e => Nat.le_trans KW.out.1.size (hfr0 b off s e)
 clear hfr0
 have K1 := hid (KW.out.then_ (k1.low KW.out.1.size))
 have HR1 := hid (HR.out.stays k1 HR.out.here)
 have HD1 := hid (HD.out.stays k1 HD.out.here)
 have HSL := hid hsl
 have HOK := hid hok
 clear k1 hsl hok l0 b0 b1 b2 b3 b4 b5 b6 b7 b8 b9 b10 b11 b12 b13 b14 b15 b16 b17 b18 b19 b20 b21 b22 b23 b24 b25 b26 b27 b28 b29
 obtain ⟨W2, eW2⟩ : ∃ W2, W2 = w1.alloc (.cells #[.int .i64 0, .int .i64 X, .int .i64 Y, .int .i64 0, .int .i64 0, .int .i64 A, .int .i64 0, .int .i64 0, .int .i64 k, .int .i64 r, .slice ao n c] 43) := ⟨_, rfl⟩
 have K2 : Hid (Made w.heap.size w W2) := by unfold Hid; rw [eW2]; exact K1.out.cells K1.out.1.size _ _
 have kk2 : Made w1.heap.size w1 W2 := by rw [eW2]; exact (Made.rfl_ _ _).cells (Nat.le_refl _) _ _
 have HR2 := hid (HR1.out.stays kk2 HR1.out.here)
 have HD2 := hid (HD1.out.stays kk2 HD1.out.here)
 have HSL2 : Hid (Sl W2 ao n f) := fun hn => by obtain ⟨b, off, e, hp⟩ := HSL.out hn; exact ⟨b, off, e, hp.kept kk2⟩
 have HP : Hid (Has W2 w1.heap.size 43 #[.int .i64 0, .int .i64 X, .int .i64 Y, .int .i64 0, .int .i64 0, .int .i64 A, .int .i64 0, .int .i64 0, .int .i64 k, .int .i64 r, .slice ao n c]) := by unfold Hid; rw [eW2]; exact has_new _ _ _
 have HPS : Hid (∀ b off s, 0 < n → ao = some ⟨b, off, s⟩ → b < w1.heap.size) := fun b off s hn e => by
  obtain ⟨b', off', e', hp⟩ := HSL.out hn
  rw [e] at e'
  cases e'
  exact hp.here hn
 have hg2 : w.heap.size ≤ w1.heap.size := K1.out.1.size
 obtain ⟨g2, eg2⟩ : ∃ g, w1.heap.size = g := ⟨_, rfl⟩
 rw [eg2] at HP HPS hg2
 have hne2 : ¬ g2 = g1 := by have := HR1.out.here; omega
 have hne2' : ¬ g1 = g2 := by omega
 clear kk2
 go_upto_region 4 with fail
 rw [← eW2]
 clear eW2
 try rw [eg2]
 have b0 := HD2.out.at_ 0
 have b1 := HD2.out.at_ 1
 have b2 := HD2.out.at_ 2
 have b3 := HD2.out.at_ 3
 have b4 := HD2.out.at_ 4
 have b5 := HD2.out.at_ 5
 have b6 := HD2.out.at_ 6
 have b7 := HD2.out.at_ 7
 have b8 := HD2.out.at_ 8
 have b9 := HD2.out.at_ 9
 have b10 := HD2.out.at_ 10
 have b11 := HD2.out.at_ 11
 have b12 := HD2.out.at_ 12
 have b13 := HD2.out.at_ 13
 have b14 := HD2.out.at_ 14
 have b15 := HD2.out.at_ 15
 have b16 := HD2.out.at_ 16
 have b17 := HD2.out.at_ 17
 have b18 := HD2.out.at_ 18
 have b19 := HD2.out.at_ 19
 have b20 := HD2.out.at_ 20
 have b21 := HD2.out.at_ 21
 have b22 := HD2.out.at_ 22
 have b23 := HD2.out.at_ 23
 have b24 := HD2.out.at_ 24
 have b25 := HD2.out.at_ 25
 have b26 := HD2.out.at_ 26
 have b27 := HD2.out.at_ 27
 have b28 := HD2.out.at_ 28
 have b29 := HD2.out.at_ 29
 simp at b0 b1 b2 b3 b4 b5 b6 b7 b8 b9 b10 b11 b12 b13 b14 b15 b16 b17 b18 b19 b20 b21 b22 b23 b24 b25 b26 b27 b28 b29
 have l0 : g0 < W2.heap.size := HD2.out.here
 have p0 := HP.out.at_ 0
 have p1 := HP.out.at_ 1
 have p2 := HP.out.at_ 2
 have p3 := HP.out.at_ 3
 have p4 := HP.out.at_ 4
 have p5 := HP.out.at_ 5
 have p6 := HP.out.at_ 6
 have p7 := HP.out.at_ 7
 have p8 := HP.out.at_ 8
 have p9 := HP.out.at_ 9
 have p10 := HP.out.at_ 10
 simp at p0 p1 p2 p3 p4 p5 p6 p7 p8 p9 p10
 have l2 : g2 < W2.heap.size := HP.out.here
 have c0 := HR2.out.at_ 0
 have c1 := HR2.out.at_ 1
 have c2 := HR2.out.at_ 2
 have c3 := HR2.out.at_ 3
 have c4 := HR2.out.at_ 4
 have c5 := HR2.out.at_ 5
 have c6 := HR2.out.at_ 6
 have c7 := HR2.out.at_ 7
 have c8 := HR2.out.at_ 8
 have c9 := HR2.out.at_ 9
 have c10 := HR2.out.at_ 10
 simp at c0 c1 c2 c3 c4 c5 c6 c7 c8 c9 c10
 have l1 : g1 < W2.heap.size := HR2.out.here
 have fr : ∀ i, W2.frozen? ⟨g1, i, none⟩ = false := HR2.out.free
 have f2 : ∀ i, W2.frozen? ⟨g2, i, none⟩ = false := HP.out.free
 go_upto_region 7 with fail
 obtain ⟨W3, eW3⟩ : ∃ V, V = W2.setCell ⟨g2, 7, none⟩ (.int .i64 DE) := ⟨_, rfl⟩
 have K3 : Hid (Made w.heap.size w W3) := by unfold Hid; rw [eW3]; exact K2.out.put hg2 _
 have hne0 : ¬ g0 = g2 := by have := HD1.out.here; omega
 have HP3 : Hid (Has W3 g2 43 #[.int .i64 0, .int .i64 X, .int .i64 Y, .int .i64 0, .int .i64 0, .int .i64 A, .int .i64 0, .int .i64 DE, .int .i64 k, .int .i64 r, .slice ao n c]) := by unfold Hid; rw [eW3]; exact HP.out.put 7 _
 have HD3 : Hid (Has W3 g0 74 #[.int .i64 kd, .int .i64 pk, .int .i64 pn, .int .i64 ps, .int .i64 pt, .int .i64 px, .int .i64 py, .int .i64 pa, .int .i64 vx, .int .i64 vy, .int .i64 sp, .int .i64 de, .int .i64 a, .int .i64 b, .int .i64 ax, .int .i64 ay, .int .i64 tx, .int .i64 ty, .int .i64 ln, .int .i64 rid, .int .i64 rx, .int .i64 ry, .int .i64 rvx, .int .i64 rvy, .int .i64 ran, .int .i64 rsp, .int .i64 rde, .int .i64 rk, .int .i64 rr, .slice rao rn rc]) := by unfold Hid; rw [eW3]; exact HD2.out.other _ hne0 _
 have HR3 : Hid (Has W3 g1 43 #[.int .i64 0, .int .i64 0, .int .i64 0, .int .i64 0, .int .i64 0, .int .i64 0, .int .i64 0, .int .i64 0, .int .i64 0, .int .i64 0, .slice none 0 0]) := by unfold Hid; rw [eW3]; exact HR2.out.other _ hne2' _
 have kb3 : But (fun b => b = g1 ∨ b = g2) W2 W3 := by rw [eW3]; exact (But.rfl_ (fun b => b = g1 ∨ b = g2) _).put (p := ⟨g2, 7, none⟩) (.inl (.inr rfl)) _
 have hP2 : ∀ b off s, 0 < n → ao = some ⟨b, off, s⟩ → ¬ (b = g1 ∨ b = g2) := fun b off s hn e hb => by
  rcases hb with hb | hb
  ·exact HPN.out b off s hn e hb
  ·have := HPS.out b off s hn e; omega
 have HP2 := hid hP2
 have HSL3 : Hid (Sl W3 ao n f) := fun hn => (HSL2.out).but kb3 (fun b off s e hb => hP2 b off s hn e hb) hn
 rw [← eW3]
 clear eW3 kb3 hP2 l0 l1 l2 fr f2 b0 b1 b2 b3 b4 b5 b6 b7 b8 b9 b10 b11 b12 b13 b14 b15 b16 b17 b18 b19 b20 b21 b22 b23 b24 b25 b26 b27 b28 b29 c0 c1 c2 c3 c4 c5 c6 c7 c8 c9 c10 p0 p1 p2 p3 p4 p5 p6 p7 p8 p9 p10
 have b0 := HD3.out.at_ 0
 have b1 := HD3.out.at_ 1
 have b2 := HD3.out.at_ 2
 have b3 := HD3.out.at_ 3
 have b4 := HD3.out.at_ 4
 have b5 := HD3.out.at_ 5
 have b6 := HD3.out.at_ 6
 have b7 := HD3.out.at_ 7
 have b8 := HD3.out.at_ 8
 have b9 := HD3.out.at_ 9
 have b10 := HD3.out.at_ 10
 have b11 := HD3.out.at_ 11
 have b12 := HD3.out.at_ 12
 have b13 := HD3.out.at_ 13
 have b14 := HD3.out.at_ 14
 have b15 := HD3.out.at_ 15
 have b16 := HD3.out.at_ 16
 have b17 := HD3.out.at_ 17
 have b18 := HD3.out.at_ 18
 have b19 := HD3.out.at_ 19
 have b20 := HD3.out.at_ 20
 have b21 := HD3.out.at_ 21
 have b22 := HD3.out.at_ 22
 have b23 := HD3.out.at_ 23
 have b24 := HD3.out.at_ 24
 have b25 := HD3.out.at_ 25
 have b26 := HD3.out.at_ 26
 have b27 := HD3.out.at_ 27
 have b28 := HD3.out.at_ 28
 have b29 := HD3.out.at_ 29
 simp at b0 b1 b2 b3 b4 b5 b6 b7 b8 b9 b10 b11 b12 b13 b14 b15 b16 b17 b18 b19 b20 b21 b22 b23 b24 b25 b26 b27 b28 b29
 have l0 : g0 < W3.heap.size := HD3.out.here
 refine reg_made_tail 7 (by kernel_rfl) (by kernel_rfl) ?_
 intro Ty hT fw hf
 have z8 := Class.reads hf b8
 have z9 := Class.reads hf b9
 have z10 := Class.reads hf b10
 simp only [List.take_succ_cons, List.take_zero, List.drop_succ_cons, List.drop_zero]
 repeat (go_big_quiet_step ((first | (go_at_call 87; with_reducible exact hf.made (vbring_is _ _ _ _ _ _ ivx ivy iM HVX.out HVY.out)) | (go_at_call 62; with_reducible exact hf.same (bring_is _ _ _ _ _ isp iN iM HSP.out)))))
 refine wpQuiet_nil ?_
 intro w4 h4
 have k4 := hf.here h4
 have K4 := hid (K3.out.then_ (k4.low K3.out.1.size))
 have HP4 := hid (HP3.out.stays k4 HP3.out.here)
 have HR4 := hid (HR3.out.stays k4 HR3.out.here)
 have HSL4 : Hid (Sl w4 ao n f) := fun hn => by obtain ⟨b, off, e, hp⟩ := HSL3.out hn; exact ⟨b, off, e, hp.kept k4⟩
 clear k4 h4 hf z8 z9 z10 l0 b0 b1 b2 b3 b4 b5 b6 b7 b8 b9 b10 b11 b12 b13 b14 b15 b16 b17 b18 b19 b20 b21 b22 b23 b24 b25 b26 b27 b28 b29
 have p0 := HP4.out.at_ 0
 have p1 := HP4.out.at_ 1
 have p2 := HP4.out.at_ 2
 have p3 := HP4.out.at_ 3
 have p4 := HP4.out.at_ 4
 have p5 := HP4.out.at_ 5
 have p6 := HP4.out.at_ 6
 have p7 := HP4.out.at_ 7
 have p8 := HP4.out.at_ 8
 have p9 := HP4.out.at_ 9
 have p10 := HP4.out.at_ 10
 simp at p0 p1 p2 p3 p4 p5 p6 p7 p8 p9 p10
 have l2 : g2 < w4.heap.size := HP4.out.here
 have f2 : ∀ i, w4.frozen? ⟨g2, i, none⟩ = false := HP4.out.free
 go_upto_region 8 with fail
 obtain ⟨W5, eW5⟩ : ∃ V, V = ((w4.setCell ⟨g2, 3, none⟩ (.int .i64 VX)).setCell ⟨g2, 4, none⟩ (.int .i64 VY)).setCell ⟨g2, 6, none⟩ (.int .i64 SP) := ⟨_, rfl⟩
 have K5 : Hid (Made w.heap.size w W5) := by unfold Hid; rw [eW5]; exact ((K4.out.put hg2 _).put hg2 _).put hg2 _
 have HP5 : Hid (Has W5 g2 43 #[.int .i64 0, .int .i64 X, .int .i64 Y, .int .i64 VX, .int .i64 VY, .int .i64 A, .int .i64 SP, .int .i64 DE, .int .i64 k, .int .i64 r, .slice ao n c]) := by unfold Hid; rw [eW5]; exact ((HP4.out.put 3 _).put 4 _).put 6 _
 have HR5 : Hid (Has W5 g1 43 #[.int .i64 0, .int .i64 0, .int .i64 0, .int .i64 0, .int .i64 0, .int .i64 0, .int .i64 0, .int .i64 0, .int .i64 0, .int .i64 0, .slice none 0 0]) := by unfold Hid; rw [eW5]; exact ((HR4.out.other _ hne2' _).other _ hne2' _).other _ hne2' _
 have kb5 : But (fun b => b = g1 ∨ b = g2) w4 W5 := by rw [eW5]; exact (((But.rfl_ (fun b => b = g1 ∨ b = g2) _).put (p := ⟨g2, 3, none⟩) (.inl (.inr rfl)) _).put (p := ⟨g2, 4, none⟩) (.inl (.inr rfl)) _).put (p := ⟨g2, 6, none⟩) (.inl (.inr rfl)) _
 have HSL5 : Hid (Sl W5 ao n f) := fun hn => (HSL4.out).but kb5 (fun b off s e hb => HP2.out b off s hn e hb) hn
 rw [← eW5]
 clear eW5 kb5 l2 f2 p0 p1 p2 p3 p4 p5 p6 p7 p8 p9 p10
 have p0 := HP5.out.at_ 0
 have p1 := HP5.out.at_ 1
 have p2 := HP5.out.at_ 2
 have p3 := HP5.out.at_ 3
 have p4 := HP5.out.at_ 4
 have p5 := HP5.out.at_ 5
 have p6 := HP5.out.at_ 6
 have p7 := HP5.out.at_ 7
 have p8 := HP5.out.at_ 8
 have p9 := HP5.out.at_ 9
 have p10 := HP5.out.at_ 10
 simp at p0 p1 p2 p3 p4 p5 p6 p7 p8 p9 p10
 have l2 : g2 < W5.heap.size := HP5.out.here
 have c0 := HR5.out.at_ 0
 have c1 := HR5.out.at_ 1
 have c2 := HR5.out.at_ 2
 have c3 := HR5.out.at_ 3
 have c4 := HR5.out.at_ 4
 have c5 := HR5.out.at_ 5
 have c6 := HR5.out.at_ 6
 have c7 := HR5.out.at_ 7
 have c8 := HR5.out.at_ 8
 have c9 := HR5.out.at_ 9
 have c10 := HR5.out.at_ 10
 simp at c0 c1 c2 c3 c4 c5 c6 c7 c8 c9 c10
 have l1 : g1 < W5.heap.size := HR5.out.here
 have fr : ∀ i, W5.frozen? ⟨g1, i, none⟩ = false := HR5.out.free
 go_wp2_with fail
 obtain ⟨VV, eVV⟩ : ∃ VV, VV = (((((((((((W5.setCell ⟨g1, 0, none⟩ (.int .i64 0)).setCell ⟨g1, 1, none⟩ (.int .i64 X)).setCell ⟨g1, 2, none⟩ (.int .i64 Y)).setCell ⟨g1, 3, none⟩ (.int .i64 VX)).setCell ⟨g1, 4, none⟩ (.int .i64 VY)).setCell ⟨g1, 5, none⟩ (.int .i64 A)).setCell ⟨g1, 6, none⟩ (.int .i64 SP)).setCell ⟨g1, 7, none⟩ (.int .i64 DE)).setCell ⟨g1, 8, none⟩ (.int .i64 k)).setCell ⟨g1, 9, none⟩ (.int .i64 r)).setCell ⟨g1, 10, none⟩ (.slice ao n c)) := ⟨_, rfl⟩
 have hVV : Has VV g1 43 #[.int .i64 0, .int .i64 X, .int .i64 Y, .int .i64 VX, .int .i64 VY, .int .i64 A, .int .i64 SP, .int .i64 DE, .int .i64 k, .int .i64 r, .slice ao n c] := by rw [eVV]; exact HR5.out.put11 _ _ _ _ _ _ _ _ _ _ _
 have kVV : Made w.heap.size w VV := by rw [eVV]; exact K5.out.put11 hg1 _ _ _ _ _ _ _ _ _ _ _
 rw [← eVV]
 have q0 := hVV.at_ 0
 have q1 := hVV.at_ 1
 have q2 := hVV.at_ 2
 have q3 := hVV.at_ 3
 have q4 := hVV.at_ 4
 have q5 := hVV.at_ 5
 have q6 := hVV.at_ 6
 have q7 := hVV.at_ 7
 have q8 := hVV.at_ 8
 have q9 := hVV.at_ 9
 have q10 := hVV.at_ 10
 simp at q0 q1 q2 q3 q4 q5 q6 q7 q8 q9 q10
 refine bodyPost_ret (v := .agg #[.int .i64 0, .int .i64 X, .int .i64 Y, .int .i64 VX, .int .i64 VY, .int .i64 A, .int .i64 SP, .int .i64 DE, .int .i64 k, .int .i64 r, .slice ao n c]) (by simp [results, Tryz.results56, go_sem, q0, q1, q2, q3, q4, q5, q6, q7, q8, q9, q10]) rfl ⟨ao, c, rfl, fun hn => ?_, HOK.out, kVV, HNW.out⟩
 have kb : But (fun b => b = g1 ∨ b = g2) W5 VV := by rw [eVV]; exact (But.rfl_ (fun b => b = g1 ∨ b = g2) _).put11 (.inl rfl) _ _ _ _ _ _ _ _ _ _ _
 exact (HSL5.out).but kb (fun b off s e hb => HP2.out b off s hn e hb) hn
end Go.Proofs.YtjhcejmfiekjgaaGreat.Fx