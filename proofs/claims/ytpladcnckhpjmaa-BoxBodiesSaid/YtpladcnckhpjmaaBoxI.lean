/- BoxReaches: the walk, of a polygon. -/
import Derived.Test.YtpladcnckhpjmaaBoxA
import Derived.Test.YtpladcnckhpjmaaBoxH
namespace Go.Proofs.Ytpladcnckhpjmaa.Fx
open Go.ChangeShapes Go.WideShapes Go.ChangeAt Go.RowKit
set_option linter.unusedVariables false

theorem two_no : (2 : Int) ≠ 1 := by decide
set_option maxRecDepth 100000 in
set_option maxHeartbeats 8000000 in
theorem breaches_poly (BS : BoxSays) {a b c d : Int} {n : Nat} {gx gy : Nat → Int} {gk : Int} (h : SeedG a b c d n gx gy gk) (x y an bx b_y : Int) (w : World) (ix : I64 x) (iy : I64 y) (ibx : I64 bx) (iby : I64 b_y) :
    Calls Try.prog 6 #[placeV a b c d x y an, vecV bx b_y] w fun e w' => e = .returned (.bool true) ∧ Made w.heap.size w w' := by
  have HB := hid BS
  have HS := hid h
  have n0 := h.1.n0
  have n1 := h.1.n1
  have hn0 : 0 < n := by omega
  obtain ⟨X, eX⟩ : ∃ X, thou x = X := ⟨_, rfl⟩
  obtain ⟨Y, eY⟩ : ∃ Y, thou y = Y := ⟨_, rfl⟩
  obtain ⟨A, eA⟩ : ∃ A, an % 4294967296 = A := ⟨_, rfl⟩
  have bX := thou_bd ix
  have bY := thou_bd iy
  rw [eX] at bX
  rw [eY] at bY
  have iX : I64 X := by unfold I64; omega
  have iY : I64 Y := by unfold I64; omega
  have iA : I64 A := by unfold I64; omega
  have eX := hid eX; have eY := hid eY; have eA := hid eA
  obtain ⟨U, eU⟩ : ∃ z, thou bx = z := ⟨_, rfl⟩
  obtain ⟨V, eV⟩ : ∃ z, thou b_y = z := ⟨_, rfl⟩
  have bU := thou_bd ibx
  have bV := thou_bd iby
  rw [eU] at bU
  rw [eV] at bV
  have EU := hid (show bringF bx (negF 4294967296000) 4294967296000 = U from eU)
  have EV := hid (show bringF b_y (negF 4294967296000) 4294967296000 = V from eV)
  have iM : I64 4294967296000 := by unfold I64; omega
  obtain ⟨X2, eX2⟩ : ∃ z, X + U = z := ⟨_, rfl⟩
  obtain ⟨Y2, eY2⟩ : ∃ z, Y + V = z := ⟨_, rfl⟩
  have EX2 := hid (show addF X U = X2 by rw [← eX2]; exact add_small (by omega) (by omega))
  have EY2 := hid (show addF Y V = Y2 by rw [← eY2]; exact add_small (by omega) (by omega))
  have iX2 : I64 X2 := by unfold I64; omega
  have iY2 : I64 Y2 := by unfold I64; omega
  have iU : I64 U := by unfold I64; omega
  have iV : I64 V := by unfold I64; omega
  have GI := hid (grid_i64 h.1)
  have TF := grid_tiny h.1
  obtain ⟨l1, m1, ex⟩ := Ext.has (offX (grid gx gy gk) (cs (stepF A)) (sn (stepF A))) n hn0
  obtain ⟨l2, m2, ey⟩ := Ext.has (offY (grid gx gy gk) (cs (stepF A)) (sn (stepF A))) n hn0
  obtain ⟨r, ht⟩ := top_has (grid gx gy gk) n
  obtain ⟨F, eF⟩ : ∃ F, grid gx gy gk = F := ⟨_, rfl⟩
  have EF := hid eF
  rw [eF] at GI TF ex ey ht
  have HT := hid ht
  have GC : Hid (Cin F n) := GI.out
  obtain ⟨A0, A1⟩ : 0 ≤ A ∧ A < 4294967296 := by have := eA.out; omega
  obtain ⟨s1, s2, s3⟩ := step_at A0 A1
  obtain ⟨r0, r1⟩ := top_tiny TF ht
  have ro : ∀ i, i < n → _ := fun i hi => reach_off TF ht (by rw [s1]; exact s2) (by rw [s1]; exact s3) (k := stepF A) hi
  have b1 : -(r + 1048576) ≤ l1 := by obtain ⟨i, hi, e⟩ := ex.2.1; have := ro i hi; omega
  have b2 : m1 ≤ r + 1048576 := by obtain ⟨i, hi, e⟩ := ex.2.2; have := ro i hi; omega
  have b3 : -(r + 1048576) ≤ l2 := by obtain ⟨i, hi, e⟩ := ey.2.1; have := ro i hi; omega
  have b4 : m2 ≤ r + 1048576 := by obtain ⟨i, hi, e⟩ := ey.2.2; have := ro i hi; omega
  have b5 : l1 ≤ m1 := by obtain ⟨i, hi, e⟩ := ex.2.1; have := ex.1 i hi; omega
  have b6 : l2 ≤ m2 := by obtain ⟨i, hi, e⟩ := ey.2.1; have := ey.1 i hi; omega
  obtain ⟨pe1, pe2⟩ := place_ext (cn_cs _) (cn_sn _) TF (by unfold Pl; omega) (by unfold Pl; omega) ex ey (placeF F (cs (stepF A)) (sn (stepF A)) X Y) (fun _ => rfl)
  obtain ⟨pe3, pe4⟩ := place_ext (cn_cs _) (cn_sn _) TF (X := X2) (Y := Y2) (by unfold Pl; omega) (by unfold Pl; omega) ex ey (placeF F (cs (stepF A)) (sn (stepF A)) X2 Y2) (fun _ => rfl)
  have HO := hid (fun b off cap (w : World) (p : Pts w b off n F) => BS.poly X Y A b off n cap F _ _ _ _ w iX iY iA (by omega) n1 p GI.out pe1 pe2)
  have HO2 := hid (fun b off cap (w : World) (p : Pts w b off n F) => BS.poly X2 Y2 A b off n cap F _ _ _ _ w iX2 iY2 iA (by omega) n1 p GI.out pe3 pe4)
  have q1 : l1 + X2 = l1 + X + U := by omega
  have q2 : l2 + Y2 = l2 + Y + V := by omega
  have q3 : m1 + X2 = m1 + X + U := by omega
  have q4 : m2 + Y2 = m2 + Y + V := by omega
  rw [q1, q2, q3, q4] at HO2
  obtain ⟨lx, e1⟩ : ∃ z, l1 + X = z := ⟨_, rfl⟩
  obtain ⟨ly, e2⟩ : ∃ z, l2 + Y = z := ⟨_, rfl⟩
  obtain ⟨hx, e3⟩ : ∃ z, m1 + X = z := ⟨_, rfl⟩
  obtain ⟨hy, e4⟩ : ∃ z, m2 + Y = z := ⟨_, rfl⟩
  rw [e1, e2, e3, e4] at HO HO2
  obtain ⟨nlx, f1⟩ : ∃ z, lx + U = z := ⟨_, rfl⟩
  obtain ⟨nly, f2⟩ : ∃ z, ly + V = z := ⟨_, rfl⟩
  obtain ⟨nhx, f3⟩ : ∃ z, hx + U = z := ⟨_, rfl⟩
  obtain ⟨nhy, f4⟩ : ∃ z, hy + V = z := ⟨_, rfl⟩
  rw [f1, f2, f3, f4] at HO2
  have F1 := hid (show addF lx U = nlx by rw [← f1]; exact add_small (by omega) (by omega))
  have F2 := hid (show addF ly V = nly by rw [← f2]; exact add_small (by omega) (by omega))
  have F3 := hid (show addF hx U = nhx by rw [← f3]; exact add_small (by omega) (by omega))
  have F4 := hid (show addF hy V = nhy by rw [← f4]; exact add_small (by omega) (by omega))
  have j1 : I64 lx := by unfold I64; omega
  have j2 : I64 ly := by unfold I64; omega
  have j3 : I64 hx := by unfold I64; omega
  have j4 : I64 hy := by unfold I64; omega
  obtain ⟨D, eD⟩ : ∃ z, r + 1048576 = z := ⟨_, rfl⟩
  have iD : I64 D := by unfold I64; omega
  obtain ⟨g1, k1⟩ : ∃ z, X - D = z := ⟨_, rfl⟩
  obtain ⟨g2, k2⟩ : ∃ z, Y - D = z := ⟨_, rfl⟩
  obtain ⟨g3, k3⟩ : ∃ z, X + D = z := ⟨_, rfl⟩
  obtain ⟨g4, k4⟩ : ∃ z, Y + D = z := ⟨_, rfl⟩
  have HG := hid (fun w => BS.grow X Y X Y D w iX iY iX iY iD)
  rw [take_small (by omega) (by omega), take_small (a := Y) (by omega) (by omega), add_small (by omega) (by omega), add_small (a := Y) (by omega) (by omega), k1, k2, k3, k4] at HG
  have HL := hid (fun w => BS.holds g1 g2 g3 g4 lx ly true w (by unfold Rg; omega) (by unfold Rg; omega) (by unfold Rg; omega) (by unfold Rg; omega) (by unfold Rg; omega) (by unfold Rg; omega) (yes_iff ⟨⟨by omega, by omega⟩, by omega, by omega⟩))
  have HH := hid (fun w => BS.holds g1 g2 g3 g4 hx hy true w (by unfold Rg; omega) (by unfold Rg; omega) (by unfold Rg; omega) (by unfold Rg; omega) (by unfold Rg; omega) (by unfold Rg; omega) (yes_iff ⟨⟨by omega, by omega⟩, by omega, by omega⟩))
  clear BS h eU eV eX2 eY2 e1 e2 e3 e4 f1 f2 f3 f4 k1 k2 k3 k4 b1 b2 ht ro b3 b4 b5 b6 pe1 pe2 pe3 pe4 q1 q2 q3 q4 ex ey eF s1 s2 s3 A0 A1 TF
  go_enter Try.func6, Try.ntmps6
  go_wp2_with fail
  refine (bfit_is HB.out _).mono ?_
  rintro e w1 ⟨rfl, k1⟩
  have p0 := k1.reads (p := ⟨w.heap.size, 0, none⟩) (x := .int .i64 a) (by go_simp)
  have p1 := k1.reads (p := ⟨w.heap.size, 1, none⟩) (x := .int .i64 b) (by go_simp)
  have p2 := k1.reads (p := ⟨w.heap.size, 2, none⟩) (x := .int .i64 c) (by go_simp)
  have p3 := k1.reads (p := ⟨w.heap.size, 3, none⟩) (x := .int .i64 d) (by go_simp)
  have p4 := k1.reads (p := ⟨w.heap.size, 4, none⟩) (x := .int .i64 x) (by go_simp)
  have p5 := k1.reads (p := ⟨w.heap.size, 5, none⟩) (x := .int .i64 y) (by go_simp)
  have p6 := k1.reads (p := ⟨w.heap.size, 6, none⟩) (x := .int .i64 an) (by go_simp)
  have v0 := k1.reads (p := ⟨w.heap.size + 1, 0, none⟩) (x := .int .i64 bx) (by go_simp)
  have v1 := k1.reads (p := ⟨w.heap.size + 1, 1, none⟩) (x := .int .i64 b_y) (by go_simp)
  have vf : ∀ i, w1.frozen? ⟨w.heap.size + 1, i, none⟩ = false := fun i => (k1.2 _).trans (by go_simp)
  have M1 := hid (made_box (made_box k1))
  clear k1
  go_wp2_with fail
  refine (place_poly HS.out x y an X Y A _ ix iy eX.out eY.out eA.out).mono ?_
  rw [EF.out]
  rintro e w2 ⟨g, cap, rfl, hg, hrow, k2⟩
  have HR := hid hrow
  have lg := hrow.here
  have M2 : Hid (Made w.heap.size w w2) := M1.out.then_ (k2.low M1.out.1.size)
  have v0 := k2.reads v0
  have v1 := k2.reads v1
  have vf : ∀ i, w2.frozen? ⟨w.heap.size + 1, i, none⟩ = false := fun i => (k2.2 _).trans (vf i)
  have lv : w.heap.size + 1 < w2.heap.size := World.block_lt_of_cell? _ _ v0
  have gv : g ≠ w.heap.size + 1 := by have := World.block_lt_of_cell? _ _ (‹w1.cell? ⟨w.heap.size + 1, 0, none⟩ = _›); simp at this; omega
  clear k2 p0 p1 p2 p3 p4 p5 p6 hg hrow
  go_wp2_with fail
  obtain ⟨W, eW⟩ : ∃ W, W = w2.alloc (.cells #[.int .i64 0, .int .i64 X, .int .i64 Y, .int .i64 0, .int .i64 0, .int .i64 A, .int .i64 0, .int .i64 0, .int .i64 2, .int .i64 0, .slice (some ⟨g, 0, none⟩) n cap] 34) := ⟨_, rfl⟩
  have hT : Has W w2.heap.size 34 #[.int .i64 0, .int .i64 X, .int .i64 Y, .int .i64 0, .int .i64 0, .int .i64 A, .int .i64 0, .int .i64 0, .int .i64 2, .int .i64 0, .slice (some ⟨g, 0, none⟩) n cap] := by rw [eW]; exact has_new _ _ _
  have MW : Hid (Made w.heap.size w W) := by unfold Hid; rw [eW]; exact M2.out.cells M2.out.1.size _ _
  have v0 : W.cell? ⟨w.heap.size + 1, 0, none⟩ = some (.int .i64 bx) := by rw [eW]; exact cell_more v0
  have v1 : W.cell? ⟨w.heap.size + 1, 1, none⟩ = some (.int .i64 b_y) := by rw [eW]; exact cell_more v1
  have vf : ∀ i, W.frozen? ⟨w.heap.size + 1, i, none⟩ = false := fun i => by rw [eW, frozen?_alloc_cells]; exact vf i
  have RW : Hid (Row W g 26 n F) := by unfold Hid; rw [eW]; exact HR.out.more _
  have HT1 := hid hT
  rw [← eW]
  clear eW hT
  go_wp2_with fail
  refine (vbring_is bx b_y 4294967296000 U V W ibx iby iM EU.out EV.out).mono ?_
  rintro e w3 ⟨rfl, k3⟩
  have v0 := k3.reads v0
  have v1 := k3.reads v1
  have vf : ∀ i, w3.frozen? ⟨w.heap.size + 1, i, none⟩ = false := fun i => (k3.2 _).trans (vf i)
  have HT3 := hid (HT1.out.stays k3 HT1.out.here)
  have M3 : Hid (Made w.heap.size w w3) := MW.out.then_ (k3.low MW.out.1.size)
  have R3 := hid (RW.out.kept k3)
  clear k3 HT1 MW
  go_upto_region 5 with fail
  obtain ⟨W4, eW⟩ : ∃ W, W = (w3.setCell ⟨w.heap.size + 1, 0, none⟩ (.int .i64 U)).setCell ⟨w.heap.size + 1, 1, none⟩ (.int .i64 V) := ⟨_, rfl⟩
  have nv : w2.heap.size ≠ w.heap.size + 1 := by omega
  have hT : Has W4 w2.heap.size 34 #[.int .i64 0, .int .i64 X, .int .i64 Y, .int .i64 0, .int .i64 0, .int .i64 A, .int .i64 0, .int .i64 0, .int .i64 2, .int .i64 0, .slice (some ⟨g, 0, none⟩) n cap] := by rw [eW]; exact (HT3.out.other ⟨w.heap.size + 1, 0, none⟩ nv _).other ⟨w.heap.size + 1, 1, none⟩ nv _
  have u0 : W4.cell? ⟨w.heap.size + 1, 0, none⟩ = some (.int .i64 U) := by rw [eW]; go_simp
  have u1 : W4.cell? ⟨w.heap.size + 1, 1, none⟩ = some (.int .i64 V) := by rw [eW]; go_simp
  have M4 : Hid (Made w.heap.size w W4) := by unfold Hid; rw [eW]; exact (M3.out.put (p := ⟨w.heap.size + 1, 0, none⟩) (by simp) _).put (p := ⟨w.heap.size + 1, 1, none⟩) (by simp) _
  have R4 : Hid (Row W4 g 26 n F) := by unfold Hid; rw [eW]; exact (R3.out.other ⟨w.heap.size + 1, 0, none⟩ gv _).other ⟨w.heap.size + 1, 1, none⟩ gv _
  rw [← eW]
  clear eW v0 v1 vf HT3 M3
  have c0 := hT.at_ 0
  have c1 := hT.at_ 1
  have c2 := hT.at_ 2
  have c3 := hT.at_ 3
  have c4 := hT.at_ 4
  have c5 := hT.at_ 5
  have c6 := hT.at_ 6
  have c7 := hT.at_ 7
  have c8 := hT.at_ 8
  have c9 := hT.at_ 9
  have c10 := hT.at_ 10
  simp at c0 c1 c2 c3 c4 c5 c6 c7 c8 c9 c10
  have HT4 := hid hT
  clear hT
  go_wp2_with fail
  refine (HO.out g 0 cap W4 R4.out.pts).mono ?_
  rintro e w5 ⟨rfl, k5⟩
  have c0 := k5.reads c0
  have c1 := k5.reads c1
  have c2 := k5.reads c2
  have c3 := k5.reads c3
  have c4 := k5.reads c4
  have c5 := k5.reads c5
  have c6 := k5.reads c6
  have c7 := k5.reads c7
  have c8 := k5.reads c8
  have c9 := k5.reads c9
  have c10 := k5.reads c10
  have u0 := k5.reads u0
  have u1 := k5.reads u1
  have HT5 := hid (HT4.out.stays k5 HT4.out.here)
  have M5 : Hid (Made w.heap.size w w5) := M4.out.then_ (k5.low M4.out.1.size)
  have l5 : w2.heap.size < w5.heap.size := HT5.out.here
  have R5 := hid (R4.out.kept k5)
  clear k5 HT4 M4
  go_wp2_with fail
  obtain ⟨Q, eW⟩ : ∃ W, W = w5.alloc (.cells #[.int .i64 lx, .int .i64 ly, .int .i64 hx, .int .i64 hy] 37) := ⟨_, rfl⟩
  have hQ : Has Q w5.heap.size 37 #[.int .i64 lx, .int .i64 ly, .int .i64 hx, .int .i64 hy] := by rw [eW]; exact has_new _ _ _
  have HT6 : Hid (Has Q w2.heap.size 34 #[.int .i64 0, .int .i64 X, .int .i64 Y, .int .i64 0, .int .i64 0, .int .i64 A, .int .i64 0, .int .i64 0, .int .i64 2, .int .i64 0, .slice (some ⟨g, 0, none⟩) n cap]) := by unfold Hid; rw [eW]; exact HT5.out.more _
  have MQ : Hid (Made w.heap.size w Q) := by unfold Hid; rw [eW]; exact M5.out.cells M5.out.1.size _ _
  have u0 : Q.cell? ⟨w.heap.size + 1, 0, none⟩ = some (.int .i64 U) := by rw [eW]; exact cell_more u0
  have u1 : Q.cell? ⟨w.heap.size + 1, 1, none⟩ = some (.int .i64 V) := by rw [eW]; exact cell_more u1
  have RQ : Hid (Row Q g 26 n F) := by unfold Hid; rw [eW]; exact R5.out.more _
  rw [← eW]
  clear eW c0 c1 c2 c3 c4 c5 c6 c7 c8 c9 c10 HT5 M5
  have c0 := HT6.out.at_ 0
  have c1 := HT6.out.at_ 1
  have c2 := HT6.out.at_ 2
  have c3 := HT6.out.at_ 3
  have c4 := HT6.out.at_ 4
  have c5 := HT6.out.at_ 5
  have c6 := HT6.out.at_ 6
  have c7 := HT6.out.at_ 7
  have c8 := HT6.out.at_ 8
  have c9 := HT6.out.at_ 9
  have c10 := HT6.out.at_ 10
  simp at c0 c1 c2 c3 c4 c5 c6 c7 c8 c9 c10
  have q0 := hQ.at_ 0
  have q1 := hQ.at_ 1
  have q2 := hQ.at_ 2
  have q3 := hQ.at_ 3
  simp at q0 q1 q2 q3
  have HQ := hid hQ
  clear hQ
  refine reg_made (by kernel_rfl) (by kernel_rfl) ?_
  intro Ty hT fw hf
  have c0' := Class.reads hf c0
  have c1' := Class.reads hf c1
  have c2' := Class.reads hf c2
  have c3' := Class.reads hf c3
  have c4' := Class.reads hf c4
  have c5' := Class.reads hf c5
  have c6' := Class.reads hf c6
  have c7' := Class.reads hf c7
  have c8' := Class.reads hf c8
  have c9' := Class.reads hf c9
  have c10' := Class.reads hf c10
  have q0' := Class.reads hf q0
  have q1' := Class.reads hf q1
  have q2' := Class.reads hf q2
  have q3' := Class.reads hf q3
  have KP : Hid (∀ x, Pts (fw x) g 0 n F) := fun x => (RQ.out.kept (hf.1 x)).pts
  repeat (go_big_quiet_step ((first | (go_at_call 20; with_reducible exact hf.made (reach_is 2 0 g 0 n cap F _ two_no n1 (KP.out _) GC.out r HT.out)) | (go_at_call 14; with_reducible exact hf.made (HG.out _)) | (go_at_call 13; with_reducible first | exact hf.made (HL.out _) | exact hf.made (HH.out _)))))
  refine wpQuiet_nil ?_
  intro w7 h7
  have k7 := hf.here h7
  have c0 := k7.reads c0
  have c1 := k7.reads c1
  have c2 := k7.reads c2
  have c3 := k7.reads c3
  have c4 := k7.reads c4
  have c5 := k7.reads c5
  have c6 := k7.reads c6
  have c7 := k7.reads c7
  have c8 := k7.reads c8
  have c9 := k7.reads c9
  have c10 := k7.reads c10
  have q0 := k7.reads q0
  have q1 := k7.reads q1
  have q2 := k7.reads q2
  have q3 := k7.reads q3
  have u0 := k7.reads u0
  have u1 := k7.reads u1
  have HT7 := hid (HT6.out.stays k7 HT6.out.here)
  have HQ7 := hid (HQ.out.stays k7 HQ.out.here)
  have M7 : Hid (Made w.heap.size w w7) := MQ.out.then_ (k7.low MQ.out.1.size)
  have R7 := hid (RQ.out.kept k7)
  clear k7 h7 hf HT6 HQ MQ
  go_wp2_with fail
  refine (vadd_is X Y U V X2 Y2 w7 iX iY iU iV EX2.out EY2.out).mono ?_
  rintro e w8 ⟨rfl, k8⟩
  have c0 := k8.reads c0
  have c1 := k8.reads c1
  have c2 := k8.reads c2
  have c3 := k8.reads c3
  have c4 := k8.reads c4
  have c5 := k8.reads c5
  have c6 := k8.reads c6
  have c7 := k8.reads c7
  have c8 := k8.reads c8
  have c9 := k8.reads c9
  have c10 := k8.reads c10
  have q0 := k8.reads q0
  have q1 := k8.reads q1
  have q2 := k8.reads q2
  have q3 := k8.reads q3
  have u0 := k8.reads u0
  have u1 := k8.reads u1
  have HT8 := hid (HT7.out.stays k8 HT7.out.here)
  have HQ8 := hid (HQ7.out.stays k8 HQ7.out.here)
  have M8 : Hid (Made w.heap.size w w8) := M7.out.then_ (k8.low M7.out.1.size)
  have R8 := hid (R7.out.kept k8)
  have cf : ∀ i, w8.frozen? ⟨w2.heap.size, i, none⟩ = false := fun i => HT8.out.free i
  clear k8 HT7 HQ7 M7
  go_upto_region 9 with fail
  obtain ⟨Z, eW⟩ : ∃ W, W = (w8.setCell ⟨w2.heap.size, 1, none⟩ (.int .i64 X2)).setCell ⟨w2.heap.size, 2, none⟩ (.int .i64 Y2) := ⟨_, rfl⟩
  have n5 : w5.heap.size ≠ w2.heap.size := by omega
  have hT : Has Z w2.heap.size 34 #[.int .i64 0, .int .i64 X2, .int .i64 Y2, .int .i64 0, .int .i64 0, .int .i64 A, .int .i64 0, .int .i64 0, .int .i64 2, .int .i64 0, .slice (some ⟨g, 0, none⟩) n cap] := by rw [eW]; exact (HT8.out.put 1 (.int .i64 X2)).put 2 (.int .i64 Y2)
  have hQ : Has Z w5.heap.size 37 #[.int .i64 lx, .int .i64 ly, .int .i64 hx, .int .i64 hy] := by rw [eW]; exact (HQ8.out.other ⟨w2.heap.size, 1, none⟩ n5 _).other ⟨w2.heap.size, 2, none⟩ n5 _
  have MZ : Hid (Made w.heap.size w Z) := by unfold Hid; rw [eW]; exact (M8.out.put (p := ⟨w2.heap.size, 1, none⟩) (by simp; omega) _).put (p := ⟨w2.heap.size, 2, none⟩) (by simp; omega) _
  have u0 : Z.cell? ⟨w.heap.size + 1, 0, none⟩ = some (.int .i64 U) := by rw [eW]; exact cell_else (by simp; omega) (cell_else (by simp; omega) u0)
  have u1 : Z.cell? ⟨w.heap.size + 1, 1, none⟩ = some (.int .i64 V) := by rw [eW]; exact cell_else (by simp; omega) (cell_else (by simp; omega) u1)
  have RZ : Hid (Row Z g 26 n F) := by unfold Hid; rw [eW]; exact (R8.out.other ⟨w2.heap.size, 1, none⟩ (by simp; omega) _).other ⟨w2.heap.size, 2, none⟩ (by simp; omega) _
  rw [← eW]
  clear eW c0 c1 c2 c3 c4 c5 c6 c7 c8 c9 c10 q0 q1 q2 q3 cf HT8 HQ8 M8
  have c0 := hT.at_ 0
  have c1 := hT.at_ 1
  have c2 := hT.at_ 2
  have c3 := hT.at_ 3
  have c4 := hT.at_ 4
  have c5 := hT.at_ 5
  have c6 := hT.at_ 6
  have c7 := hT.at_ 7
  have c8 := hT.at_ 8
  have c9 := hT.at_ 9
  have c10 := hT.at_ 10
  simp at c0 c1 c2 c3 c4 c5 c6 c7 c8 c9 c10
  have q0 := hQ.at_ 0
  have q1 := hQ.at_ 1
  have q2 := hQ.at_ 2
  have q3 := hQ.at_ 3
  simp at q0 q1 q2 q3
  clear hT hQ
  refine reg_made (by kernel_rfl) (by kernel_rfl) ?_
  intro Ty hT fw hf
  have c0' := Class.reads hf c0
  have c1' := Class.reads hf c1
  have c2' := Class.reads hf c2
  have c3' := Class.reads hf c3
  have c4' := Class.reads hf c4
  have c5' := Class.reads hf c5
  have c6' := Class.reads hf c6
  have c7' := Class.reads hf c7
  have c8' := Class.reads hf c8
  have c9' := Class.reads hf c9
  have c10' := Class.reads hf c10
  have q0' := Class.reads hf q0
  have q1' := Class.reads hf q1
  have q2' := Class.reads hf q2
  have q3' := Class.reads hf q3
  have u0' := Class.reads hf u0
  have u1' := Class.reads hf u1
  have KP : Hid (∀ x, Pts (fw x) g 0 n F) := fun x => (RZ.out.kept (hf.1 x)).pts
  repeat (go_big_quiet_step ((first | (go_at_call 9; with_reducible exact hf.made (HO2.out g 0 cap _ (KP.out _))) | (go_at_call 11; with_reducible first | exact hf.made (vadd_is _ _ _ _ _ _ _ j1 j2 iU iV F1.out F2.out) | exact hf.made (vadd_is _ _ _ _ _ _ _ j3 j4 iU iV F3.out F4.out)))))
  refine wpQuiet_nil ?_
  intro w9 h9
  have k9 := hf.here h9
  go_wp2_with fail
  go_ret
  exact ⟨rfl, MZ.out.then_ (k9.low MZ.out.1.size)⟩
end Go.Proofs.Ytpladcnckhpjmaa.Fx
