/- BoxTurns: the walk, of a polygon (whole turns). -/
import Derived.Test.YtpladcnckhpjmaaBoxA
import Derived.Test.YtpladcnckhpjmaaBoxD
import Derived.Deep.DeepCutAuto
namespace Go.Proofs.Ytpladcnckhpjmaa.Fx
open Go.ChangeShapes Go.WideShapes Go.ChangeAt Go.RowKit
set_option linter.unusedVariables false

set_option maxRecDepth 100000 in
set_option maxHeartbeats 8000000 in
theorem bturns_zero (BS : BoxSays) {a b c d : Int} {n : Nat} {gx gy : Nat → Int} {gk : Int} (h : SeedG a b c d n gx gy gk) (x y an q : Int) (w : World) (ix : I64 x) (iy : I64 y) (hq : 0 ≤ q ∧ q ≤ 255) (hr : q % 4 = 0) :
    Calls Try.prog 5 #[placeV a b c d x y an, .int .u8 q] w fun e w' => e = .returned (.bool true) ∧ Made w.heap.size w w' := by
  have HB := hid BS
  have HS := hid h
  have n0 := h.1.n0
  have n1 := h.1.n1
  have hn0 : 0 < n := by omega
  obtain ⟨X, eX⟩ : ∃ X, thou x = X := ⟨_, rfl⟩
  obtain ⟨Y, eY⟩ : ∃ Y, thou y = Y := ⟨_, rfl⟩
  obtain ⟨A, eA⟩ : ∃ A, an % 4294967296 = A := ⟨_, rfl⟩
  have bX := thou_bd ix
  have bY := thou_bd iy
  rw [eX] at bX
  rw [eY] at bY
  have iX : I64 X := by unfold I64; omega
  have iY : I64 Y := by unfold I64; omega
  have iA : I64 A := by unfold I64; omega
  have eX := hid eX; have eY := hid eY; have eA := hid eA
  have GI := hid (grid_i64 h.1)
  have TF := grid_tiny h.1
  obtain ⟨l1, m1, ex⟩ := Ext.has (offX (grid gx gy gk) (cs (stepF A)) (sn (stepF A))) n hn0
  obtain ⟨l2, m2, ey⟩ := Ext.has (offY (grid gx gy gk) (cs (stepF A)) (sn (stepF A))) n hn0
  have S1 := straddle_x h.1 h.2.1.2 (cn_cs _) (cn_sn _) ex
  have S2 := straddle_y h.1 h.2.1.2 (cn_cs _) (cn_sn _) ey
  obtain ⟨F, eF⟩ : ∃ F, grid gx gy gk = F := ⟨_, rfl⟩
  have EF := hid eF
  rw [eF] at GI TF ex ey
  obtain ⟨q0, q1⟩ := hq
  obtain ⟨A', eA'⟩ : ∃ z, (A + q * 1073741824) % 4294967296 = z := ⟨_, rfl⟩
  obtain ⟨A0, A1⟩ : 0 ≤ A ∧ A < 4294967296 := by have := eA.out; omega
  have iA' : I64 A' := by unfold I64; omega
  have tq : (q * 4294967296).tdiv 4 = q * 1073741824 := by rw [Int.tdiv_eq_ediv_of_nonneg (by omega)]; omega
  obtain ⟨z0, z1, z2, z3⟩ := turned_ext TF A0 A1 q0 eA' ex ey
  have aA' := and32 (A + q * 1073741824)
  rw [eA'] at aA'
  have pX : Pl X := by unfold Pl; omega
  have pY : Pl Y := by unfold Pl; omega
  obtain ⟨pe1, pe2⟩ := place_ext (cn_cs _) (cn_sn _) TF pX pY ex ey (placeF F (cs (stepF A)) (sn (stepF A)) X Y) (fun _ => rfl)
  obtain ⟨⟨bd1, bd2⟩, bd3, bd4⟩ := off_ext (cn_cs _) (cn_sn _) TF ex ey
  obtain rfl := z0 hr
  have tm : q.tmod 4 = 0 := by rw [Int.tmod_eq_emod_of_nonneg q0]; exact hr
  have HO := hid (fun b off cap (w : World) (p : Pts w b off n F) => BS.poly X Y A' b off n cap F _ _ _ _ w iX iY iA (by omega) n1 p GI.out pe1 pe2)
  have HO' := HO
  have knd : ((2 : Int) == 1) = false := rfl
  obtain ⟨lx, e1⟩ : ∃ z, l1 + X = z := ⟨_, rfl⟩
  obtain ⟨ly, e2⟩ : ∃ z, l2 + Y = z := ⟨_, rfl⟩
  obtain ⟨hx, e3⟩ : ∃ z, m1 + X = z := ⟨_, rfl⟩
  obtain ⟨hy, e4⟩ : ∃ z, m2 + Y = z := ⟨_, rfl⟩
  rw [e1, e2, e3, e4] at HO HO'
  clear z1 z2 z3 pe1 pe2 ex ey hr bd1 bd2 bd3 bd4 e1 e2 e3 e4 S1 S2 TF
  have EA' := hid eA'
  clear BS h eF eA' pX pY
  go_enter Try.func5, Try.ntmps5
  go_wp2_with fail
  refine (bfit_is HB.out _).mono ?_
  rintro e w1 ⟨rfl, k1⟩
  have p0 := k1.reads (p := ⟨w.heap.size, 0, none⟩) (x := .int .i64 a) (by go_simp)
  have p1 := k1.reads (p := ⟨w.heap.size, 1, none⟩) (x := .int .i64 b) (by go_simp)
  have p2 := k1.reads (p := ⟨w.heap.size, 2, none⟩) (x := .int .i64 c) (by go_simp)
  have p3 := k1.reads (p := ⟨w.heap.size, 3, none⟩) (x := .int .i64 d) (by go_simp)
  have p4 := k1.reads (p := ⟨w.heap.size, 4, none⟩) (x := .int .i64 x) (by go_simp)
  have p5 := k1.reads (p := ⟨w.heap.size, 5, none⟩) (x := .int .i64 y) (by go_simp)
  have p6 := k1.reads (p := ⟨w.heap.size, 6, none⟩) (x := .int .i64 an) (by go_simp)
  have M1 := hid (made_box k1)
  clear k1
  go_wp2_with fail
  refine (place_poly HS.out x y an X Y A' _ ix iy eX.out eY.out eA.out).mono ?_
  rw [EF.out]
  rintro e w2 ⟨g, cap, rfl, hg, hrow, k2⟩
  have M2 : Hid (Made w.heap.size w w2) := M1.out.then_ (k2.low M1.out.1.size)
  have HR := hid hrow
  have lg := hrow.here
  clear k2 hg hrow p0 p1 p2 p3 p4 p5 p6
  go_upto_region 6 with fail
  obtain ⟨W, eW⟩ : ∃ W, W = (w2.alloc (.cells (#[.int .i64 0, .int .i64 X, .int .i64 Y, .int .i64 0, .int .i64 0, .int .i64 A', .int .i64 0, .int .i64 0, .int .i64 2, .int .i64 0, .slice (some ⟨g, 0, none⟩) n cap] : Array Value) 34)).alloc (.cells (#[.int .i64 0, .int .i64 X, .int .i64 Y, .int .i64 0, .int .i64 0, .int .i64 A', .int .i64 0, .int .i64 0, .int .i64 2, .int .i64 0, .slice (some ⟨g, 0, none⟩) n cap] : Array Value) 34) := ⟨_, rfl⟩
  have hT : Has W w2.heap.size 34 #[.int .i64 0, .int .i64 X, .int .i64 Y, .int .i64 0, .int .i64 0, .int .i64 A', .int .i64 0, .int .i64 0, .int .i64 2, .int .i64 0, .slice (some ⟨g, 0, none⟩) n cap] := by rw [eW]; exact (has_new _ _ _).more _
  have hU : Has W (w2.heap.size + 1) 34 #[.int .i64 0, .int .i64 X, .int .i64 Y, .int .i64 0, .int .i64 0, .int .i64 A', .int .i64 0, .int .i64 0, .int .i64 2, .int .i64 0, .slice (some ⟨g, 0, none⟩) n cap] := by rw [eW]; exact has_next _ _ _ _
  have MW : Hid (Made w.heap.size w W) := by unfold Hid; rw [eW]; exact (M2.out.cells M2.out.1.size _ _).cells (by have := M2.out.1.size; simp; omega) _ _
  have RW : Hid (Row W g 26 n F) := by unfold Hid; rw [eW]; exact (HR.out.more _).more _
  rw [← eW]
  clear eW
  have c0 := hT.at_ 0
  have c1 := hT.at_ 1
  have c2 := hT.at_ 2
  have c3 := hT.at_ 3
  have c4 := hT.at_ 4
  have c5 := hT.at_ 5
  have c6 := hT.at_ 6
  have c7 := hT.at_ 7
  have c8 := hT.at_ 8
  have c9 := hT.at_ 9
  have c10 := hT.at_ 10
  simp at c0 c1 c2 c3 c4 c5 c6 c7 c8 c9 c10
  have e0 := hU.at_ 0
  have e1 := hU.at_ 1
  have e2 := hU.at_ 2
  have e3 := hU.at_ 3
  have e4 := hU.at_ 4
  have e5 := hU.at_ 5
  have e6 := hU.at_ 6
  have e7 := hU.at_ 7
  have e8 := hU.at_ 8
  have e9 := hU.at_ 9
  have e10 := hU.at_ 10
  simp at e0 e1 e2 e3 e4 e5 e6 e7 e8 e9 e10
  clear hT hU
  refine reg_float2 4 77 7 8 37 37 #[.int .i64 0, .int .i64 0, .int .i64 0, .int .i64 0] #[.int .i64 0, .int .i64 0, .int .i64 0, .int .i64 0] _ _ (by kernel_rfl) (by kernel_rfl) (by kernel_rfl) rfl rfl alc_R alc_R ?_
  apply Exists.intro
  refine ⟨?h1, ?h2⟩
  case h1 =>
    intro Ty hT fw hf
    have KP : Hid (∀ x, Pts (fw x) g 0 n F) := fun x => (RW.out.kept (hf.1 x)).pts
    have c0 := Class.reads hf c0
    have e0 := Class.reads hf e0
    have c1 := Class.reads hf c1
    have e1 := Class.reads hf e1
    have c2 := Class.reads hf c2
    have e2 := Class.reads hf e2
    have c3 := Class.reads hf c3
    have e3 := Class.reads hf e3
    have c4 := Class.reads hf c4
    have e4 := Class.reads hf e4
    have c5 := Class.reads hf c5
    have e5 := Class.reads hf e5
    have c6 := Class.reads hf c6
    have e6 := Class.reads hf e6
    have c7 := Class.reads hf c7
    have e7 := Class.reads hf e7
    have c8 := Class.reads hf c8
    have e8 := Class.reads hf e8
    have c9 := Class.reads hf c9
    have e9 := Class.reads hf e9
    have c10 := Class.reads hf c10
    have e10 := Class.reads hf e10
    simp only [List.take_succ_cons, List.take_zero]
    repeat (go_big_quiet_step ((go_at_call 9; with_reducible first | exact hf.made (HO.out g 0 cap _ (KP.out _)) | exact hf.made (HO'.out g 0 cap _ (KP.out _)))))
    exact wpQuiet_nil rfl
  intro g7 g8 w5 k5 h7 h8 hne hh7 hh8
  have c0 := k5.reads c0
  have c1 := k5.reads c1
  have c2 := k5.reads c2
  have c3 := k5.reads c3
  have c4 := k5.reads c4
  have c5 := k5.reads c5
  have c6 := k5.reads c6
  have c7 := k5.reads c7
  have c8 := k5.reads c8
  have c9 := k5.reads c9
  have c10 := k5.reads c10
  have z0 := hh7.at_ 0
  have z1 := hh7.at_ 1
  have z2 := hh7.at_ 2
  have z3 := hh7.at_ 3
  simp at z0 z1 z2 z3
  have y0 := hh8.at_ 0
  have y1 := hh8.at_ 1
  have y2 := hh8.at_ 2
  have y3 := hh8.at_ 3
  simp at y0 y1 y2 y3
  have zf7 : ∀ i, w5.frozen? ⟨g7, i, none⟩ = false := fun i => hh7.free i
  have zf8 : ∀ i, w5.frozen? ⟨g8, i, none⟩ = false := fun i => hh8.free i
  have M5 : Hid (Made w.heap.size w w5) := MW.out.then_ (k5.low MW.out.1.size)
  have lb : w2.heap.size < W.heap.size := World.block_lt_of_cell? _ _ (by assumption : W.cell? ⟨w2.heap.size, 0, none⟩ = _)
  have w7 : w.heap.size ≤ g7 := Nat.le_trans MW.out.1.size h7
  have w8 : w.heap.size ≤ g8 := Nat.le_trans MW.out.1.size h8
  have hne' : g8 ≠ g7 := fun e => hne e.symm
  have n7 : w2.heap.size ≠ g7 := by omega
  have n8 : w2.heap.size ≠ g8 := by omega
  have H7 := hid hh7
  have H8 := hid hh8
  clear k5 hh7 hh8
  simp only [List.drop_succ_cons, List.drop_zero]
  go_wp2_with fail
  go_ret
  exact ⟨rfl, (((((((M5.out.put w7 _).put w7 _).put w7 _).put w7 _).put w8 _).put w8 _).put w8 _).put w8 _⟩
end Go.Proofs.Ytpladcnckhpjmaa.Fx
