/- BoxBodies: the walk, of a polygon. -/
import Derived.Test.YtpladcnckhpjmaaBoxA
import Derived.Deep.DeepCutAuto
namespace Go.Proofs.Ytpladcnckhpjmaa.Fx
open Go.ChangeShapes Go.WideShapes Go.ChangeAt Go.RowKit
set_option linter.unusedVariables false

set_option maxRecDepth 100000 in
set_option maxHeartbeats 8000000 in
theorem bbodies_poly (BS : BoxSays) {a b c d : Int} {n : Nat} {gx gy : Nat → Int} {gk : Int} (h : SeedG a b c d n gx gy gk) (x y an : Int) (w : World) (ix : I64 x) (iy : I64 y) :
    Calls Try.prog 3 #[placeV a b c d x y an] w fun e w' => e = .returned (.bool true) ∧ Made w.heap.size w w' := by
  have HB := hid BS
  have HS := hid h
  have n0 := h.1.n0
  have n1 := h.1.n1
  have hn0 : 0 < n := by omega
  obtain ⟨X, eX⟩ : ∃ X, thou x = X := ⟨_, rfl⟩
  obtain ⟨Y, eY⟩ : ∃ Y, thou y = Y := ⟨_, rfl⟩
  obtain ⟨A, eA⟩ : ∃ A, an % 4294967296 = A := ⟨_, rfl⟩
  have bX := thou_bd ix
  have bY := thou_bd iy
  rw [eX] at bX
  rw [eY] at bY
  have iX : I64 X := by unfold I64; omega
  have iY : I64 Y := by unfold I64; omega
  have iA : I64 A := by unfold I64; omega
  have eX := hid eX; have eY := hid eY; have eA := hid eA
  have GI := hid (grid_i64 h.1)
  obtain ⟨F, eF⟩ : ∃ F, grid gx gy gk = F := ⟨_, rfl⟩
  rw [eF] at GI
  obtain ⟨P, eP⟩ : ∃ P, placeF F (cs (stepF A)) (sn (stepF A)) X Y = P := ⟨_, rfl⟩
  have RP : Hid (∀ i, Rg (P i).1 ∧ Rg (P i).2) := fun i => by rw [← eP]; exact ⟨rg_add _ _, rg_add _ _⟩
  obtain ⟨lx, hx, hex⟩ := Ext.has (fun i => (P i).1) n hn0
  obtain ⟨ly, hy, hey⟩ := Ext.has (fun i => (P i).2) n hn0
  have HX := hid hex
  have HY := hid hey
  have rlx : Rg lx := by obtain ⟨i, _, e⟩ := hex.2.1; rw [← e]; exact (RP.out i).1
  have rhx : Rg hx := by obtain ⟨i, _, e⟩ := hex.2.2; rw [← e]; exact (RP.out i).1
  have rly : Rg ly := by obtain ⟨i, _, e⟩ := hey.2.1; rw [← e]; exact (RP.out i).2
  have rhy : Rg hy := by obtain ⟨i, _, e⟩ := hey.2.2; rw [← e]; exact (RP.out i).2
  have HO := hid (fun b off cap (w : World) (p : Pts w b off n F) => BS.poly X Y A b off n cap F lx hx ly hy w iX iY iA (by omega) n1 p GI.out (by rw [eP]; exact hex) (by rw [eP]; exact hey))
  have HC := hid (fun b off cap (w : World) (p : Pts w b off n F) => corners_is 0 b off n cap F X Y A w hn0 n1 p GI.out iX iY iA)
  rw [eP] at HC
  have EF := hid eF
  clear BS h eF eP hex hey
  go_enter Try.func3, Try.ntmps3
  go_wp2_with fail
  refine (bfit_is HB.out _).mono ?_
  rintro e w1 ⟨rfl, k1⟩
  have p0 := k1.reads (p := ⟨w.heap.size, 0, none⟩) (x := .int .i64 a) (by go_simp)
  have p1 := k1.reads (p := ⟨w.heap.size, 1, none⟩) (x := .int .i64 b) (by go_simp)
  have p2 := k1.reads (p := ⟨w.heap.size, 2, none⟩) (x := .int .i64 c) (by go_simp)
  have p3 := k1.reads (p := ⟨w.heap.size, 3, none⟩) (x := .int .i64 d) (by go_simp)
  have p4 := k1.reads (p := ⟨w.heap.size, 4, none⟩) (x := .int .i64 x) (by go_simp)
  have p5 := k1.reads (p := ⟨w.heap.size, 5, none⟩) (x := .int .i64 y) (by go_simp)
  have p6 := k1.reads (p := ⟨w.heap.size, 6, none⟩) (x := .int .i64 an) (by go_simp)
  have M1 := hid (made_box k1)
  clear k1
  go_wp2_with fail
  refine (place_poly HS.out x y an X Y A _ ix iy eX.out eY.out eA.out).mono ?_
  rw [EF.out]
  rintro e w2 ⟨g, cap, rfl, hg, hrow, k2⟩
  have M2 : Hid (Made w.heap.size w w2) := M1.out.then_ (k2.low M1.out.1.size)
  have HR := hid hrow
  have lg := hrow.here
  clear k2 hg hrow p0 p1 p2 p3 p4 p5 p6
  go_wp2_with fail
  obtain ⟨W, eW⟩ : ∃ W, W = w2.alloc (.cells #[.int .i64 0, .int .i64 X, .int .i64 Y, .int .i64 0, .int .i64 0, .int .i64 A, .int .i64 0, .int .i64 0, .int .i64 2, .int .i64 0, .slice (some ⟨g, 0, none⟩) n cap] 34) := ⟨_, rfl⟩
  have hT : Has W w2.heap.size 34 #[.int .i64 0, .int .i64 X, .int .i64 Y, .int .i64 0, .int .i64 0, .int .i64 A, .int .i64 0, .int .i64 0, .int .i64 2, .int .i64 0, .slice (some ⟨g, 0, none⟩) n cap] := by rw [eW]; exact has_new _ _ _
  have MW : Hid (Made w.heap.size w W) := by unfold Hid; rw [eW]; exact M2.out.cells M2.out.1.size _ _
  have RW : Hid (Row W g 26 n F) := by unfold Hid; rw [eW]; exact HR.out.more _
  rw [← eW]
  clear eW HR
  have c0 := hT.at_ 0
  have c1 := hT.at_ 1
  have c2 := hT.at_ 2
  have c3 := hT.at_ 3
  have c4 := hT.at_ 4
  have c5 := hT.at_ 5
  have c6 := hT.at_ 6
  have c7 := hT.at_ 7
  have c8 := hT.at_ 8
  have c9 := hT.at_ 9
  have c10 := hT.at_ 10
  simp at c0 c1 c2 c3 c4 c5 c6 c7 c8 c9 c10
  clear hT
  go_wp2_with fail
  refine (HO.out g 0 cap W RW.out.pts).mono ?_
  rintro e w3 ⟨rfl, k3⟩
  have M3 : Hid (Made w.heap.size w w3) := MW.out.then_ (k3.low MW.out.1.size)
  have c0 := k3.reads c0
  have c1 := k3.reads c1
  have c2 := k3.reads c2
  have c3 := k3.reads c3
  have c4 := k3.reads c4
  have c5 := k3.reads c5
  have c6 := k3.reads c6
  have c7 := k3.reads c7
  have c8 := k3.reads c8
  have c9 := k3.reads c9
  have c10 := k3.reads c10
  have lt3 : w2.heap.size < w3.heap.size := World.block_lt_of_cell? _ _ c0
  have R3 := hid (RW.out.kept k3)
  clear k3 RW
  go_wp2_with fail
  obtain ⟨V, eV⟩ : ∃ V, V = w3.alloc (.cells #[.int .i64 lx, .int .i64 ly, .int .i64 hx, .int .i64 hy] 37) := ⟨_, rfl⟩
  have hQ : Has V w3.heap.size 37 #[.int .i64 lx, .int .i64 ly, .int .i64 hx, .int .i64 hy] := by rw [eV]; exact has_new _ _ _
  have MV : Hid (Made w.heap.size w V) := by unfold Hid; rw [eV]; exact M3.out.cells M3.out.1.size _ _
  have RV : Hid (Row V g 26 n F) := by unfold Hid; rw [eV]; exact R3.out.more _
  rw [← eV]
  clear eV c0 c1 c2 c3 c4 c5 c6 c7 c8 c9 c10
  refine (HC.out g 0 cap V RV.out.pts).mono ?_
  rintro e w4 ⟨g2, rfl, hg2, hrow2, k4⟩
  have hQ := hQ.stays k4 hQ.here
  have M4 : Hid (Made w.heap.size w w4) := MV.out.then_ (k4.low MV.out.1.size)
  have l4 : w3.heap.size < w4.heap.size := hQ.here
  have lg2 := hrow2.here
  have lw4 := M4.out.1.size
  obtain ⟨u0, eu0⟩ : ∃ z, (P 0).1 = z := ⟨_, rfl⟩
  obtain ⟨v0, ev0⟩ : ∃ z, (P 0).2 = z := ⟨_, rfl⟩
  obtain ⟨b0, b1⟩ := hrow2.pts 0 hn0
  rw [eu0] at b0
  rw [ev0] at b1
  simp at b0 b1
  have FX : Hid (Ext (fun i => (P i).1) (max 0 1) u0 u0) := by unfold Hid; rw [← eu0]; exact Ext.first _
  have FY : Hid (Ext (fun i => (P i).2) (max 0 1) v0 v0) := by unfold Hid; rw [← ev0]; exact Ext.first _
  have HQ := hid hQ
  have HP := hid hrow2
  clear k4 hQ hrow2 hg2 eu0 ev0 MV RV R3 M3 M2 MW
  go_upto_region 9 with fail
  go_cut [7, 8] (fun s7 s8 wx => ∃ g7 g8, s7 = .pointer (some ⟨g7, 0, none⟩) ∧ s8 = .pointer (some ⟨g8, 0, none⟩) ∧ g7 ≠ g8 ∧ w4.heap.size ≤ g7 ∧ w4.heap.size ≤ g8 ∧ Hid (Has wx g7 26 #[.int .i64 u0, .int .i64 v0]) ∧ Hid (Has wx g8 26 #[.int .i64 u0, .int .i64 v0]) ∧ Hid (Made w4.heap.size w4 wx))
  case first =>
    go_region
    · go_wp2_with fail
      go_meet
      exact ⟨w4.heap.size, w4.heap.size + 1, rfl, rfl, by omega, by omega, by omega, ((has_new _ _ _).more _).drawn 1, (has_next _ _ _ _).drawn 1, (((Made.rfl_ _ _).cells (Nat.le_refl _) _ _).cells (by simp) _ _).draws 1⟩
    · go_wp2_with fail
      go_meet
      exact ⟨w4.heap.size + 1, w4.heap.size, rfl, rfl, by omega, by omega, by omega, (has_next _ _ _ _).drawn 1, ((has_new _ _ _).more _).drawn 1, (((Made.rfl_ _ _).cells (Nat.le_refl _) _ _).cells (by simp) _ _).draws 1⟩
  obtain ⟨g7, g8, rfl, rfl, hne, h7, h8, A7, A8, hM⟩ := hcut
  have AQ := hid (HQ.out.stays hM.out HQ.out.here)
  have AP := hid (HP.out.kept hM.out)
  have AM := hid (M4.out.then_ (hM.out.low M4.out.1.size))
  have n7 : g2 ≠ g7 := by omega
  have n8 : g2 ≠ g8 := by omega
  have m7 : w3.heap.size ≠ g7 := by omega
  have m8 : w3.heap.size ≠ g8 := by omega
  have hne' : g8 ≠ g7 := fun e => hne e.symm
  have w7 : w.heap.size ≤ g7 := by omega
  have w8 : w.heap.size ≤ g8 := by omega
  clear b0 b1 hM HQ HP M4 h7 h8
  go_wp2_with fail
  go_loopg [59] n (fun gg i wr => ∃ (m : Nat) (l1 l2 h1 h2 : Int), m + gg = n ∧ i = .int .i64 m ∧ Hid (Ext (fun i => (P i).1) (max m 1) l1 h1) ∧ Hid (Ext (fun i => (P i).2) (max m 1) l2 h2) ∧ Hid (Has wr g7 26 #[.int .i64 l1, .int .i64 l2]) ∧ Hid (Has wr g8 26 #[.int .i64 h1, .int .i64 h2]) ∧ Hid (Row wr g2 26 n P) ∧ Hid (Has wr w3.heap.size 37 #[.int .i64 lx, .int .i64 ly, .int .i64 hx, .int .i64 hy]) ∧ Hid (Made w.heap.size w wr))
  case atStart => exact ⟨0, u0, v0, u0, v0, by omega, rfl, FX, FY, A7, A8, AP, AQ, AM⟩
  case round =>
    obtain ⟨m, l1, l2, h1, h2, hm, rfl, EX, EY, H7, H8, HP, HQ, HM⟩ := hrel
    clear FX FY A7 A8 AP AQ AM
    by_cases hlt : m < n
    · obtain ⟨u, eu⟩ : ∃ z, (P m).1 = z := ⟨_, rfl⟩
      obtain ⟨v, ev⟩ : ∃ z, (P m).2 = z := ⟨_, rfl⟩
      obtain ⟨b0, b1⟩ := HP.out.pts m hlt
      rw [eu, Nat.zero_add] at b0
      rw [ev, Nat.zero_add] at b1
      have ru := (RP.out m).1
      have rv := (RP.out m).2
      rw [eu] at ru
      rw [ev] at rv
      obtain ⟨hu0, hu1⟩ := HX.out.1 m hlt
      obtain ⟨hv0, hv1⟩ := HY.out.1 m hlt
      simp only [eu] at hu0 hu1
      simp only [ev] at hv0 hv1
      have HOLD := hid (fun w => HB.out.holds lx ly hx hy u v true w rlx rly rhx rhy ru rv (yes_iff ⟨⟨hu0, hu1⟩, ⟨hv0, hv1⟩⟩))
      obtain ⟨l1', f1⟩ : ∃ z, min l1 u = z := ⟨_, rfl⟩
      obtain ⟨l2', f2⟩ : ∃ z, min l2 v = z := ⟨_, rfl⟩
      obtain ⟨h1', f3⟩ : ∃ z, max h1 u = z := ⟨_, rfl⟩
      obtain ⟨h2', f4⟩ : ∃ z, max h2 v = z := ⟨_, rfl⟩
      have EX' : Hid (Ext (fun i => (P i).1) (max (m + 1) 1) l1' h1') := by unfold Hid; rw [← f1, ← f3, ← eu]; exact EX.out.step
      have EY' : Hid (Ext (fun i => (P i).2) (max (m + 1) 1) l2' h2') := by unfold Hid; rw [← f2, ← f4, ← ev]; exact EY.out.step
      have z0 := H7.out.at_ 0
      have z1 := H7.out.at_ 1
      have z2 := H8.out.at_ 0
      have z3 := H8.out.at_ 1
      simp at z0 z1 z2 z3
      have lt7 := H7.out.here
      have lt8 := H8.out.here
      have zf7 : ∀ i, wr.frozen? ⟨g7, i, none⟩ = false := fun i => H7.out.free i
      have zf8 : ∀ i, wr.frozen? ⟨g8, i, none⟩ = false := fun i => H8.out.free i
      clear eu ev hu0 hu1 hv0 hv1 ru rv
      go_upto_region 15 with fail
      obtain ⟨W1, eW⟩ : ∃ W, W = ((((wr.setCell ⟨g7, 0, none⟩ (.int .i64 l1')).setCell ⟨g7, 1, none⟩ (.int .i64 l2')).setCell ⟨g8, 0, none⟩ (.int .i64 h1')).setCell ⟨g8, 1, none⟩ (.int .i64 h2')).alloc (.cells #[.int .i64 u, .int .i64 v] 26) := ⟨_, rfl⟩
      have A7 : Hid (Has W1 g7 26 #[.int .i64 l1', .int .i64 l2']) := by unfold Hid; rw [eW]; exact ((((H7.out.put 0 (.int .i64 l1')).put 1 (.int .i64 l2')).other ⟨g8, 0, none⟩ hne _).other ⟨g8, 1, none⟩ hne _).more _
      have A8 : Hid (Has W1 g8 26 #[.int .i64 h1', .int .i64 h2']) := by unfold Hid; rw [eW]; exact ((((H8.out.other ⟨g7, 0, none⟩ hne' _).other ⟨g7, 1, none⟩ hne' _).put 0 (.int .i64 h1')).put 1 (.int .i64 h2')).more _
      have AQ : Hid (Has W1 w3.heap.size 37 #[.int .i64 lx, .int .i64 ly, .int .i64 hx, .int .i64 hy]) := by unfold Hid; rw [eW]; exact ((((HQ.out.other ⟨g7, 0, none⟩ m7 _).other ⟨g7, 1, none⟩ m7 _).other ⟨g8, 0, none⟩ m8 _).other ⟨g8, 1, none⟩ m8 _).more _
      have AP : Hid (Row W1 g2 26 n P) := by unfold Hid; rw [eW]; exact ((((HP.out.other ⟨g7, 0, none⟩ n7 _).other ⟨g7, 1, none⟩ n7 _).other ⟨g8, 0, none⟩ n8 _).other ⟨g8, 1, none⟩ n8 _).more _
      have AM : Hid (Made w.heap.size w W1) := by unfold Hid; rw [eW]; exact ((((HM.out.put w7 _).put w7 _).put w8 _).put w8 _).cells (by have := HM.out.1.size; simp; omega) _ _
      have a0 : W1.cell? ⟨wr.heap.size, 0, none⟩ = some (.int .i64 u) := by rw [eW]; go_simp
      have a1 : W1.cell? ⟨wr.heap.size, 1, none⟩ = some (.int .i64 v) := by rw [eW]; go_simp
      have q0 := AQ.out.at_ 0
      have q1 := AQ.out.at_ 1
      have q2 := AQ.out.at_ 2
      have q3 := AQ.out.at_ 3
      simp at q0 q1 q2 q3
      rw [← eW]
      clear eW z0 z1 z2 z3 zf7 zf8 b0 b1 f1 f2 f3 f4 H7 H8 HP HQ HM EX EY
      go_wp2_with fail
      refine (HOLD.out W1).mono ?_
      rintro e w5 ⟨rfl, k5⟩
      have B7 := hid (A7.out.stays k5 A7.out.here)
      have B8 := hid (A8.out.stays k5 A8.out.here)
      have BQ := hid (AQ.out.stays k5 AQ.out.here)
      have BP := hid (AP.out.kept k5)
      have BM := hid (AM.out.then_ (k5.low AM.out.1.size))
      clear k5 q0 q1 q2 q3 a0 a1 A7 A8 AQ AP AM
      go_wp2_with fail
      go_roundg (n - m - 1)
      case rel => exact ⟨m + 1, l1', l2', h1', h2', by omega, by go_num, EX', EY', B7, B8, BP, BQ, BM⟩
      case measure => omega
    · obtain rfl : m = n := by omega
      have ex := EX.out
      have ey := EY.out
      rw [Nat.max_eq_left (by omega)] at ex ey
      obtain ⟨rfl, rfl⟩ := ex.one HX.out
      obtain ⟨rfl, rfl⟩ := ey.one HY.out
      have z0 := H7.out.at_ 0
      have z1 := H7.out.at_ 1
      have z2 := H8.out.at_ 0
      have z3 := H8.out.at_ 1
      have q0 := HQ.out.at_ 0
      have q1 := HQ.out.at_ 1
      have q2 := HQ.out.at_ 2
      have q3 := HQ.out.at_ 3
      simp at z0 z1 z2 z3 q0 q1 q2 q3
      clear ex ey EX EY H7 H8 HP HQ
      go_wp2_with fail
      go_ret
      exact ⟨rfl, HM.out⟩
end Go.Proofs.Ytpladcnckhpjmaa.Fx
