/- The statements' own Wanted: how two bodies touch. -/
import Derived.Test.YtckgpkbdckpcmaaTouchB
import Derived.Test.YtckgpkbdckpcmaaTouchG
import Derived.Test.YtckgpkbdckpcmaaTouchO
namespace Go.Proofs.Ytckgpkbdckpcmaa.Fx
open Go.ChangeShapes Go.WideShapes Go.ChangeAt Go.RowKit
set_option linter.unusedVariables false

/-- a block of three cells holds no point: points outlast what is written into it -/
theorem PtsT.put {w : World} {ao : Option Addr} {l : List Pnt} {B : Nat} {t : TypeId} {v0 v1 v2 : Value} (h : PtsT w ao l) (hB : Has w B t #[v0, v1, v2]) (i : Nat) (u : Value) : PtsT (w.setCell ⟨B, i, none⟩ u) ao l := fun hl => by
  obtain ⟨b, off, e, h⟩ := h hl
  have hb : b ≠ B := by
    intro hb
    subst hb
    obtain ⟨_, _, _, h3⟩ := h 0 l[0] (by simp)
    rw [hB.at_] at h3
    simp at h3
  exact ⟨b, off, e, fun i p hi => by
    obtain ⟨r0, r1, r2, r3⟩ := h i p hi
    exact ⟨cell_else hb r0, cell_else hb r1, cell_else hb r2, cell_else hb r3⟩⟩
theorem Has.put3 {w : World} {B : Nat} {t : TypeId} {v0 v1 v2 u0 u1 u2 : Value} (h : Has w B t #[v0, v1, v2]) : Has (((w.setCell ⟨B, 0, none⟩ u0).setCell ⟨B, 1, none⟩ u1).setCell ⟨B, 2, none⟩ u2) B t #[u0, u1, u2] := by
  simpa using ((h.put 0 u0).put 1 u1).put 2 u2
theorem PtsT.put3 {w : World} {ao : Option Addr} {l : List Pnt} {B : Nat} {t : TypeId} {v0 v1 v2 u0 u1 u2 : Value} (h : PtsT w ao l) (hB : Has w B t #[v0, v1, v2]) : PtsT (((w.setCell ⟨B, 0, none⟩ u0).setCell ⟨B, 1, none⟩ u1).setCell ⟨B, 2, none⟩ u2) ao l := by
  have h1 : Has (w.setCell ⟨B, 0, none⟩ u0) B t #[u0, v1, v2] := by simpa using hB.put 0 u0
  have h2 : Has ((w.setCell ⟨B, 0, none⟩ u0).setCell ⟨B, 1, none⟩ u1) B t #[u0, u1, v2] := by simpa using h1.put 1 u1
  exact ((h.put hB 0 u0).put h1 1 u1).put h2 2 u2

set_option maxRecDepth 100000 in
set_option maxHeartbeats 1000000 in
theorem lwant_cc (X Y A R X2 Y2 A2 R2 : Int) (aa ba : Option Addr) (an ac bn bc : Nat) (T : Option Tch) (w : World) (hT : I64 (T.getD noTch).nx ∧ I64 (T.getD noTch).ny)
    (HC : ∀ v, Made w.heap.size w v → Calls Try.prog 33 #[bodyV 0 X Y 0 0 A 0 0 1 R (.slice aa an ac), bodyV 0 X2 Y2 0 0 A2 0 0 1 R2 (.slice ba bn bc)] v (TouchR T v)) :
    Calls Try.prog 12 #[bodyV 0 X Y 0 0 A 0 0 1 R (.slice aa an ac), bodyV 0 X2 Y2 0 0 A2 0 0 1 R2 (.slice ba bn bc)] w (TouchR T w) := by
  have HC := hid HC
  obtain ⟨inx, iny⟩ := hT
  go_enter Try.func12, Try.ntmps12
  go_upto_region 1 with fail
  obtain ⟨W0, eW⟩ : ∃ W, W = ((w.alloc (.cells #[.int .i64 0, .int .i64 X, .int .i64 Y, .int .i64 0, .int .i64 0, .int .i64 A, .int .i64 0, .int .i64 0, .int .i64 1, .int .i64 R, .slice aa an ac] 34)).alloc (.cells #[.int .i64 0, .int .i64 X2, .int .i64 Y2, .int .i64 0, .int .i64 0, .int .i64 A2, .int .i64 0, .int .i64 0, .int .i64 1, .int .i64 R2, .slice ba bn bc] 34)).alloc (.cells #[.int .i64 0, .int .i64 0, .slice none 0 0] 38) := ⟨_, rfl⟩
  have hA0 : Has W0 w.heap.size 34 #[.int .i64 0, .int .i64 X, .int .i64 Y, .int .i64 0, .int .i64 0, .int .i64 A, .int .i64 0, .int .i64 0, .int .i64 1, .int .i64 R, .slice aa an ac] := by rw [eW]; exact ((has_new _ _ _).more _).more _
  have hB0 : Has W0 (w.heap.size + 1) 34 #[.int .i64 0, .int .i64 X2, .int .i64 Y2, .int .i64 0, .int .i64 0, .int .i64 A2, .int .i64 0, .int .i64 0, .int .i64 1, .int .i64 R2, .slice ba bn bc] := by rw [eW]; exact (has_next _ _ _ _).more _
  have hO0 : Has W0 (w.heap.size + 1 + 1) 38 #[.int .i64 0, .int .i64 0, .slice none 0 0] := by rw [eW]; simpa using has_new ((w.alloc (.cells #[.int .i64 0, .int .i64 X, .int .i64 Y, .int .i64 0, .int .i64 0, .int .i64 A, .int .i64 0, .int .i64 0, .int .i64 1, .int .i64 R, .slice aa an ac] 34)).alloc (.cells #[.int .i64 0, .int .i64 X2, .int .i64 Y2, .int .i64 0, .int .i64 0, .int .i64 A2, .int .i64 0, .int .i64 0, .int .i64 1, .int .i64 R2, .slice ba bn bc] 34)) 38 #[.int .i64 0, .int .i64 0, .slice none 0 0]
  have M0 : Hid (Made w.heap.size w W0) := by unfold Hid; rw [eW]; exact (((Made.rfl_ _ _).cells (Nat.le_refl _) _ _).cells (by simp) _ _).cells (by simp; omega) _ _
  rw [← eW]
  clear eW
  have a8 := hA0.at_ 8
  have b8 := hB0.at_ 8
  simp at a8 b8
  refine reg_made (by kernel_rfl) (by kernel_rfl) ?_
  intro T' hT fw hf
  have a8' := Class.reads hf a8
  have b8' := Class.reads hf b8
  repeat (go_big_quiet_step (fail))
  refine wpQuiet_nil ?_
  intro w1 h1
  have k1 := hf.here h1
  have hA1 := hA0.stays k1 hA0.here
  have hB1 := hB0.stays k1 hB0.here
  have hO1 := hO0.stays k1 hO0.here
  have M1 : Hid (Made w.heap.size w w1) := M0.out.then_ (k1.low M0.out.1.size)
  clear k1 h1 hf a8 b8 a8' b8' hA0 hB0 hO0 M0
  have a0 := hA1.at_ 0
  have a1 := hA1.at_ 1
  have a2 := hA1.at_ 2
  have a3 := hA1.at_ 3
  have a4 := hA1.at_ 4
  have a5 := hA1.at_ 5
  have a6 := hA1.at_ 6
  have a7 := hA1.at_ 7
  have a8 := hA1.at_ 8
  have a9 := hA1.at_ 9
  have a10 := hA1.at_ 10
  have b0 := hB1.at_ 0
  have b1 := hB1.at_ 1
  have b2 := hB1.at_ 2
  have b3 := hB1.at_ 3
  have b4 := hB1.at_ 4
  have b5 := hB1.at_ 5
  have b6 := hB1.at_ 6
  have b7 := hB1.at_ 7
  have b8 := hB1.at_ 8
  have b9 := hB1.at_ 9
  have b10 := hB1.at_ 10
  simp at a0 b0 a1 b1 a2 b2 a3 b3 a4 b4 a5 b5 a6 b6 a7 b7 a8 b8 a9 b9 a10 b10
  have HO1 := hid hO1
  clear hA1 hB1 hO1
  go_wp2_with fail
  refine (HC.out _ M1.out).mono ?_
  rintro e w2 ⟨ao, c, rfl, hp, k2⟩
  have hO2 := HO1.out.stays k2 HO1.out.here
  have M2 : Hid (Made w.heap.size w w2) := M1.out.then_ (k2.low M1.out.1.size)
  have HPt := hid hp
  clear k2 hp HO1 a0 b0 a1 b1 a2 b2 a3 b3 a4 b4 a5 b5 a6 b6 a7 b7 a8 b8 a9 b9 a10 b10
  obtain ⟨nx, enx⟩ : ∃ z, (T.getD noTch).nx = z := ⟨_, rfl⟩
  obtain ⟨ny, eny⟩ : ∃ z, (T.getD noTch).ny = z := ⟨_, rfl⟩
  obtain ⟨L, eL⟩ : ∃ z, (T.getD noTch).pts = z := ⟨_, rfl⟩
  obtain ⟨ok, eok⟩ : ∃ z, T.isSome = z := ⟨_, rfl⟩
  rw [enx, eny, eL, eok]
  rw [eL] at HPt
  rw [enx] at inx
  rw [eny] at iny
  have o0 := hO2.at_ 0
  have o1 := hO2.at_ 1
  have o2 := hO2.at_ 2
  simp at o0 o1 o2
  have of_ : ∀ i, w2.frozen? ⟨w.heap.size + 1 + 1, i, none⟩ = false := hO2.free
  have ENX := hid enx; have ENY := hid eny; have EL := hid eL; have EOK := hid eok
  have HO2 := hid hO2
  clear enx eny eL eok hO2
  go_wp2_with fail
  refine bodyPost_ret (v := .tuple #[tchV nx ny ao L.length c, .bool ok]) (by simp [results, Try.results12, go_sem, o0, o1, o2]) rfl ⟨ao, c, by rw [ENX.out, ENY.out, EL.out, EOK.out], ?_, ?_⟩
  · exact by rw [EL.out]; exact HPt.out.put3 HO2.out
  · exact ((M2.out.put (by simp; try omega) _).put (by simp; try omega) _).put (by simp; try omega) _

set_option maxRecDepth 100000 in
set_option maxHeartbeats 1000000 in
theorem lwant_pc (X Y A R X2 Y2 A2 R2 : Int) (aa ba : Option Addr) (an ac bn bc : Nat) (T : Option Tch) (w : World) (hT : I64 (T.getD noTch).nx ∧ I64 (T.getD noTch).ny)
    (HC : ∀ v, Made w.heap.size w v → Calls Try.prog 34 #[bodyV 0 X Y 0 0 A 0 0 2 R (.slice aa an ac), bodyV 0 X2 Y2 0 0 A2 0 0 1 R2 (.slice ba bn bc)] v (TouchR T v)) :
    Calls Try.prog 12 #[bodyV 0 X Y 0 0 A 0 0 2 R (.slice aa an ac), bodyV 0 X2 Y2 0 0 A2 0 0 1 R2 (.slice ba bn bc)] w (TouchR T w) := by
  have HC := hid HC
  obtain ⟨inx, iny⟩ := hT
  go_enter Try.func12, Try.ntmps12
  go_upto_region 1 with fail
  obtain ⟨W0, eW⟩ : ∃ W, W = ((w.alloc (.cells #[.int .i64 0, .int .i64 X, .int .i64 Y, .int .i64 0, .int .i64 0, .int .i64 A, .int .i64 0, .int .i64 0, .int .i64 2, .int .i64 R, .slice aa an ac] 34)).alloc (.cells #[.int .i64 0, .int .i64 X2, .int .i64 Y2, .int .i64 0, .int .i64 0, .int .i64 A2, .int .i64 0, .int .i64 0, .int .i64 1, .int .i64 R2, .slice ba bn bc] 34)).alloc (.cells #[.int .i64 0, .int .i64 0, .slice none 0 0] 38) := ⟨_, rfl⟩
  have hA0 : Has W0 w.heap.size 34 #[.int .i64 0, .int .i64 X, .int .i64 Y, .int .i64 0, .int .i64 0, .int .i64 A, .int .i64 0, .int .i64 0, .int .i64 2, .int .i64 R, .slice aa an ac] := by rw [eW]; exact ((has_new _ _ _).more _).more _
  have hB0 : Has W0 (w.heap.size + 1) 34 #[.int .i64 0, .int .i64 X2, .int .i64 Y2, .int .i64 0, .int .i64 0, .int .i64 A2, .int .i64 0, .int .i64 0, .int .i64 1, .int .i64 R2, .slice ba bn bc] := by rw [eW]; exact (has_next _ _ _ _).more _
  have hO0 : Has W0 (w.heap.size + 1 + 1) 38 #[.int .i64 0, .int .i64 0, .slice none 0 0] := by rw [eW]; simpa using has_new ((w.alloc (.cells #[.int .i64 0, .int .i64 X, .int .i64 Y, .int .i64 0, .int .i64 0, .int .i64 A, .int .i64 0, .int .i64 0, .int .i64 2, .int .i64 R, .slice aa an ac] 34)).alloc (.cells #[.int .i64 0, .int .i64 X2, .int .i64 Y2, .int .i64 0, .int .i64 0, .int .i64 A2, .int .i64 0, .int .i64 0, .int .i64 1, .int .i64 R2, .slice ba bn bc] 34)) 38 #[.int .i64 0, .int .i64 0, .slice none 0 0]
  have M0 : Hid (Made w.heap.size w W0) := by unfold Hid; rw [eW]; exact (((Made.rfl_ _ _).cells (Nat.le_refl _) _ _).cells (by simp) _ _).cells (by simp; omega) _ _
  rw [← eW]
  clear eW
  have a8 := hA0.at_ 8
  have b8 := hB0.at_ 8
  simp at a8 b8
  refine reg_made (by kernel_rfl) (by kernel_rfl) ?_
  intro T' hT fw hf
  have a8' := Class.reads hf a8
  have b8' := Class.reads hf b8
  repeat (go_big_quiet_step (fail))
  refine wpQuiet_nil ?_
  intro w1 h1
  have k1 := hf.here h1
  have hA1 := hA0.stays k1 hA0.here
  have hB1 := hB0.stays k1 hB0.here
  have hO1 := hO0.stays k1 hO0.here
  have M1 : Hid (Made w.heap.size w w1) := M0.out.then_ (k1.low M0.out.1.size)
  clear k1 h1 hf a8 b8 a8' b8' hA0 hB0 hO0 M0
  have a0 := hA1.at_ 0
  have a1 := hA1.at_ 1
  have a2 := hA1.at_ 2
  have a3 := hA1.at_ 3
  have a4 := hA1.at_ 4
  have a5 := hA1.at_ 5
  have a6 := hA1.at_ 6
  have a7 := hA1.at_ 7
  have a8 := hA1.at_ 8
  have a9 := hA1.at_ 9
  have a10 := hA1.at_ 10
  have b0 := hB1.at_ 0
  have b1 := hB1.at_ 1
  have b2 := hB1.at_ 2
  have b3 := hB1.at_ 3
  have b4 := hB1.at_ 4
  have b5 := hB1.at_ 5
  have b6 := hB1.at_ 6
  have b7 := hB1.at_ 7
  have b8 := hB1.at_ 8
  have b9 := hB1.at_ 9
  have b10 := hB1.at_ 10
  simp at a0 b0 a1 b1 a2 b2 a3 b3 a4 b4 a5 b5 a6 b6 a7 b7 a8 b8 a9 b9 a10 b10
  have HO1 := hid hO1
  clear hA1 hB1 hO1
  go_wp2_with fail
  refine (HC.out _ M1.out).mono ?_
  rintro e w2 ⟨ao, c, rfl, hp, k2⟩
  have hO2 := HO1.out.stays k2 HO1.out.here
  have M2 : Hid (Made w.heap.size w w2) := M1.out.then_ (k2.low M1.out.1.size)
  have HPt := hid hp
  clear k2 hp HO1 a0 b0 a1 b1 a2 b2 a3 b3 a4 b4 a5 b5 a6 b6 a7 b7 a8 b8 a9 b9 a10 b10
  obtain ⟨nx, enx⟩ : ∃ z, (T.getD noTch).nx = z := ⟨_, rfl⟩
  obtain ⟨ny, eny⟩ : ∃ z, (T.getD noTch).ny = z := ⟨_, rfl⟩
  obtain ⟨L, eL⟩ : ∃ z, (T.getD noTch).pts = z := ⟨_, rfl⟩
  obtain ⟨ok, eok⟩ : ∃ z, T.isSome = z := ⟨_, rfl⟩
  rw [enx, eny, eL, eok]
  rw [eL] at HPt
  rw [enx] at inx
  rw [eny] at iny
  have o0 := hO2.at_ 0
  have o1 := hO2.at_ 1
  have o2 := hO2.at_ 2
  simp at o0 o1 o2
  have of_ : ∀ i, w2.frozen? ⟨w.heap.size + 1 + 1, i, none⟩ = false := hO2.free
  have ENX := hid enx; have ENY := hid eny; have EL := hid eL; have EOK := hid eok
  have HO2 := hid hO2
  clear enx eny eL eok hO2
  go_wp2_with fail
  refine bodyPost_ret (v := .tuple #[tchV nx ny ao L.length c, .bool ok]) (by simp [results, Try.results12, go_sem, o0, o1, o2]) rfl ⟨ao, c, by rw [ENX.out, ENY.out, EL.out, EOK.out], ?_, ?_⟩
  · exact by rw [EL.out]; exact HPt.out.put3 HO2.out
  · exact ((M2.out.put (by simp; try omega) _).put (by simp; try omega) _).put (by simp; try omega) _

set_option maxRecDepth 100000 in
set_option maxHeartbeats 1000000 in
theorem lwant_pp (X Y A R X2 Y2 A2 R2 : Int) (aa ba : Option Addr) (an ac bn bc : Nat) (T : Option Tch) (w : World) (hT : I64 (T.getD noTch).nx ∧ I64 (T.getD noTch).ny)
    (HC : ∀ v, Made w.heap.size w v → Calls Try.prog 35 #[bodyV 0 X Y 0 0 A 0 0 2 R (.slice aa an ac), bodyV 0 X2 Y2 0 0 A2 0 0 2 R2 (.slice ba bn bc)] v (TouchR T v)) :
    Calls Try.prog 12 #[bodyV 0 X Y 0 0 A 0 0 2 R (.slice aa an ac), bodyV 0 X2 Y2 0 0 A2 0 0 2 R2 (.slice ba bn bc)] w (TouchR T w) := by
  have HC := hid HC
  obtain ⟨inx, iny⟩ := hT
  go_enter Try.func12, Try.ntmps12
  go_upto_region 1 with fail
  obtain ⟨W0, eW⟩ : ∃ W, W = ((w.alloc (.cells #[.int .i64 0, .int .i64 X, .int .i64 Y, .int .i64 0, .int .i64 0, .int .i64 A, .int .i64 0, .int .i64 0, .int .i64 2, .int .i64 R, .slice aa an ac] 34)).alloc (.cells #[.int .i64 0, .int .i64 X2, .int .i64 Y2, .int .i64 0, .int .i64 0, .int .i64 A2, .int .i64 0, .int .i64 0, .int .i64 2, .int .i64 R2, .slice ba bn bc] 34)).alloc (.cells #[.int .i64 0, .int .i64 0, .slice none 0 0] 38) := ⟨_, rfl⟩
  have hA0 : Has W0 w.heap.size 34 #[.int .i64 0, .int .i64 X, .int .i64 Y, .int .i64 0, .int .i64 0, .int .i64 A, .int .i64 0, .int .i64 0, .int .i64 2, .int .i64 R, .slice aa an ac] := by rw [eW]; exact ((has_new _ _ _).more _).more _
  have hB0 : Has W0 (w.heap.size + 1) 34 #[.int .i64 0, .int .i64 X2, .int .i64 Y2, .int .i64 0, .int .i64 0, .int .i64 A2, .int .i64 0, .int .i64 0, .int .i64 2, .int .i64 R2, .slice ba bn bc] := by rw [eW]; exact (has_next _ _ _ _).more _
  have hO0 : Has W0 (w.heap.size + 1 + 1) 38 #[.int .i64 0, .int .i64 0, .slice none 0 0] := by rw [eW]; simpa using has_new ((w.alloc (.cells #[.int .i64 0, .int .i64 X, .int .i64 Y, .int .i64 0, .int .i64 0, .int .i64 A, .int .i64 0, .int .i64 0, .int .i64 2, .int .i64 R, .slice aa an ac] 34)).alloc (.cells #[.int .i64 0, .int .i64 X2, .int .i64 Y2, .int .i64 0, .int .i64 0, .int .i64 A2, .int .i64 0, .int .i64 0, .int .i64 2, .int .i64 R2, .slice ba bn bc] 34)) 38 #[.int .i64 0, .int .i64 0, .slice none 0 0]
  have M0 : Hid (Made w.heap.size w W0) := by unfold Hid; rw [eW]; exact (((Made.rfl_ _ _).cells (Nat.le_refl _) _ _).cells (by simp) _ _).cells (by simp; omega) _ _
  rw [← eW]
  clear eW
  have a8 := hA0.at_ 8
  have b8 := hB0.at_ 8
  simp at a8 b8
  refine reg_made (by kernel_rfl) (by kernel_rfl) ?_
  intro T' hT fw hf
  have a8' := Class.reads hf a8
  have b8' := Class.reads hf b8
  repeat (go_big_quiet_step (fail))
  refine wpQuiet_nil ?_
  intro w1 h1
  have k1 := hf.here h1
  have hA1 := hA0.stays k1 hA0.here
  have hB1 := hB0.stays k1 hB0.here
  have hO1 := hO0.stays k1 hO0.here
  have M1 : Hid (Made w.heap.size w w1) := M0.out.then_ (k1.low M0.out.1.size)
  clear k1 h1 hf a8 b8 a8' b8' hA0 hB0 hO0 M0
  have a0 := hA1.at_ 0
  have a1 := hA1.at_ 1
  have a2 := hA1.at_ 2
  have a3 := hA1.at_ 3
  have a4 := hA1.at_ 4
  have a5 := hA1.at_ 5
  have a6 := hA1.at_ 6
  have a7 := hA1.at_ 7
  have a8 := hA1.at_ 8
  have a9 := hA1.at_ 9
  have a10 := hA1.at_ 10
  have b0 := hB1.at_ 0
  have b1 := hB1.at_ 1
  have b2 := hB1.at_ 2
  have b3 := hB1.at_ 3
  have b4 := hB1.at_ 4
  have b5 := hB1.at_ 5
  have b6 := hB1.at_ 6
  have b7 := hB1.at_ 7
  have b8 := hB1.at_ 8
  have b9 := hB1.at_ 9
  have b10 := hB1.at_ 10
  simp at a0 b0 a1 b1 a2 b2 a3 b3 a4 b4 a5 b5 a6 b6 a7 b7 a8 b8 a9 b9 a10 b10
  have HO1 := hid hO1
  clear hA1 hB1 hO1
  go_wp2_with fail
  refine (HC.out _ M1.out).mono ?_
  rintro e w2 ⟨ao, c, rfl, hp, k2⟩
  have hO2 := HO1.out.stays k2 HO1.out.here
  have M2 : Hid (Made w.heap.size w w2) := M1.out.then_ (k2.low M1.out.1.size)
  have HPt := hid hp
  clear k2 hp HO1 a0 b0 a1 b1 a2 b2 a3 b3 a4 b4 a5 b5 a6 b6 a7 b7 a8 b8 a9 b9 a10 b10
  obtain ⟨nx, enx⟩ : ∃ z, (T.getD noTch).nx = z := ⟨_, rfl⟩
  obtain ⟨ny, eny⟩ : ∃ z, (T.getD noTch).ny = z := ⟨_, rfl⟩
  obtain ⟨L, eL⟩ : ∃ z, (T.getD noTch).pts = z := ⟨_, rfl⟩
  obtain ⟨ok, eok⟩ : ∃ z, T.isSome = z := ⟨_, rfl⟩
  rw [enx, eny, eL, eok]
  rw [eL] at HPt
  rw [enx] at inx
  rw [eny] at iny
  have o0 := hO2.at_ 0
  have o1 := hO2.at_ 1
  have o2 := hO2.at_ 2
  simp at o0 o1 o2
  have of_ : ∀ i, w2.frozen? ⟨w.heap.size + 1 + 1, i, none⟩ = false := hO2.free
  have ENX := hid enx; have ENY := hid eny; have EL := hid eL; have EOK := hid eok
  have HO2 := hid hO2
  clear enx eny eL eok hO2
  go_wp2_with fail
  refine bodyPost_ret (v := .tuple #[tchV nx ny ao L.length c, .bool ok]) (by simp [results, Try.results12, go_sem, o0, o1, o2]) rfl ⟨ao, c, by rw [ENX.out, ENY.out, EL.out, EOK.out], ?_, ?_⟩
  · exact by rw [EL.out]; exact HPt.out.put3 HO2.out
  · exact ((M2.out.put (by simp; try omega) _).put (by simp; try omega) _).put (by simp; try omega) _

set_option maxRecDepth 100000 in
set_option maxHeartbeats 1000000 in
theorem lwant_cp (X Y A R X2 Y2 A2 R2 : Int) (aa ba : Option Addr) (an ac bn bc : Nat) (T : Option Tch) (w : World) (hT : I64 (T.getD noTch).nx ∧ I64 (T.getD noTch).ny)
    (HC : ∀ v, Made w.heap.size w v → Calls Try.prog 34 #[bodyV 0 X2 Y2 0 0 A2 0 0 2 R2 (.slice ba bn bc), bodyV 0 X Y 0 0 A 0 0 1 R (.slice aa an ac)] v (TouchR T v)) :
    Calls Try.prog 12 #[bodyV 0 X Y 0 0 A 0 0 1 R (.slice aa an ac), bodyV 0 X2 Y2 0 0 A2 0 0 2 R2 (.slice ba bn bc)] w (TouchR (T.map negT) w) := by
  have HC := hid HC
  obtain ⟨inx, iny⟩ := hT
  go_enter Try.func12, Try.ntmps12
  go_upto_region 1 with fail
  obtain ⟨W0, eW⟩ : ∃ W, W = ((w.alloc (.cells #[.int .i64 0, .int .i64 X, .int .i64 Y, .int .i64 0, .int .i64 0, .int .i64 A, .int .i64 0, .int .i64 0, .int .i64 1, .int .i64 R, .slice aa an ac] 34)).alloc (.cells #[.int .i64 0, .int .i64 X2, .int .i64 Y2, .int .i64 0, .int .i64 0, .int .i64 A2, .int .i64 0, .int .i64 0, .int .i64 2, .int .i64 R2, .slice ba bn bc] 34)).alloc (.cells #[.int .i64 0, .int .i64 0, .slice none 0 0] 38) := ⟨_, rfl⟩
  have hA0 : Has W0 w.heap.size 34 #[.int .i64 0, .int .i64 X, .int .i64 Y, .int .i64 0, .int .i64 0, .int .i64 A, .int .i64 0, .int .i64 0, .int .i64 1, .int .i64 R, .slice aa an ac] := by rw [eW]; exact ((has_new _ _ _).more _).more _
  have hB0 : Has W0 (w.heap.size + 1) 34 #[.int .i64 0, .int .i64 X2, .int .i64 Y2, .int .i64 0, .int .i64 0, .int .i64 A2, .int .i64 0, .int .i64 0, .int .i64 2, .int .i64 R2, .slice ba bn bc] := by rw [eW]; exact (has_next _ _ _ _).more _
  have hO0 : Has W0 (w.heap.size + 1 + 1) 38 #[.int .i64 0, .int .i64 0, .slice none 0 0] := by rw [eW]; simpa using has_new ((w.alloc (.cells #[.int .i64 0, .int .i64 X, .int .i64 Y, .int .i64 0, .int .i64 0, .int .i64 A, .int .i64 0, .int .i64 0, .int .i64 1, .int .i64 R, .slice aa an ac] 34)).alloc (.cells #[.int .i64 0, .int .i64 X2, .int .i64 Y2, .int .i64 0, .int .i64 0, .int .i64 A2, .int .i64 0, .int .i64 0, .int .i64 2, .int .i64 R2, .slice ba bn bc] 34)) 38 #[.int .i64 0, .int .i64 0, .slice none 0 0]
  have M0 : Hid (Made w.heap.size w W0) := by unfold Hid; rw [eW]; exact (((Made.rfl_ _ _).cells (Nat.le_refl _) _ _).cells (by simp) _ _).cells (by simp; omega) _ _
  rw [← eW]
  clear eW
  have a8 := hA0.at_ 8
  have b8 := hB0.at_ 8
  simp at a8 b8
  refine reg_made (by kernel_rfl) (by kernel_rfl) ?_
  intro T' hT fw hf
  have a8' := Class.reads hf a8
  have b8' := Class.reads hf b8
  repeat (go_big_quiet_step (fail))
  refine wpQuiet_nil ?_
  intro w1 h1
  have k1 := hf.here h1
  have hA1 := hA0.stays k1 hA0.here
  have hB1 := hB0.stays k1 hB0.here
  have hO1 := hO0.stays k1 hO0.here
  have M1 : Hid (Made w.heap.size w w1) := M0.out.then_ (k1.low M0.out.1.size)
  clear k1 h1 hf a8 b8 a8' b8' hA0 hB0 hO0 M0
  have a0 := hA1.at_ 0
  have a1 := hA1.at_ 1
  have a2 := hA1.at_ 2
  have a3 := hA1.at_ 3
  have a4 := hA1.at_ 4
  have a5 := hA1.at_ 5
  have a6 := hA1.at_ 6
  have a7 := hA1.at_ 7
  have a8 := hA1.at_ 8
  have a9 := hA1.at_ 9
  have a10 := hA1.at_ 10
  have b0 := hB1.at_ 0
  have b1 := hB1.at_ 1
  have b2 := hB1.at_ 2
  have b3 := hB1.at_ 3
  have b4 := hB1.at_ 4
  have b5 := hB1.at_ 5
  have b6 := hB1.at_ 6
  have b7 := hB1.at_ 7
  have b8 := hB1.at_ 8
  have b9 := hB1.at_ 9
  have b10 := hB1.at_ 10
  simp at a0 b0 a1 b1 a2 b2 a3 b3 a4 b4 a5 b5 a6 b6 a7 b7 a8 b8 a9 b9 a10 b10
  have HO1 := hid hO1
  clear hA1 hB1 hO1
  go_wp2_with fail
  refine (HC.out _ M1.out).mono ?_
  rintro e w2 ⟨ao, c, rfl, hp, k2⟩
  have hO2 := HO1.out.stays k2 HO1.out.here
  have M2 : Hid (Made w.heap.size w w2) := M1.out.then_ (k2.low M1.out.1.size)
  have HPt := hid hp
  clear k2 hp HO1 a0 b0 a1 b1 a2 b2 a3 b3 a4 b4 a5 b5 a6 b6 a7 b7 a8 b8 a9 b9 a10 b10
  obtain ⟨nx, enx⟩ : ∃ z, (T.getD noTch).nx = z := ⟨_, rfl⟩
  obtain ⟨ny, eny⟩ : ∃ z, (T.getD noTch).ny = z := ⟨_, rfl⟩
  obtain ⟨L, eL⟩ : ∃ z, (T.getD noTch).pts = z := ⟨_, rfl⟩
  obtain ⟨ok, eok⟩ : ∃ z, T.isSome = z := ⟨_, rfl⟩
  rw [enx, eny, eL, eok]
  rw [eL] at HPt
  rw [enx] at inx
  rw [eny] at iny
  have o0 := hO2.at_ 0
  have o1 := hO2.at_ 1
  have o2 := hO2.at_ 2
  simp at o0 o1 o2
  have of_ : ∀ i, w2.frozen? ⟨w.heap.size + 1 + 1, i, none⟩ = false := hO2.free
  have ENX := hid enx; have ENY := hid eny; have EL := hid eL; have EOK := hid eok
  have HO2 := hid hO2
  clear enx eny eL eok hO2
  have lw2 : w.heap.size + 1 + 1 < w2.heap.size := HO2.out.here
  cases ok
  · go_upto_region 10 with fail
    obtain ⟨W3, eW⟩ : ∃ W, W = w2.alloc (.cells #[.int .i64 nx, .int .i64 ny, .slice ao L.length c] 38) := ⟨_, rfl⟩
    have hB3 : Has W3 w2.heap.size 38 #[.int .i64 nx, .int .i64 ny, .slice ao L.length c] := by rw [eW]; exact has_new _ _ _
    have hO3 : Has W3 (w.heap.size + 1 + 1) 38 #[.int .i64 0, .int .i64 0, .slice none 0 0] := by rw [eW]; exact HO2.out.more _
    have M3 : Hid (Made w.heap.size w W3) := by unfold Hid; rw [eW]; exact M2.out.cells M2.out.1.size _ _
    have hp3 : PtsT W3 ao L := by rw [eW]; exact HPt.out.kept ((Made.rfl_ _ _).cells (Nat.le_refl _) _ _)
    rw [← eW]
    clear eW o0 o1 o2 of_
    have b0 := hB3.at_ 0
    have b1 := hB3.at_ 1
    have b2 := hB3.at_ 2
    have o0 := hO3.at_ 0
    have o1 := hO3.at_ 1
    have o2 := hO3.at_ 2
    simp at b0 b1 b2 o0 o1 o2
    have of_ : ∀ i, W3.frozen? ⟨w.heap.size + 1 + 1, i, none⟩ = false := hO3.free
    have HP3 := hid hp3; have HO3 := hid hO3
    clear hp3 hO3 hB3
    have eT : T = none := by
      cases hT : T with
      | none => rfl
      | some t => rw [hT] at EOK; exact absurd EOK.out (by simp)
    go_wp2_with fail
    refine bodyPost_ret (v := .tuple #[tchV nx ny ao L.length c, .bool false]) (by simp [results, Try.results12, go_sem, o0, o1, o2]) rfl ⟨ao, c, by rw [← ENX.out, ← ENY.out, ← EL.out, eT]; rfl, ?_, ?_⟩
    · exact by rw [eT]; intro h; exact absurd h (by simp [noTch])
    · exact ((M3.out.put (by simp; try omega) _).put (by simp; try omega) _).put (by simp; try omega) _
  · obtain ⟨mx, emx⟩ : ∃ z, negF nx = z := ⟨_, rfl⟩
    obtain ⟨my, emy⟩ : ∃ z, negF ny = z := ⟨_, rfl⟩
    have EMX := hid emx; have EMY := hid emy
    clear emx emy
    go_wp2_with fail
    refine (vneg_is nx ny mx my _ inx iny EMX.out EMY.out).mono ?_
    rintro e_ w4 ⟨rfl, k4⟩
    have hB4 := (has_new w2 38 #[.int .i64 nx, .int .i64 ny, .slice ao L.length c]).stays k4 (by simp)
    have k4' := made_box k4
    have hO4 := HO2.out.stays k4' HO2.out.here
    have M4 : Hid (Made w.heap.size w w4) := M2.out.then_ (k4'.low M2.out.1.size)
    have hp4 := HPt.out.kept k4'
    have b0 := hB4.at_ 0
    have b1 := hB4.at_ 1
    simp at b0 b1
    have bf : ∀ i, w4.frozen? ⟨w2.heap.size, i, none⟩ = false := hB4.free
    clear k4 k4' o0 o1 o2 of_
    go_upto_region 10 with fail
    obtain ⟨W3, eW⟩ : ∃ W, W = (w4.setCell ⟨w2.heap.size, 0, none⟩ (.int .i64 mx)).setCell ⟨w2.heap.size, 1, none⟩ (.int .i64 my) := ⟨_, rfl⟩
    have hB5 : Has (w4.setCell ⟨w2.heap.size, 0, none⟩ (.int .i64 mx)) w2.heap.size 38 #[.int .i64 mx, .int .i64 ny, .slice ao L.length c] := by simpa using hB4.put 0 (.int .i64 mx)
    have hB3 : Has W3 w2.heap.size 38 #[.int .i64 mx, .int .i64 my, .slice ao L.length c] := by rw [eW]; simpa using hB5.put 1 (.int .i64 my)
    have hO3 : Has W3 (w.heap.size + 1 + 1) 38 #[.int .i64 0, .int .i64 0, .slice none 0 0] := by rw [eW]; exact (hO4.other _ (by simp; omega) _).other _ (by simp; omega) _
    have M3 : Hid (Made w.heap.size w W3) := by unfold Hid; rw [eW]; exact (M4.out.put (by simp; omega) _).put (by simp; omega) _
    have hp3 : PtsT W3 ao L := by rw [eW]; exact (hp4.put hB4 0 _).put hB5 1 _
    rw [← eW]
    clear eW b0 b1 bf hB5 hB4 hO4 hp4 M4
    have b0 := hB3.at_ 0
    have b1 := hB3.at_ 1
    have b2 := hB3.at_ 2
    have o0 := hO3.at_ 0
    have o1 := hO3.at_ 1
    have o2 := hO3.at_ 2
    simp at b0 b1 b2 o0 o1 o2
    have of_ : ∀ i, W3.frozen? ⟨w.heap.size + 1 + 1, i, none⟩ = false := hO3.free
    have HP3 := hid hp3; have HO3 := hid hO3
    clear hp3 hO3 hB3
    obtain ⟨t, eT⟩ : ∃ t, T = some t := by
      cases hT : T with
      | none => rw [hT] at EOK; exact absurd EOK.out (by simp)
      | some t => exact ⟨t, rfl⟩
    go_wp2_with fail
    refine bodyPost_ret (v := .tuple #[tchV mx my ao L.length c, .bool true]) (by simp [results, Try.results12, go_sem, o0, o1, o2]) rfl ⟨ao, c, by rw [← EMX.out, ← EMY.out, ← ENX.out, ← ENY.out, ← EL.out, eT]; rfl, ?_, ?_⟩
    · exact by have := EL.out; rw [eT] at this ⊢; show PtsT _ ao t.pts; rw [show t.pts = L from this]; exact HP3.out.put3 HO3.out
    · exact ((M3.out.put (by simp; try omega) _).put (by simp; try omega) _).put (by simp; try omega) _


theorem i64_unitP (a : Int × Int) : I64 (unitP a).1 ∧ I64 (unitP a).2 := i64_u a.1 a.2
theorem i64_mixed (P : Cs) (n : Nat) (c : Int × Int) (r : Int) : I64 (((mixedF P n c r).getD noTch).nx) ∧ I64 (((mixedF P n c r).getD noTch).ny) := by
  have z : I64 (noTch.nx) ∧ I64 (noTch.ny) := ⟨by unfold noTch I64; simp only []; omega, by unfold noTch I64; simp only []; omega⟩
  have hN : ∀ i, I64 (normF P n i).1 ∧ I64 (normF P n i).2 := fun i => i64_norm P n i
  have hc : ∀ i v u k, I64 (((cornerF (normF P n i) v u r k).getD noTch).nx) ∧ I64 (((cornerF (normF P n i) v u r k).getD noTch).ny) := fun i v u k => by
    unfold cornerF
    split
    · exact z
    · show I64 (if lenV u = 0 then normF P n i else unitP u).1 ∧ I64 (if lenV u = 0 then normF P n i else unitP u).2
      split
      · exact hN i
      · exact i64_unitP u
  unfold mixedF mixedI
  split
  · exact z
  · split
    · exact hN _
    · split
      · exact hc _ _ _ _
      · split
        · exact hc _ _ _ _
        · exact hN _

theorem i64_clip (P : Cs) (n : Nat) (Q : Cs) (m i : Nat) (key : Int) : I64 (((clipF P n Q m i key).getD noTch).nx) ∧ I64 (((clipF P n Q m i key).getD noTch).ny) := by
  have z : I64 (noTch.nx) ∧ I64 (noTch.ny) := ⟨by unfold noTch I64; simp only []; omega, by unfold noTch I64; simp only []; omega⟩
  unfold clipF clipV
  split
  · exact z
  · split
    · exact z
    · unfold pointsF
      split
      · exact z
      · exact i64_norm P n i
theorem i64_polys (P : Cs) (n : Nat) (Q : Cs) (m : Nat) : I64 (((polysF P n Q m).getD noTch).nx) ∧ I64 (((polysF P n Q m).getD noTch).ny) := by
  have z : I64 (noTch.nx) ∧ I64 (noTch.ny) := ⟨by unfold noTch I64; simp only []; omega, by unfold noTch I64; simp only []; omega⟩
  unfold polysF
  split
  · exact z
  · split
    · have h := i64_clip Q m P n (sideF Q m P n) (64 + 2 * (sideF Q m P n : Int))
      cases e : clipF Q m P n (sideF Q m P n) (64 + 2 * (sideF Q m P n : Int)) with
      | none => exact z
      | some t => rw [e] at h; exact ⟨i64_neg h.1, i64_neg h.2⟩
    · exact i64_clip _ _ _ _ _ _

set_option maxRecDepth 100000 in
set_option maxHeartbeats 1000000 in
/-- how two bodies touch, by the statements' own words -/
theorem lwanted_is (X Y A K R X2 Y2 A2 K2 R2 : Int) (s s2 : Value) (b b2 : Bdy) (w : World) (h : BodyAt w X Y A K R s b) (h2 : BodyAt w X2 Y2 A2 K2 R2 s2 b2) :
    Calls Try.prog 12 #[bodyV 0 X Y 0 0 A 0 0 K R s, bodyV 0 X2 Y2 0 0 A2 0 0 K2 R2 s2] w (TouchR (wantF b b2) w) := by
  obtain ⟨iX, iY, iA, iR, h⟩ := h
  obtain ⟨iX2, iY2, iA2, iR2, h2⟩ := h2
  rcases h with ⟨rfl, rfl, rfl⟩ | ⟨rfl, rfl, g, off, n, cap, f, rfl, n3, n8, hp, hi, rfl⟩ <;> rcases h2 with ⟨rfl, rfl, rfl⟩ | ⟨rfl, rfl, g2, off2, m, cap2, f2, rfl, m3, m8, hq, hi2, rfl⟩
  · refine lwant_cc X Y A R X2 Y2 A2 R2 none none 0 0 0 0 (roundsF (X, Y) R (X2, Y2) R2) w ?_ fun v k => lrounds_is X Y A R X2 Y2 A2 R2 v iX iY iR iX2 iY2 iR2
    have z : I64 (noTch.nx) ∧ I64 (noTch.ny) := ⟨by unfold noTch I64; simp only []; omega, by unfold noTch I64; simp only []; omega⟩
    unfold roundsF
    split
    · exact z
    · show I64 (roundsN (X, Y) (X2, Y2)).1 ∧ I64 (roundsN (X, Y) (X2, Y2)).2
      unfold roundsN
      split
      · exact i64_unitP _
      · exact ⟨by unfold I64; simp only []; omega, by unfold I64; simp only []; omega⟩
  · obtain ⟨P, hP⟩ : ∃ P, placeF f2 (cs (stepF A2)) (sn (stepF A2)) X2 Y2 = P := ⟨_, rfl⟩
    rw [hP]
    exact lwant_cp X Y A R X2 Y2 A2 0 none (some ⟨g2, off2, none⟩) 0 0 m cap2 (mixedF P m (X, Y) R) w (i64_mixed _ _ _ _) fun v k => lmixed_is X2 Y2 A2 g2 off2 m cap2 f2 X Y R A P v iX2 iY2 iA2 m3 m8 (hq.kept k) hi2 hP iX iY iR (sideF P m (fun _ => (X, Y)) 1) rfl
  · obtain ⟨P, hP⟩ : ∃ P, placeF f (cs (stepF A)) (sn (stepF A)) X Y = P := ⟨_, rfl⟩
    rw [hP]
    exact lwant_pc X Y A 0 X2 Y2 A2 R2 (some ⟨g, off, none⟩) none n cap 0 0 (mixedF P n (X2, Y2) R2) w (i64_mixed _ _ _ _) fun v k => lmixed_is X Y A g off n cap f X2 Y2 R2 A2 P v iX iY iA n3 n8 (hp.kept k) hi hP iX2 iY2 iR2 (sideF P n (fun _ => (X2, Y2)) 1) rfl
  · obtain ⟨P, hP⟩ : ∃ P, placeF f (cs (stepF A)) (sn (stepF A)) X Y = P := ⟨_, rfl⟩
    obtain ⟨Q, hQ⟩ : ∃ Q, placeF f2 (cs (stepF A2)) (sn (stepF A2)) X2 Y2 = Q := ⟨_, rfl⟩
    rw [hP, hQ]
    refine lwant_pp X Y A 0 X2 Y2 A2 0 (some ⟨g, off, none⟩) (some ⟨g2, off2, none⟩) n cap m cap2 (polysF P n Q m) w ?_ fun v k => lpolys_is X Y A g off n cap f X2 Y2 A2 g2 off2 m cap2 f2 P Q v iX iY iA n3 n8 (hp.kept k) hi hP iX2 iY2 iA2 m3 m8 (hq.kept k) hi2 hQ (sideF P n Q m) (sideF Q m P n) rfl rfl
    exact i64_polys _ _ _ _
end Go.Proofs.Ytckgpkbdckpcmaa.Fx
