/- Contracts of package touch: Of, by kinds. -/
import Derived.Test.YtmfkcdinfahjlaaTcL
import Derived.Test.YtmfkcdinfahjlaaTcC
import Derived.Test.YtmfkcdinfahjlaaTcJ
import Derived.Test.YtmfkcdinfahjlaaTcK
namespace Go.Proofs.Ytmfkcdinfahjlaa.Fx
open Go.ChangeShapes Go.WideShapes Go.ChangeAt Go.RowKit
set_option linter.unusedVariables false

set_option maxRecDepth 100000 in
set_option maxHeartbeats 4000000 in
theorem tof_cpn (X Y A R X2 Y2 A2 : Int) (b2 off2 m cap2 : Nat) (f2 Q : Cs) (w : World) (iX : I64 X) (iY : I64 Y) (iA : I64 A) (iX2 : I64 X2) (iY2 : I64 Y2) (iA2 : I64 A2) (iR : I64 R) (hm3 : 3 ≤ m) (hm8 : m ≤ 8) (hq : Pts w b2 off2 m f2) (hi2 : Cin f2 m) (hQ : placeF f2 (cs (stepF A2)) (sn (stepF A2)) X2 Y2 = Q) (et : mixedF Q m (X, Y) R = none) :
    Calls Try.prog 11 #[bodyV 0 X Y 0 0 A 0 0 1 R (.slice none 0 0), bodyV 0 X2 Y2 0 0 A2 0 0 2 0 (.slice (some ⟨b2, off2, none⟩) m cap2)] w (TouchQ none w) := by
  have HQt := hid hq
  have HQl := hid (fun w hp => tplace_is X2 Y2 A2 b2 off2 m cap2 f2 w iX2 iY2 iA2 hm3 hm8 hp hi2 Q hQ)
  have IQ : Hid (Cin Q m) := fun i _ => by rw [← hQ]; exact ⟨i64_add _ _, i64_add _ _⟩
  clear hq hi2 hQ
  have i0 : I64 0 := by unfold I64; omega
  have EMX : Hid (negF 0 = 0) := by unfold Hid negF cl; rfl
  have HC := hid (fun p g w ho => tpc_is X Y A R p 0 m g m m Q w hm3 hm8 iX iY iR ho IQ.out _ et)
  clear et
  go_enter Try.func11, Try.ntmps11
  go_upto_region 1 with fail
  obtain ⟨W0, eW⟩ : ∃ W, W = ((w.alloc (.cells #[.int .i64 0, .int .i64 X, .int .i64 Y, .int .i64 0, .int .i64 0, .int .i64 A, .int .i64 0, .int .i64 0, .int .i64 1, .int .i64 R, .slice none 0 0] 34)).alloc (.cells #[.int .i64 0, .int .i64 X2, .int .i64 Y2, .int .i64 0, .int .i64 0, .int .i64 A2, .int .i64 0, .int .i64 0, .int .i64 2, .int .i64 0, .slice (some ⟨b2, off2, none⟩) m cap2] 34)).alloc (.cells #[.int .i64 0, .int .i64 0, .slice none 0 0] 38) := ⟨_, rfl⟩
  have M0 : Hid (Made w.heap.size w W0) := by unfold Hid; rw [eW]; exact (((Made.rfl_ _ _).cells (Nat.le_refl _) _ _).cells (by simp) _ _).cells (by simp; omega) _ _
  have HA : Has W0 (w.heap.size) 34 #[.int .i64 0, .int .i64 X, .int .i64 Y, .int .i64 0, .int .i64 0, .int .i64 A, .int .i64 0, .int .i64 0, .int .i64 1, .int .i64 R, .slice none 0 0] := by rw [eW]; exact ((has_new _ _ _).more _).more _
  have HB : Has W0 (w.heap.size + 1) 34 #[.int .i64 0, .int .i64 X2, .int .i64 Y2, .int .i64 0, .int .i64 0, .int .i64 A2, .int .i64 0, .int .i64 0, .int .i64 2, .int .i64 0, .slice (some ⟨b2, off2, none⟩) m cap2] := by rw [eW]; exact (has_next _ _ _ _).more _
  obtain ⟨a0, a1, a2, a3, a4, a5, a6, a7, a8, a9, a10⟩ := HA.c11
  obtain ⟨c0, c1, c2, c3, c4, c5, c6, c7, c8, c9, c10⟩ := HB.c11
  have o0 : W0.cell? ⟨w.heap.size + 1 + 1, 0, none⟩ = some (.int .i64 0) := by rw [eW]; go_simp
  have o1 : W0.cell? ⟨w.heap.size + 1 + 1, 1, none⟩ = some (.int .i64 0) := by rw [eW]; go_simp
  have o2 : W0.cell? ⟨w.heap.size + 1 + 1, 2, none⟩ = some (.slice none 0 0) := by rw [eW]; go_simp
  have of_ : ∀ i, W0.frozen? ⟨w.heap.size + 1 + 1, i, none⟩ = false := fun i => by rw [eW]; go_simp
  rw [← eW]
  clear eW
  go_wp2_with fail
  refine (tround_is X Y A 1 (R) (.slice none 0 0) true (by decide) _).mono ?_
  rintro e w1 ⟨rfl, k1⟩
  have HA := HA.stays k1 HA.here
  have HB := HB.stays k1 HB.here
  obtain ⟨a0, a1, a2, a3, a4, a5, a6, a7, a8, a9, a10⟩ := HA.c11
  obtain ⟨c0, c1, c2, c3, c4, c5, c6, c7, c8, c9, c10⟩ := HB.c11
  have o0 := k1.reads o0
  have o1 := k1.reads o1
  have o2 := k1.reads o2
  have of_ : ∀ i, w1.frozen? ⟨w.heap.size + 1 + 1, i, none⟩ = false := fun i => (k1.2 _).trans (of_ i)
  have M1 : Hid (Made w.heap.size w w1) := M0.out.then_ (k1.low M0.out.1.size)
  clear k1
  go_wp2_with fail
  refine (tround_is X2 Y2 A2 2 (0) (.slice (some ⟨b2, off2, none⟩) m cap2) false (by decide) _).mono ?_
  rintro e w2 ⟨rfl, k1⟩
  have HA := HA.stays k1 HA.here
  have HB := HB.stays k1 HB.here
  obtain ⟨a0, a1, a2, a3, a4, a5, a6, a7, a8, a9, a10⟩ := HA.c11
  obtain ⟨c0, c1, c2, c3, c4, c5, c6, c7, c8, c9, c10⟩ := HB.c11
  have o0 := k1.reads o0
  have o1 := k1.reads o1
  have o2 := k1.reads o2
  have of_ : ∀ i, w2.frozen? ⟨w.heap.size + 1 + 1, i, none⟩ = false := fun i => (k1.2 _).trans (of_ i)
  have M2 : Hid (Made w.heap.size w w2) := M1.out.then_ (k1.low M1.out.1.size)
  clear k1
  go_wp2_with fail
  refine (tround_is X2 Y2 A2 2 (0) (.slice (some ⟨b2, off2, none⟩) m cap2) false (by decide) _).mono ?_
  rintro e w3 ⟨rfl, k1⟩
  have HA := HA.stays k1 HA.here
  have HB := HB.stays k1 HB.here
  obtain ⟨a0, a1, a2, a3, a4, a5, a6, a7, a8, a9, a10⟩ := HA.c11
  obtain ⟨c0, c1, c2, c3, c4, c5, c6, c7, c8, c9, c10⟩ := HB.c11
  have o0 := k1.reads o0
  have o1 := k1.reads o1
  have o2 := k1.reads o2
  have of_ : ∀ i, w3.frozen? ⟨w.heap.size + 1 + 1, i, none⟩ = false := fun i => (k1.2 _).trans (of_ i)
  have M3 : Hid (Made w.heap.size w w3) := M2.out.then_ (k1.low M2.out.1.size)
  clear k1
  go_wp2_with fail
  refine (tround_is X Y A 1 (R) (.slice none 0 0) true (by decide) _).mono ?_
  rintro e w4 ⟨rfl, k1⟩
  have HA := HA.stays k1 HA.here
  have HB := HB.stays k1 HB.here
  obtain ⟨a0, a1, a2, a3, a4, a5, a6, a7, a8, a9, a10⟩ := HA.c11
  obtain ⟨c0, c1, c2, c3, c4, c5, c6, c7, c8, c9, c10⟩ := HB.c11
  have o0 := k1.reads o0
  have o1 := k1.reads o1
  have o2 := k1.reads o2
  have of_ : ∀ i, w4.frozen? ⟨w.heap.size + 1 + 1, i, none⟩ = false := fun i => (k1.2 _).trans (of_ i)
  have M4 : Hid (Made w.heap.size w w4) := M3.out.then_ (k1.low M3.out.1.size)
  clear k1
  have HQt : Hid (Pts w4 b2 off2 m f2) := HQt.out.kept M4.out
  have loc : w.heap.size + 1 + 1 < w4.heap.size := World.block_lt_of_cell? _ _ o0
  go_upto_region 6 with fail
  have mk1 : Hid (∀ (G : Nat → Option (Nat × Nat)) (u : World), MK.Cm w4 (alO 1 m Q 99 m Q 3 none) G u → MK.MkUpon Try.prog w4 (alO 1 m Q 99 m Q 3 none) (valO 1 m 99 m 3 none) 1 G (.ok (.enter 25 #[bodyV 0 X2 Y2 0 0 A2 0 0 2 0 (.slice (some ⟨b2, off2, none⟩) m cap2)]) u)) := by
    intro G u hu
    refine (HQl.out u (HQt.out.kept hu.1)).mono ?_
    rintro e u' ⟨p, g, rfl, hpn, ho, kk⟩
    exact ⟨p, g, rfl, hu.next (alO_lasts _ _ _ _ _ _ _ _) kk hpn (ho.1.here (by omega)) ho⟩
  have mkt : Hid (∀ (pA gA : Nat) (G : Nat → Option (Nat × Nat)) (u : World), G 1 = some (pA, gA) → MK.Cm w4 (alO 1 m Q 99 m Q 3 none) G u → MK.MkUpon Try.prog w4 (alO 1 m Q 99 m Q 3 none) (valO 1 m 99 m 3 none) 3 G (.ok (.enter 24 #[outV pA 0 m gA m m, bodyV 0 X Y 0 0 A 0 0 1 R (.slice none 0 0)]) u)) := by
    intro pA gA G u e1 hu
    have h1 : OutAt u pA 0 gA m Q := (hu.2.1 1 _ e1).2.2
    refine (HC.out pA gA u h1).mono ?_
    intro e u' hT
    obtain ⟨gg, cc, rfl, hg1, hg2, hp, kk⟩ := hT.ans
    exact ⟨gg, cc, rfl, hu.next (alO_lasts _ _ _ _ _ _ _ _) kk hg1 hg2 hp⟩
  refine MK.reg_mk (alO 1 m Q 99 m Q 3 none) 8 [0, 2, 1, 3, 4, 5, 6, 7] [0, 2, 4, 5, 6] [1, 3, 7] [6] (fun i => if i = 3 then [1] else []) (val := valO 1 m 99 m 3 none) (by kernel_rfl) (by kernel_rfl) ?hpu ?_
  case hpu => intro p hp o ho; simp at hp; subst hp; cases ho; exact extract_pure rfl
  refine MK.can_class (rest := [1, 3, 4, 5, 6, 7]) [0, 2] [] 49 (alO_lasts _ _ _ _ _ _ _ _) (MK.any_class _) (by kernel_rfl) rfl (by kernel_rfl) (by kernel_rfl) ?_
  apply Exists.intro
  refine ⟨?q1, ?q2⟩
  case q1 =>
    intro Ty hT fw hf _
    have a0 := Class.reads hf a0
    have a1 := Class.reads hf a1
    have a2 := Class.reads hf a2
    have a3 := Class.reads hf a3
    have a4 := Class.reads hf a4
    have a5 := Class.reads hf a5
    have a6 := Class.reads hf a6
    have a7 := Class.reads hf a7
    have a8 := Class.reads hf a8
    have a9 := Class.reads hf a9
    have a10 := Class.reads hf a10
    have c0 := Class.reads hf c0
    have c1 := Class.reads hf c1
    have c2 := Class.reads hf c2
    have c3 := Class.reads hf c3
    have c4 := Class.reads hf c4
    have c5 := Class.reads hf c5
    have c6 := Class.reads hf c6
    have c7 := Class.reads hf c7
    have c8 := Class.reads hf c8
    have c9 := Class.reads hf c9
    have c10 := Class.reads hf c10
    change wpQuiet _ _ _ _ [_, _] _
    repeat (go_big_quiet_step (fail))
    exact wpQuiet_nil rfl
  refine MK.can_mk 1 34 _ rfl rfl rfl rfl ?m1 fun pA gA => ?m2
  case m1 =>
    intro G' u _ hu
    rw [show (execOp _ _).run Try.prog u = .ok (.enter 25 #[bodyV 0 X2 Y2 0 0 A2 0 0 2 0 (.slice (some ⟨b2, off2, none⟩) m cap2)]) u by kernel_rfl]
    exact mk1.out G' u hu
  rw [show valO 1 m 99 m 3 none 1 pA gA = outV pA 0 m gA m m from rfl]
  simp only [Act.put, List.setIfInBounds_toArray, List.set_cons_succ, List.set_cons_zero]
  refine MK.can_mk 3 36 _ rfl rfl rfl rfl ?m5 fun bb ce => ?m6
  case m5 =>
    intro G' u ha hu
    rw [show (execOp _ _).run Try.prog u = .ok (.enter 24 #[outV pA 0 m gA m m, bodyV 0 X Y 0 0 A 0 0 1 R (.slice none 0 0)]) u by kernel_rfl]
    have e1 : G' 1 = some (pA, gA) := (ha 1 (by simp)).trans (by unfold MK.upd; simp)
    exact mkt.out pA gA G' u e1 hu
  clear mk1 mkt
  rw [show valO 1 m 99 m 3 none 3 bb ce = .tuple #[tchV 0 0 none 0 0, .bool false] from rfl]
  simp only [Act.put, List.setIfInBounds_toArray, List.set_cons_succ, List.set_cons_zero]
  refine MK.can_class (rest := [7]) [4, 5, 6] [] 49 (alO_lasts _ _ _ _ _ _ _ _) (MK.any_class _) (by kernel_rfl) rfl (by kernel_rfl) (by kernel_rfl) ?_
  apply Exists.intro
  refine ⟨?q3, ?q4⟩
  case q3 =>
    intro Ty hT fw hf _
    change wpQuiet _ _ _ _ [_, _, _] _
    repeat (go_big_quiet_step (fail))
    exact wpQuiet_nil rfl
  refine MK.can_mk 7 6 _ rfl rfl rfl rfl ?m7 fun gt ce2 => ?m8
  case m7 =>
    intro G' u _ hu
    rw [show (execOp _ _).run Try.prog u = .ok (.value (.pointer (some ⟨u.heap.size, 0, none⟩))) (u.alloc (.cells #[.int .i64 0, .int .i64 0, .slice none 0 0] 38)) by kernel_rfl]
    exact ⟨u.heap.size, 0, rfl, hu.next (alO_lasts _ _ _ _ _ _ _ _) ((Made.rfl_ _ _).cells (Nat.le_refl _) _ _) (Nat.le_refl _) (by simp) (has_new _ _ _)⟩
  rw [show valO 1 m 99 m 3 none 7 gt ce2 = .pointer (some ⟨gt, 0, none⟩) from rfl]
  intro w9 hu
  have qt : (MK.upd (MK.upd (MK.upd (fun _ => none) 1 (pA, gA)) 3 (bb, ce)) 7 (gt, ce2)) 3 = some (bb, ce) := by unfold MK.upd; simp
  obtain ⟨lbb, lbb9, hans⟩ := hu.2.1 3 _ qt
  have q7 : (MK.upd (MK.upd (MK.upd (fun _ => none) 1 (pA, gA)) 3 (bb, ce)) 7 (gt, ce2)) 7 = some (gt, ce2) := by unfold MK.upd; simp
  obtain ⟨lgt, lgt9, hgt⟩ := hu.2.1 7 _ q7
  have hGT : Has w9 gt 38 #[.int .i64 0, .int .i64 0, .slice none 0 0] := hgt
  have hne : bb ≠ gt := fun e => by
    have := hu.2.2 3 7 _ _ qt q7 e
    omega
  have k9 := hu.1
  have o0 := k9.reads o0
  have o1 := k9.reads o1
  have o2 := k9.reads o2
  have of_ : ∀ i, w9.frozen? ⟨w.heap.size + 1 + 1, i, none⟩ = false := fun i => (k9.2 _).trans (of_ i)
  have M9 : Hid (Made w.heap.size w w9) := M4.out.then_ (k9.low M4.out.1.size)
  have lo9 : w.heap.size + 1 + 1 < w9.heap.size := World.block_lt_of_cell? _ _ o0
  have lcw : w.heap.size ≤ w4.heap.size := M4.out.1.size
  have lob : w.heap.size + 1 + 1 < bb := by simp only [] at lbb; omega
  have bne : bb ≠ w.heap.size + 1 + 1 := by omega
  clear hans
  simp only [List.drop_succ_cons, List.drop_zero]
  have lgo : w.heap.size + 1 + 1 < gt := by simp only [] at lgt; omega
  have t0 := hGT.at_ 0
  have t1 := hGT.at_ 1
  have t2 := hGT.at_ 2
  simp at t0 t1 t2
  have tf : ∀ i, w9.frozen? ⟨gt, i, none⟩ = false := hGT.free
  clear k9 hu qt q7 hgt HA HB a0 a1 a2 a3 a4 a5 a6 a7 a8 a9 a10 c0 c1 c2 c3 c4 c5 c6 c7 c8 c9 c10
  go_upto_region 7 with fail
  obtain ⟨Wa, eW⟩ : ∃ W, W = ((w9.setCell ⟨gt, 0, none⟩ (.int .i64 0)).setCell ⟨gt, 1, none⟩ (.int .i64 0)).setCell ⟨gt, 2, none⟩ (.slice none 0 0) := ⟨_, rfl⟩
  have hT : Has Wa gt 38 #[.int .i64 0, .int .i64 0, .slice none 0 0] := by rw [eW]; simpa using ((hGT.put 0 (.int .i64 0)).put 1 (.int .i64 0)).put 2 (.slice none 0 0)
  have ne : ∀ j, j < gt → j ≠ gt := fun j hj => by omega
  have o0 : Wa.cell? ⟨w.heap.size + 1 + 1, 0, none⟩ = some (.int .i64 0) := by rw [eW]; exact cell_else (ne _ (by simp; omega)) (cell_else (ne _ (by simp; omega)) (cell_else (ne _ (by simp; omega)) o0))
  have o1 : Wa.cell? ⟨w.heap.size + 1 + 1, 1, none⟩ = some (.int .i64 0) := by rw [eW]; exact cell_else (ne _ (by simp; omega)) (cell_else (ne _ (by simp; omega)) (cell_else (ne _ (by simp; omega)) o1))
  have o2 : Wa.cell? ⟨w.heap.size + 1 + 1, 2, none⟩ = some (.slice none 0 0) := by rw [eW]; exact cell_else (ne _ (by simp; omega)) (cell_else (ne _ (by simp; omega)) (cell_else (ne _ (by simp; omega)) o2))
  have of_ : ∀ i, Wa.frozen? ⟨w.heap.size + 1 + 1, i, none⟩ = false := fun i => by rw [eW]; simpa using of_ i
  have Ma : Hid (Made w.heap.size w Wa) := by unfold Hid; rw [eW]; exact ((M9.out.put (by simp; omega) _).put (by simp; omega) _).put (by simp; omega) _
  rw [← eW]
  clear eW t0 t1 t2 tf hGT
  have t0 := hT.at_ 0
  have t1 := hT.at_ 1
  have t2 := hT.at_ 2
  simp at t0 t1 t2
  refine NoPanic.normal ?_
  go_wp2_with fail
  refine (tflipped_is _ _ _ _ _ _ _ _ i0 i0 EMX.out EMX.out).mono ?_
  rintro e wz ⟨rfl, kz⟩
  have o0 := kz.reads o0
  have o1 := kz.reads o1
  have o2 := kz.reads o2
  have of_ : ∀ i, wz.frozen? ⟨w.heap.size + 1 + 1, i, none⟩ = false := fun i => (kz.2 _).trans (of_ i)
  have Mz : Hid (Made w.heap.size w wz) := Ma.out.then_ (kz.low Ma.out.1.size)
  have loz : w.heap.size + 1 + 1 < wz.heap.size := World.block_lt_of_cell? _ _ o0
  clear kz
  go_wp2_with fail
  refine bodyPost_ret (v := .tuple #[tchV 0 0 none 0 0, .bool false]) (by simp [results, Try.results11, go_sem, o0, o1, o2]) rfl (touchq_none (by simp; omega) ?_)
  exact ((Mz.out.put (by simp; try omega) _).put (by simp; try omega) _).put (by simp; try omega) _

set_option maxRecDepth 100000 in
set_option maxHeartbeats 4000000 in
theorem tof_cps (X Y A R X2 Y2 A2 : Int) (b2 off2 m cap2 : Nat) (f2 Q : Cs) (w : World) (iX : I64 X) (iY : I64 Y) (iA : I64 A) (iX2 : I64 X2) (iY2 : I64 Y2) (iA2 : I64 A2) (iR : I64 R) (hm3 : 3 ≤ m) (hm8 : m ≤ 8) (hq : Pts w b2 off2 m f2) (hi2 : Cin f2 m) (hQ : placeF f2 (cs (stepF A2)) (sn (stepF A2)) X2 Y2 = Q) (t : Tch) (et : mixedF Q m (X, Y) R = some t) (itx : I64 t.nx) (ity : I64 t.ny) :
    Calls Try.prog 11 #[bodyV 0 X Y 0 0 A 0 0 1 R (.slice none 0 0), bodyV 0 X2 Y2 0 0 A2 0 0 2 0 (.slice (some ⟨b2, off2, none⟩) m cap2)] w (TouchQ (some (negT t)) w) := by
  have HQt := hid hq
  have HQl := hid (fun w hp => tplace_is X2 Y2 A2 b2 off2 m cap2 f2 w iX2 iY2 iA2 hm3 hm8 hp hi2 Q hQ)
  have IQ : Hid (Cin Q m) := fun i _ => by rw [← hQ]; exact ⟨i64_add _ _, i64_add _ _⟩
  clear hq hi2 hQ
  obtain ⟨tx, ty, l⟩ := t
  have itx : I64 tx := itx
  have ity : I64 ty := ity
  obtain ⟨mx, emx⟩ : ∃ z, negF tx = z := ⟨_, rfl⟩
  obtain ⟨my, emy⟩ : ∃ z, negF ty = z := ⟨_, rfl⟩
  have HNT : Hid (negT ⟨tx, ty, l⟩ = ⟨mx, my, l⟩) := by unfold Hid negT; simp only []; rw [emx, emy]
  rw [HNT.out]
  have EMX := hid emx
  have EMY := hid emy
  clear emx emy HNT
  have HC := hid (fun p g w ho => tpc_is X Y A R p 0 m g m m Q w hm3 hm8 iX iY iR ho IQ.out _ et)
  clear et
  go_enter Try.func11, Try.ntmps11
  go_upto_region 1 with fail
  obtain ⟨W0, eW⟩ : ∃ W, W = ((w.alloc (.cells #[.int .i64 0, .int .i64 X, .int .i64 Y, .int .i64 0, .int .i64 0, .int .i64 A, .int .i64 0, .int .i64 0, .int .i64 1, .int .i64 R, .slice none 0 0] 34)).alloc (.cells #[.int .i64 0, .int .i64 X2, .int .i64 Y2, .int .i64 0, .int .i64 0, .int .i64 A2, .int .i64 0, .int .i64 0, .int .i64 2, .int .i64 0, .slice (some ⟨b2, off2, none⟩) m cap2] 34)).alloc (.cells #[.int .i64 0, .int .i64 0, .slice none 0 0] 38) := ⟨_, rfl⟩
  have M0 : Hid (Made w.heap.size w W0) := by unfold Hid; rw [eW]; exact (((Made.rfl_ _ _).cells (Nat.le_refl _) _ _).cells (by simp) _ _).cells (by simp; omega) _ _
  have HA : Has W0 (w.heap.size) 34 #[.int .i64 0, .int .i64 X, .int .i64 Y, .int .i64 0, .int .i64 0, .int .i64 A, .int .i64 0, .int .i64 0, .int .i64 1, .int .i64 R, .slice none 0 0] := by rw [eW]; exact ((has_new _ _ _).more _).more _
  have HB : Has W0 (w.heap.size + 1) 34 #[.int .i64 0, .int .i64 X2, .int .i64 Y2, .int .i64 0, .int .i64 0, .int .i64 A2, .int .i64 0, .int .i64 0, .int .i64 2, .int .i64 0, .slice (some ⟨b2, off2, none⟩) m cap2] := by rw [eW]; exact (has_next _ _ _ _).more _
  obtain ⟨a0, a1, a2, a3, a4, a5, a6, a7, a8, a9, a10⟩ := HA.c11
  obtain ⟨c0, c1, c2, c3, c4, c5, c6, c7, c8, c9, c10⟩ := HB.c11
  have o0 : W0.cell? ⟨w.heap.size + 1 + 1, 0, none⟩ = some (.int .i64 0) := by rw [eW]; go_simp
  have o1 : W0.cell? ⟨w.heap.size + 1 + 1, 1, none⟩ = some (.int .i64 0) := by rw [eW]; go_simp
  have o2 : W0.cell? ⟨w.heap.size + 1 + 1, 2, none⟩ = some (.slice none 0 0) := by rw [eW]; go_simp
  have of_ : ∀ i, W0.frozen? ⟨w.heap.size + 1 + 1, i, none⟩ = false := fun i => by rw [eW]; go_simp
  rw [← eW]
  clear eW
  go_wp2_with fail
  refine (tround_is X Y A 1 (R) (.slice none 0 0) true (by decide) _).mono ?_
  rintro e w1 ⟨rfl, k1⟩
  have HA := HA.stays k1 HA.here
  have HB := HB.stays k1 HB.here
  obtain ⟨a0, a1, a2, a3, a4, a5, a6, a7, a8, a9, a10⟩ := HA.c11
  obtain ⟨c0, c1, c2, c3, c4, c5, c6, c7, c8, c9, c10⟩ := HB.c11
  have o0 := k1.reads o0
  have o1 := k1.reads o1
  have o2 := k1.reads o2
  have of_ : ∀ i, w1.frozen? ⟨w.heap.size + 1 + 1, i, none⟩ = false := fun i => (k1.2 _).trans (of_ i)
  have M1 : Hid (Made w.heap.size w w1) := M0.out.then_ (k1.low M0.out.1.size)
  clear k1
  go_wp2_with fail
  refine (tround_is X2 Y2 A2 2 (0) (.slice (some ⟨b2, off2, none⟩) m cap2) false (by decide) _).mono ?_
  rintro e w2 ⟨rfl, k1⟩
  have HA := HA.stays k1 HA.here
  have HB := HB.stays k1 HB.here
  obtain ⟨a0, a1, a2, a3, a4, a5, a6, a7, a8, a9, a10⟩ := HA.c11
  obtain ⟨c0, c1, c2, c3, c4, c5, c6, c7, c8, c9, c10⟩ := HB.c11
  have o0 := k1.reads o0
  have o1 := k1.reads o1
  have o2 := k1.reads o2
  have of_ : ∀ i, w2.frozen? ⟨w.heap.size + 1 + 1, i, none⟩ = false := fun i => (k1.2 _).trans (of_ i)
  have M2 : Hid (Made w.heap.size w w2) := M1.out.then_ (k1.low M1.out.1.size)
  clear k1
  go_wp2_with fail
  refine (tround_is X2 Y2 A2 2 (0) (.slice (some ⟨b2, off2, none⟩) m cap2) false (by decide) _).mono ?_
  rintro e w3 ⟨rfl, k1⟩
  have HA := HA.stays k1 HA.here
  have HB := HB.stays k1 HB.here
  obtain ⟨a0, a1, a2, a3, a4, a5, a6, a7, a8, a9, a10⟩ := HA.c11
  obtain ⟨c0, c1, c2, c3, c4, c5, c6, c7, c8, c9, c10⟩ := HB.c11
  have o0 := k1.reads o0
  have o1 := k1.reads o1
  have o2 := k1.reads o2
  have of_ : ∀ i, w3.frozen? ⟨w.heap.size + 1 + 1, i, none⟩ = false := fun i => (k1.2 _).trans (of_ i)
  have M3 : Hid (Made w.heap.size w w3) := M2.out.then_ (k1.low M2.out.1.size)
  clear k1
  go_wp2_with fail
  refine (tround_is X Y A 1 (R) (.slice none 0 0) true (by decide) _).mono ?_
  rintro e w4 ⟨rfl, k1⟩
  have HA := HA.stays k1 HA.here
  have HB := HB.stays k1 HB.here
  obtain ⟨a0, a1, a2, a3, a4, a5, a6, a7, a8, a9, a10⟩ := HA.c11
  obtain ⟨c0, c1, c2, c3, c4, c5, c6, c7, c8, c9, c10⟩ := HB.c11
  have o0 := k1.reads o0
  have o1 := k1.reads o1
  have o2 := k1.reads o2
  have of_ : ∀ i, w4.frozen? ⟨w.heap.size + 1 + 1, i, none⟩ = false := fun i => (k1.2 _).trans (of_ i)
  have M4 : Hid (Made w.heap.size w w4) := M3.out.then_ (k1.low M3.out.1.size)
  clear k1
  have HQt : Hid (Pts w4 b2 off2 m f2) := HQt.out.kept M4.out
  have loc : w.heap.size + 1 + 1 < w4.heap.size := World.block_lt_of_cell? _ _ o0
  go_upto_region 6 with fail
  have mk1 : Hid (∀ (G : Nat → Option (Nat × Nat)) (u : World), MK.Cm w4 (alO 1 m Q 99 m Q 3 (some ⟨tx, ty, l⟩)) G u → MK.MkUpon Try.prog w4 (alO 1 m Q 99 m Q 3 (some ⟨tx, ty, l⟩)) (valO 1 m 99 m 3 (some ⟨tx, ty, l⟩)) 1 G (.ok (.enter 25 #[bodyV 0 X2 Y2 0 0 A2 0 0 2 0 (.slice (some ⟨b2, off2, none⟩) m cap2)]) u)) := by
    intro G u hu
    refine (HQl.out u (HQt.out.kept hu.1)).mono ?_
    rintro e u' ⟨p, g, rfl, hpn, ho, kk⟩
    exact ⟨p, g, rfl, hu.next (alO_lasts _ _ _ _ _ _ _ _) kk hpn (ho.1.here (by omega)) ho⟩
  have mkt : Hid (∀ (pA gA : Nat) (G : Nat → Option (Nat × Nat)) (u : World), G 1 = some (pA, gA) → MK.Cm w4 (alO 1 m Q 99 m Q 3 (some ⟨tx, ty, l⟩)) G u → MK.MkUpon Try.prog w4 (alO 1 m Q 99 m Q 3 (some ⟨tx, ty, l⟩)) (valO 1 m 99 m 3 (some ⟨tx, ty, l⟩)) 3 G (.ok (.enter 24 #[outV pA 0 m gA m m, bodyV 0 X Y 0 0 A 0 0 1 R (.slice none 0 0)]) u)) := by
    intro pA gA G u e1 hu
    have h1 : OutAt u pA 0 gA m Q := (hu.2.1 1 _ e1).2.2
    refine (HC.out pA gA u h1).mono ?_
    intro e u' hT
    obtain ⟨gg, cc, rfl, hg1, hg2, hp, kk⟩ := hT.ans
    exact ⟨gg, cc, rfl, hu.next (alO_lasts _ _ _ _ _ _ _ _) kk hg1 hg2 hp⟩
  refine MK.reg_mk (alO 1 m Q 99 m Q 3 (some ⟨tx, ty, l⟩)) 8 [0, 2, 1, 3, 4, 5, 6, 7] [0, 2, 4, 5, 6] [1, 3, 7] [6] (fun i => if i = 3 then [1] else []) (val := valO 1 m 99 m 3 (some ⟨tx, ty, l⟩)) (by kernel_rfl) (by kernel_rfl) ?hpu ?_
  case hpu => intro p hp o ho; simp at hp; subst hp; cases ho; exact extract_pure rfl
  refine MK.can_class (rest := [1, 3, 4, 5, 6, 7]) [0, 2] [] 49 (alO_lasts _ _ _ _ _ _ _ _) (MK.any_class _) (by kernel_rfl) rfl (by kernel_rfl) (by kernel_rfl) ?_
  apply Exists.intro
  refine ⟨?q1, ?q2⟩
  case q1 =>
    intro Ty hT fw hf _
    have a0 := Class.reads hf a0
    have a1 := Class.reads hf a1
    have a2 := Class.reads hf a2
    have a3 := Class.reads hf a3
    have a4 := Class.reads hf a4
    have a5 := Class.reads hf a5
    have a6 := Class.reads hf a6
    have a7 := Class.reads hf a7
    have a8 := Class.reads hf a8
    have a9 := Class.reads hf a9
    have a10 := Class.reads hf a10
    have c0 := Class.reads hf c0
    have c1 := Class.reads hf c1
    have c2 := Class.reads hf c2
    have c3 := Class.reads hf c3
    have c4 := Class.reads hf c4
    have c5 := Class.reads hf c5
    have c6 := Class.reads hf c6
    have c7 := Class.reads hf c7
    have c8 := Class.reads hf c8
    have c9 := Class.reads hf c9
    have c10 := Class.reads hf c10
    change wpQuiet _ _ _ _ [_, _] _
    repeat (go_big_quiet_step (fail))
    exact wpQuiet_nil rfl
  refine MK.can_mk 1 34 _ rfl rfl rfl rfl ?m1 fun pA gA => ?m2
  case m1 =>
    intro G' u _ hu
    rw [show (execOp _ _).run Try.prog u = .ok (.enter 25 #[bodyV 0 X2 Y2 0 0 A2 0 0 2 0 (.slice (some ⟨b2, off2, none⟩) m cap2)]) u by kernel_rfl]
    exact mk1.out G' u hu
  rw [show valO 1 m 99 m 3 (some ⟨tx, ty, l⟩) 1 pA gA = outV pA 0 m gA m m from rfl]
  simp only [Act.put, List.setIfInBounds_toArray, List.set_cons_succ, List.set_cons_zero]
  refine MK.can_mk 3 36 _ rfl rfl rfl rfl ?m5 fun bb ce => ?m6
  case m5 =>
    intro G' u ha hu
    rw [show (execOp _ _).run Try.prog u = .ok (.enter 24 #[outV pA 0 m gA m m, bodyV 0 X Y 0 0 A 0 0 1 R (.slice none 0 0)]) u by kernel_rfl]
    have e1 : G' 1 = some (pA, gA) := (ha 1 (by simp)).trans (by unfold MK.upd; simp)
    exact mkt.out pA gA G' u e1 hu
  clear mk1 mkt
  rw [show valO 1 m 99 m 3 (some ⟨tx, ty, l⟩) 3 bb ce = .tuple #[tchV tx ty (some ⟨bb, 0, none⟩) l.length ce, .bool true] from rfl]
  simp only [Act.put, List.setIfInBounds_toArray, List.set_cons_succ, List.set_cons_zero]
  refine MK.can_class (rest := [7]) [4, 5, 6] [] 49 (alO_lasts _ _ _ _ _ _ _ _) (MK.any_class _) (by kernel_rfl) rfl (by kernel_rfl) (by kernel_rfl) ?_
  apply Exists.intro
  refine ⟨?q3, ?q4⟩
  case q3 =>
    intro Ty hT fw hf _
    change wpQuiet _ _ _ _ [_, _, _] _
    repeat (go_big_quiet_step (fail))
    exact wpQuiet_nil rfl
  refine MK.can_mk 7 6 _ rfl rfl rfl rfl ?m7 fun gt ce2 => ?m8
  case m7 =>
    intro G' u _ hu
    rw [show (execOp _ _).run Try.prog u = .ok (.value (.pointer (some ⟨u.heap.size, 0, none⟩))) (u.alloc (.cells #[.int .i64 0, .int .i64 0, .slice none 0 0] 38)) by kernel_rfl]
    exact ⟨u.heap.size, 0, rfl, hu.next (alO_lasts _ _ _ _ _ _ _ _) ((Made.rfl_ _ _).cells (Nat.le_refl _) _ _) (Nat.le_refl _) (by simp) (has_new _ _ _)⟩
  rw [show valO 1 m 99 m 3 (some ⟨tx, ty, l⟩) 7 gt ce2 = .pointer (some ⟨gt, 0, none⟩) from rfl]
  intro w9 hu
  have qt : (MK.upd (MK.upd (MK.upd (fun _ => none) 1 (pA, gA)) 3 (bb, ce)) 7 (gt, ce2)) 3 = some (bb, ce) := by unfold MK.upd; simp
  obtain ⟨lbb, lbb9, hans⟩ := hu.2.1 3 _ qt
  have q7 : (MK.upd (MK.upd (MK.upd (fun _ => none) 1 (pA, gA)) 3 (bb, ce)) 7 (gt, ce2)) 7 = some (gt, ce2) := by unfold MK.upd; simp
  obtain ⟨lgt, lgt9, hgt⟩ := hu.2.1 7 _ q7
  have hGT : Has w9 gt 38 #[.int .i64 0, .int .i64 0, .slice none 0 0] := hgt
  have hne : bb ≠ gt := fun e => by
    have := hu.2.2 3 7 _ _ qt q7 e
    omega
  have k9 := hu.1
  have o0 := k9.reads o0
  have o1 := k9.reads o1
  have o2 := k9.reads o2
  have of_ : ∀ i, w9.frozen? ⟨w.heap.size + 1 + 1, i, none⟩ = false := fun i => (k9.2 _).trans (of_ i)
  have M9 : Hid (Made w.heap.size w w9) := M4.out.then_ (k9.low M4.out.1.size)
  have lo9 : w.heap.size + 1 + 1 < w9.heap.size := World.block_lt_of_cell? _ _ o0
  have lcw : w.heap.size ≤ w4.heap.size := M4.out.1.size
  have lob : w.heap.size + 1 + 1 < bb := by simp only [] at lbb; omega
  have bne : bb ≠ w.heap.size + 1 + 1 := by omega
  have hans : 0 < l.length ∧ PtsT w9 (some ⟨bb, 0, none⟩) l := hans
  obtain ⟨hl, hpt⟩ := hans
  have HPp := hid hpt
  clear hpt
  simp only [List.drop_succ_cons, List.drop_zero]
  have lgo : w.heap.size + 1 + 1 < gt := by simp only [] at lgt; omega
  have t0 := hGT.at_ 0
  have t1 := hGT.at_ 1
  have t2 := hGT.at_ 2
  simp at t0 t1 t2
  have tf : ∀ i, w9.frozen? ⟨gt, i, none⟩ = false := hGT.free
  clear k9 hu qt q7 hgt HA HB a0 a1 a2 a3 a4 a5 a6 a7 a8 a9 a10 c0 c1 c2 c3 c4 c5 c6 c7 c8 c9 c10
  go_upto_region 7 with fail
  obtain ⟨Wa, eW⟩ : ∃ W, W = ((w9.setCell ⟨gt, 0, none⟩ (.int .i64 tx)).setCell ⟨gt, 1, none⟩ (.int .i64 ty)).setCell ⟨gt, 2, none⟩ (.slice (some ⟨bb, 0, none⟩) l.length ce) := ⟨_, rfl⟩
  have hT : Has Wa gt 38 #[.int .i64 tx, .int .i64 ty, .slice (some ⟨bb, 0, none⟩) l.length ce] := by rw [eW]; simpa using ((hGT.put 0 (.int .i64 tx)).put 1 (.int .i64 ty)).put 2 (.slice (some ⟨bb, 0, none⟩) l.length ce)
  have ne : ∀ j, j < gt → j ≠ gt := fun j hj => by omega
  have o0 : Wa.cell? ⟨w.heap.size + 1 + 1, 0, none⟩ = some (.int .i64 0) := by rw [eW]; exact cell_else (ne _ (by simp; omega)) (cell_else (ne _ (by simp; omega)) (cell_else (ne _ (by simp; omega)) o0))
  have o1 : Wa.cell? ⟨w.heap.size + 1 + 1, 1, none⟩ = some (.int .i64 0) := by rw [eW]; exact cell_else (ne _ (by simp; omega)) (cell_else (ne _ (by simp; omega)) (cell_else (ne _ (by simp; omega)) o1))
  have o2 : Wa.cell? ⟨w.heap.size + 1 + 1, 2, none⟩ = some (.slice none 0 0) := by rw [eW]; exact cell_else (ne _ (by simp; omega)) (cell_else (ne _ (by simp; omega)) (cell_else (ne _ (by simp; omega)) o2))
  have of_ : ∀ i, Wa.frozen? ⟨w.heap.size + 1 + 1, i, none⟩ = false := fun i => by rw [eW]; simpa using of_ i
  have Ma : Hid (Made w.heap.size w Wa) := by unfold Hid; rw [eW]; exact ((M9.out.put (by simp; omega) _).put (by simp; omega) _).put (by simp; omega) _
  have HPa : Hid (PtsT Wa (some ⟨bb, 0, none⟩) l) := by unfold Hid; rw [eW]; exact HPp.out.putO hne _ _ _
  rw [← eW]
  clear eW t0 t1 t2 tf hGT
  have t0 := hT.at_ 0
  have t1 := hT.at_ 1
  have t2 := hT.at_ 2
  simp at t0 t1 t2
  refine NoPanic.normal ?_
  go_wp2_with fail
  refine (tflipped_is _ _ _ _ _ _ _ _ itx ity EMX.out EMY.out).mono ?_
  rintro e wz ⟨rfl, kz⟩
  have o0 := kz.reads o0
  have o1 := kz.reads o1
  have o2 := kz.reads o2
  have of_ : ∀ i, wz.frozen? ⟨w.heap.size + 1 + 1, i, none⟩ = false := fun i => (kz.2 _).trans (of_ i)
  have Mz : Hid (Made w.heap.size w wz) := Ma.out.then_ (kz.low Ma.out.1.size)
  have loz : w.heap.size + 1 + 1 < wz.heap.size := World.block_lt_of_cell? _ _ o0
  have HPz : Hid (PtsT wz (some ⟨bb, 0, none⟩) l) := HPa.out.kept kz
  clear kz
  go_wp2_with fail
  refine bodyPost_ret (v := .tuple #[tchV mx my (some ⟨bb, 0, none⟩) l.length ce, .bool true]) (by simp [results, Try.results11, go_sem, o0, o1, o2]) rfl ⟨bb, ce, by omega, rfl, hl, ?_, ?_⟩
  · exact HPz.out.putO bne _ _ _
  · exact ((Mz.out.put (by simp; try omega) _).put (by simp; try omega) _).put (by simp; try omega) _

set_option maxRecDepth 100000 in
set_option maxHeartbeats 4000000 in
theorem tof_ppn (X Y A X2 Y2 A2 : Int) (b off n cap : Nat) (f P : Cs) (b2 off2 m cap2 : Nat) (f2 Q : Cs) (w : World) (iX : I64 X) (iY : I64 Y) (iA : I64 A) (iX2 : I64 X2) (iY2 : I64 Y2) (iA2 : I64 A2) (hn3 : 3 ≤ n) (h8 : n ≤ 8) (hp : Pts w b off n f) (hi : Cin f n) (hP : placeF f (cs (stepF A)) (sn (stepF A)) X Y = P) (hm3 : 3 ≤ m) (hm8 : m ≤ 8) (hq : Pts w b2 off2 m f2) (hi2 : Cin f2 m) (hQ : placeF f2 (cs (stepF A2)) (sn (stepF A2)) X2 Y2 = Q) (et : polysF P n Q m = none) :
    Calls Try.prog 11 #[bodyV 0 X Y 0 0 A 0 0 2 0 (.slice (some ⟨b, off, none⟩) n cap), bodyV 0 X2 Y2 0 0 A2 0 0 2 0 (.slice (some ⟨b2, off2, none⟩) m cap2)] w (TouchQ none w) := by
  have HPt := hid hp
  have HPl := hid (fun w hp => tplace_is X Y A b off n cap f w iX iY iA hn3 h8 hp hi P hP)
  have IP : Hid (Cin P n) := fun i _ => by rw [← hP]; exact ⟨i64_add _ _, i64_add _ _⟩
  clear hp hi hP
  have HQt := hid hq
  have HQl := hid (fun w hp => tplace_is X2 Y2 A2 b2 off2 m cap2 f2 w iX2 iY2 iA2 hm3 hm8 hp hi2 Q hQ)
  have IQ : Hid (Cin Q m) := fun i _ => by rw [← hQ]; exact ⟨i64_add _ _, i64_add _ _⟩
  clear hq hi2 hQ
  have HC := hid (fun p g p2 g2 w ho ho2 => tpolygons_is p 0 n g n n p2 0 m g2 m m P Q w hn3 h8 hm3 hm8 ho ho2 IP.out IQ.out _ et)
  clear et
  go_enter Try.func11, Try.ntmps11
  go_upto_region 1 with fail
  obtain ⟨W0, eW⟩ : ∃ W, W = ((w.alloc (.cells #[.int .i64 0, .int .i64 X, .int .i64 Y, .int .i64 0, .int .i64 0, .int .i64 A, .int .i64 0, .int .i64 0, .int .i64 2, .int .i64 0, .slice (some ⟨b, off, none⟩) n cap] 34)).alloc (.cells #[.int .i64 0, .int .i64 X2, .int .i64 Y2, .int .i64 0, .int .i64 0, .int .i64 A2, .int .i64 0, .int .i64 0, .int .i64 2, .int .i64 0, .slice (some ⟨b2, off2, none⟩) m cap2] 34)).alloc (.cells #[.int .i64 0, .int .i64 0, .slice none 0 0] 38) := ⟨_, rfl⟩
  have M0 : Hid (Made w.heap.size w W0) := by unfold Hid; rw [eW]; exact (((Made.rfl_ _ _).cells (Nat.le_refl _) _ _).cells (by simp) _ _).cells (by simp; omega) _ _
  have HA : Has W0 (w.heap.size) 34 #[.int .i64 0, .int .i64 X, .int .i64 Y, .int .i64 0, .int .i64 0, .int .i64 A, .int .i64 0, .int .i64 0, .int .i64 2, .int .i64 0, .slice (some ⟨b, off, none⟩) n cap] := by rw [eW]; exact ((has_new _ _ _).more _).more _
  have HB : Has W0 (w.heap.size + 1) 34 #[.int .i64 0, .int .i64 X2, .int .i64 Y2, .int .i64 0, .int .i64 0, .int .i64 A2, .int .i64 0, .int .i64 0, .int .i64 2, .int .i64 0, .slice (some ⟨b2, off2, none⟩) m cap2] := by rw [eW]; exact (has_next _ _ _ _).more _
  obtain ⟨a0, a1, a2, a3, a4, a5, a6, a7, a8, a9, a10⟩ := HA.c11
  obtain ⟨c0, c1, c2, c3, c4, c5, c6, c7, c8, c9, c10⟩ := HB.c11
  have o0 : W0.cell? ⟨w.heap.size + 1 + 1, 0, none⟩ = some (.int .i64 0) := by rw [eW]; go_simp
  have o1 : W0.cell? ⟨w.heap.size + 1 + 1, 1, none⟩ = some (.int .i64 0) := by rw [eW]; go_simp
  have o2 : W0.cell? ⟨w.heap.size + 1 + 1, 2, none⟩ = some (.slice none 0 0) := by rw [eW]; go_simp
  have of_ : ∀ i, W0.frozen? ⟨w.heap.size + 1 + 1, i, none⟩ = false := fun i => by rw [eW]; go_simp
  rw [← eW]
  clear eW
  go_wp2_with fail
  refine (tround_is X Y A 2 (0) (.slice (some ⟨b, off, none⟩) n cap) false (by decide) _).mono ?_
  rintro e w1 ⟨rfl, k1⟩
  have HA := HA.stays k1 HA.here
  have HB := HB.stays k1 HB.here
  obtain ⟨a0, a1, a2, a3, a4, a5, a6, a7, a8, a9, a10⟩ := HA.c11
  obtain ⟨c0, c1, c2, c3, c4, c5, c6, c7, c8, c9, c10⟩ := HB.c11
  have o0 := k1.reads o0
  have o1 := k1.reads o1
  have o2 := k1.reads o2
  have of_ : ∀ i, w1.frozen? ⟨w.heap.size + 1 + 1, i, none⟩ = false := fun i => (k1.2 _).trans (of_ i)
  have M1 : Hid (Made w.heap.size w w1) := M0.out.then_ (k1.low M0.out.1.size)
  clear k1
  go_wp2_with fail
  refine (tround_is X2 Y2 A2 2 (0) (.slice (some ⟨b2, off2, none⟩) m cap2) false (by decide) _).mono ?_
  rintro e w3 ⟨rfl, k1⟩
  have HA := HA.stays k1 HA.here
  have HB := HB.stays k1 HB.here
  obtain ⟨a0, a1, a2, a3, a4, a5, a6, a7, a8, a9, a10⟩ := HA.c11
  obtain ⟨c0, c1, c2, c3, c4, c5, c6, c7, c8, c9, c10⟩ := HB.c11
  have o0 := k1.reads o0
  have o1 := k1.reads o1
  have o2 := k1.reads o2
  have of_ : ∀ i, w3.frozen? ⟨w.heap.size + 1 + 1, i, none⟩ = false := fun i => (k1.2 _).trans (of_ i)
  have M3 : Hid (Made w.heap.size w w3) := M1.out.then_ (k1.low M1.out.1.size)
  clear k1
  go_wp2_with fail
  refine (tround_is X Y A 2 (0) (.slice (some ⟨b, off, none⟩) n cap) false (by decide) _).mono ?_
  rintro e w4 ⟨rfl, k1⟩
  have HA := HA.stays k1 HA.here
  have HB := HB.stays k1 HB.here
  obtain ⟨a0, a1, a2, a3, a4, a5, a6, a7, a8, a9, a10⟩ := HA.c11
  obtain ⟨c0, c1, c2, c3, c4, c5, c6, c7, c8, c9, c10⟩ := HB.c11
  have o0 := k1.reads o0
  have o1 := k1.reads o1
  have o2 := k1.reads o2
  have of_ : ∀ i, w4.frozen? ⟨w.heap.size + 1 + 1, i, none⟩ = false := fun i => (k1.2 _).trans (of_ i)
  have M4 : Hid (Made w.heap.size w w4) := M3.out.then_ (k1.low M3.out.1.size)
  clear k1
  have HPt : Hid (Pts w4 b off n f) := HPt.out.kept M4.out
  have HQt : Hid (Pts w4 b2 off2 m f2) := HQt.out.kept M4.out
  have loc : w.heap.size + 1 + 1 < w4.heap.size := World.block_lt_of_cell? _ _ o0
  go_upto_region 8 with fail
  have mk1 : Hid (∀ (G : Nat → Option (Nat × Nat)) (u : World), MK.Cm w4 (alO 1 n P 3 m Q 4 none) G u → MK.MkUpon Try.prog w4 (alO 1 n P 3 m Q 4 none) (valO 1 n 3 m 4 none) 1 G (.ok (.enter 25 #[bodyV 0 X Y 0 0 A 0 0 2 0 (.slice (some ⟨b, off, none⟩) n cap)]) u)) := by
    intro G u hu
    refine (HPl.out u (HPt.out.kept hu.1)).mono ?_
    rintro e u' ⟨p, g, rfl, hpn, ho, kk⟩
    exact ⟨p, g, rfl, hu.next (alO_lasts _ _ _ _ _ _ _ _) kk hpn (ho.1.here (by omega)) ho⟩
  have mk3 : Hid (∀ (G : Nat → Option (Nat × Nat)) (u : World), MK.Cm w4 (alO 1 n P 3 m Q 4 none) G u → MK.MkUpon Try.prog w4 (alO 1 n P 3 m Q 4 none) (valO 1 n 3 m 4 none) 3 G (.ok (.enter 25 #[bodyV 0 X2 Y2 0 0 A2 0 0 2 0 (.slice (some ⟨b2, off2, none⟩) m cap2)]) u)) := by
    intro G u hu
    refine (HQl.out u (HQt.out.kept hu.1)).mono ?_
    rintro e u' ⟨p, g, rfl, hpn, ho, kk⟩
    exact ⟨p, g, rfl, hu.next (alO_lasts _ _ _ _ _ _ _ _) kk hpn (ho.1.here (by omega)) ho⟩
  have mkt : Hid (∀ (pA gA pB gB : Nat) (G : Nat → Option (Nat × Nat)) (u : World), G 1 = some (pA, gA) → G 3 = some (pB, gB) → MK.Cm w4 (alO 1 n P 3 m Q 4 none) G u → MK.MkUpon Try.prog w4 (alO 1 n P 3 m Q 4 none) (valO 1 n 3 m 4 none) 4 G (.ok (.enter 27 #[outV pA 0 n gA n n, outV pB 0 m gB m m]) u)) := by
    intro pA gA pB gB G u e1 e3 hu
    have h1 : OutAt u pA 0 gA n P := (hu.2.1 1 _ e1).2.2
    have h3 : OutAt u pB 0 gB m Q := (hu.2.1 3 _ e3).2.2
    refine (HC.out pA gA pB gB u h1 h3).mono ?_
    intro e u' hT
    obtain ⟨gg, cc, rfl, hg1, hg2, hp, kk⟩ := hT.ans
    exact ⟨gg, cc, rfl, hu.next (alO_lasts _ _ _ _ _ _ _ _) kk hg1 hg2 hp⟩
  refine MK.reg_mk (alO 1 n P 3 m Q 4 none) 7 [0, 2, 1, 3, 4, 5, 6] [0, 2, 5, 6] [1, 3, 4] [6] (fun i => if i = 4 then [1, 3] else []) (val := valO 1 n 3 m 4 none) (by kernel_rfl) (by kernel_rfl) ?hpu ?_
  case hpu => intro p hp o ho; simp at hp; subst hp; cases ho; exact extract_pure rfl
  refine MK.can_class (rest := [1, 3, 4, 5, 6]) [0, 2] [] 49 (alO_lasts _ _ _ _ _ _ _ _) (MK.any_class _) (by kernel_rfl) rfl (by kernel_rfl) (by kernel_rfl) ?_
  apply Exists.intro
  refine ⟨?q1, ?q2⟩
  case q1 =>
    intro Ty hT fw hf _
    have a0 := Class.reads hf a0
    have a1 := Class.reads hf a1
    have a2 := Class.reads hf a2
    have a3 := Class.reads hf a3
    have a4 := Class.reads hf a4
    have a5 := Class.reads hf a5
    have a6 := Class.reads hf a6
    have a7 := Class.reads hf a7
    have a8 := Class.reads hf a8
    have a9 := Class.reads hf a9
    have a10 := Class.reads hf a10
    have c0 := Class.reads hf c0
    have c1 := Class.reads hf c1
    have c2 := Class.reads hf c2
    have c3 := Class.reads hf c3
    have c4 := Class.reads hf c4
    have c5 := Class.reads hf c5
    have c6 := Class.reads hf c6
    have c7 := Class.reads hf c7
    have c8 := Class.reads hf c8
    have c9 := Class.reads hf c9
    have c10 := Class.reads hf c10
    change wpQuiet _ _ _ _ [_, _] _
    repeat (go_big_quiet_step (fail))
    exact wpQuiet_nil rfl
  refine MK.can_mk 1 43 _ rfl rfl rfl rfl ?m1 fun pA gA => ?m2
  case m1 =>
    intro G' u _ hu
    rw [show (execOp _ _).run Try.prog u = .ok (.enter 25 #[bodyV 0 X Y 0 0 A 0 0 2 0 (.slice (some ⟨b, off, none⟩) n cap)]) u by kernel_rfl]
    exact mk1.out G' u hu
  rw [show valO 1 n 3 m 4 none 1 pA gA = outV pA 0 n gA n n from rfl]
  simp only [Act.put, List.setIfInBounds_toArray, List.set_cons_succ, List.set_cons_zero]
  refine MK.can_mk 3 45 _ rfl rfl rfl rfl ?m3 fun pB gB => ?m4
  case m3 =>
    intro G' u _ hu
    rw [show (execOp _ _).run Try.prog u = .ok (.enter 25 #[bodyV 0 X2 Y2 0 0 A2 0 0 2 0 (.slice (some ⟨b2, off2, none⟩) m cap2)]) u by kernel_rfl]
    exact mk3.out G' u hu
  rw [show valO 1 n 3 m 4 none 3 pB gB = outV pB 0 m gB m m from rfl]
  simp only [Act.put, List.setIfInBounds_toArray, List.set_cons_succ, List.set_cons_zero]
  refine MK.can_mk 4 46 _ rfl rfl rfl rfl ?m5 fun bb ce => ?m6
  case m5 =>
    intro G' u ha hu
    rw [show (execOp _ _).run Try.prog u = .ok (.enter 27 #[outV pA 0 n gA n n, outV pB 0 m gB m m]) u by kernel_rfl]
    have e1 : G' 1 = some (pA, gA) := (ha 1 (by simp)).trans (by unfold MK.upd; simp)
    have e3 : G' 3 = some (pB, gB) := (ha 3 (by simp)).trans (by unfold MK.upd; simp)
    exact mkt.out pA gA pB gB G' u e1 e3 hu
  clear mk1 mkt
  rw [show valO 1 n 3 m 4 none 4 bb ce = .tuple #[tchV 0 0 none 0 0, .bool false] from rfl]
  simp only [Act.put, List.setIfInBounds_toArray, List.set_cons_succ, List.set_cons_zero]
  refine MK.can_class (rest := []) [5, 6] [] 49 (alO_lasts _ _ _ _ _ _ _ _) (MK.any_class _) (by kernel_rfl) rfl (by kernel_rfl) (by kernel_rfl) ?_
  apply Exists.intro
  refine ⟨?q3, ?q4⟩
  case q3 =>
    intro Ty hT fw hf _
    change wpQuiet _ _ _ _ [_, _] _
    repeat (go_big_quiet_step (fail))
    exact wpQuiet_nil rfl
  intro w9 hu
  have qt : (MK.upd (MK.upd (MK.upd (fun _ => none) 1 (pA, gA)) 3 (pB, gB)) 4 (bb, ce)) 4 = some (bb, ce) := by unfold MK.upd; simp
  obtain ⟨lbb, lbb9, hans⟩ := hu.2.1 4 _ qt
  have k9 := hu.1
  have o0 := k9.reads o0
  have o1 := k9.reads o1
  have o2 := k9.reads o2
  have of_ : ∀ i, w9.frozen? ⟨w.heap.size + 1 + 1, i, none⟩ = false := fun i => (k9.2 _).trans (of_ i)
  have M9 : Hid (Made w.heap.size w w9) := M4.out.then_ (k9.low M4.out.1.size)
  have lo9 : w.heap.size + 1 + 1 < w9.heap.size := World.block_lt_of_cell? _ _ o0
  have lcw : w.heap.size ≤ w4.heap.size := M4.out.1.size
  have lob : w.heap.size + 1 + 1 < bb := by simp only [] at lbb; omega
  have bne : bb ≠ w.heap.size + 1 + 1 := by omega
  clear hans
  simp only [List.drop_succ_cons, List.drop_zero]
  clear k9 hu qt HA HB a0 a1 a2 a3 a4 a5 a6 a7 a8 a9 a10 c0 c1 c2 c3 c4 c5 c6 c7 c8 c9 c10
  go_wp2_with fail
  refine NoPanic.normal ?_
  go_wp2_with fail
  refine bodyPost_ret (v := .tuple #[tchV 0 0 none 0 0, .bool false]) (by simp [results, Try.results11, go_sem, o0, o1, o2]) rfl (touchq_none (by simp; omega) ?_)
  exact ((M9.out.put (by simp; try omega) _).put (by simp; try omega) _).put (by simp; try omega) _

set_option maxRecDepth 100000 in
set_option maxHeartbeats 4000000 in
theorem tof_pps (X Y A X2 Y2 A2 : Int) (b off n cap : Nat) (f P : Cs) (b2 off2 m cap2 : Nat) (f2 Q : Cs) (w : World) (iX : I64 X) (iY : I64 Y) (iA : I64 A) (iX2 : I64 X2) (iY2 : I64 Y2) (iA2 : I64 A2) (hn3 : 3 ≤ n) (h8 : n ≤ 8) (hp : Pts w b off n f) (hi : Cin f n) (hP : placeF f (cs (stepF A)) (sn (stepF A)) X Y = P) (hm3 : 3 ≤ m) (hm8 : m ≤ 8) (hq : Pts w b2 off2 m f2) (hi2 : Cin f2 m) (hQ : placeF f2 (cs (stepF A2)) (sn (stepF A2)) X2 Y2 = Q) (t : Tch) (et : polysF P n Q m = some t) :
    Calls Try.prog 11 #[bodyV 0 X Y 0 0 A 0 0 2 0 (.slice (some ⟨b, off, none⟩) n cap), bodyV 0 X2 Y2 0 0 A2 0 0 2 0 (.slice (some ⟨b2, off2, none⟩) m cap2)] w (TouchQ (some t) w) := by
  have HPt := hid hp
  have HPl := hid (fun w hp => tplace_is X Y A b off n cap f w iX iY iA hn3 h8 hp hi P hP)
  have IP : Hid (Cin P n) := fun i _ => by rw [← hP]; exact ⟨i64_add _ _, i64_add _ _⟩
  clear hp hi hP
  have HQt := hid hq
  have HQl := hid (fun w hp => tplace_is X2 Y2 A2 b2 off2 m cap2 f2 w iX2 iY2 iA2 hm3 hm8 hp hi2 Q hQ)
  have IQ : Hid (Cin Q m) := fun i _ => by rw [← hQ]; exact ⟨i64_add _ _, i64_add _ _⟩
  clear hq hi2 hQ
  obtain ⟨tx, ty, l⟩ := t
  have HC := hid (fun p g p2 g2 w ho ho2 => tpolygons_is p 0 n g n n p2 0 m g2 m m P Q w hn3 h8 hm3 hm8 ho ho2 IP.out IQ.out _ et)
  clear et
  go_enter Try.func11, Try.ntmps11
  go_upto_region 1 with fail
  obtain ⟨W0, eW⟩ : ∃ W, W = ((w.alloc (.cells #[.int .i64 0, .int .i64 X, .int .i64 Y, .int .i64 0, .int .i64 0, .int .i64 A, .int .i64 0, .int .i64 0, .int .i64 2, .int .i64 0, .slice (some ⟨b, off, none⟩) n cap] 34)).alloc (.cells #[.int .i64 0, .int .i64 X2, .int .i64 Y2, .int .i64 0, .int .i64 0, .int .i64 A2, .int .i64 0, .int .i64 0, .int .i64 2, .int .i64 0, .slice (some ⟨b2, off2, none⟩) m cap2] 34)).alloc (.cells #[.int .i64 0, .int .i64 0, .slice none 0 0] 38) := ⟨_, rfl⟩
  have M0 : Hid (Made w.heap.size w W0) := by unfold Hid; rw [eW]; exact (((Made.rfl_ _ _).cells (Nat.le_refl _) _ _).cells (by simp) _ _).cells (by simp; omega) _ _
  have HA : Has W0 (w.heap.size) 34 #[.int .i64 0, .int .i64 X, .int .i64 Y, .int .i64 0, .int .i64 0, .int .i64 A, .int .i64 0, .int .i64 0, .int .i64 2, .int .i64 0, .slice (some ⟨b, off, none⟩) n cap] := by rw [eW]; exact ((has_new _ _ _).more _).more _
  have HB : Has W0 (w.heap.size + 1) 34 #[.int .i64 0, .int .i64 X2, .int .i64 Y2, .int .i64 0, .int .i64 0, .int .i64 A2, .int .i64 0, .int .i64 0, .int .i64 2, .int .i64 0, .slice (some ⟨b2, off2, none⟩) m cap2] := by rw [eW]; exact (has_next _ _ _ _).more _
  obtain ⟨a0, a1, a2, a3, a4, a5, a6, a7, a8, a9, a10⟩ := HA.c11
  obtain ⟨c0, c1, c2, c3, c4, c5, c6, c7, c8, c9, c10⟩ := HB.c11
  have o0 : W0.cell? ⟨w.heap.size + 1 + 1, 0, none⟩ = some (.int .i64 0) := by rw [eW]; go_simp
  have o1 : W0.cell? ⟨w.heap.size + 1 + 1, 1, none⟩ = some (.int .i64 0) := by rw [eW]; go_simp
  have o2 : W0.cell? ⟨w.heap.size + 1 + 1, 2, none⟩ = some (.slice none 0 0) := by rw [eW]; go_simp
  have of_ : ∀ i, W0.frozen? ⟨w.heap.size + 1 + 1, i, none⟩ = false := fun i => by rw [eW]; go_simp
  rw [← eW]
  clear eW
  go_wp2_with fail
  refine (tround_is X Y A 2 (0) (.slice (some ⟨b, off, none⟩) n cap) false (by decide) _).mono ?_
  rintro e w1 ⟨rfl, k1⟩
  have HA := HA.stays k1 HA.here
  have HB := HB.stays k1 HB.here
  obtain ⟨a0, a1, a2, a3, a4, a5, a6, a7, a8, a9, a10⟩ := HA.c11
  obtain ⟨c0, c1, c2, c3, c4, c5, c6, c7, c8, c9, c10⟩ := HB.c11
  have o0 := k1.reads o0
  have o1 := k1.reads o1
  have o2 := k1.reads o2
  have of_ : ∀ i, w1.frozen? ⟨w.heap.size + 1 + 1, i, none⟩ = false := fun i => (k1.2 _).trans (of_ i)
  have M1 : Hid (Made w.heap.size w w1) := M0.out.then_ (k1.low M0.out.1.size)
  clear k1
  go_wp2_with fail
  refine (tround_is X2 Y2 A2 2 (0) (.slice (some ⟨b2, off2, none⟩) m cap2) false (by decide) _).mono ?_
  rintro e w3 ⟨rfl, k1⟩
  have HA := HA.stays k1 HA.here
  have HB := HB.stays k1 HB.here
  obtain ⟨a0, a1, a2, a3, a4, a5, a6, a7, a8, a9, a10⟩ := HA.c11
  obtain ⟨c0, c1, c2, c3, c4, c5, c6, c7, c8, c9, c10⟩ := HB.c11
  have o0 := k1.reads o0
  have o1 := k1.reads o1
  have o2 := k1.reads o2
  have of_ : ∀ i, w3.frozen? ⟨w.heap.size + 1 + 1, i, none⟩ = false := fun i => (k1.2 _).trans (of_ i)
  have M3 : Hid (Made w.heap.size w w3) := M1.out.then_ (k1.low M1.out.1.size)
  clear k1
  go_wp2_with fail
  refine (tround_is X Y A 2 (0) (.slice (some ⟨b, off, none⟩) n cap) false (by decide) _).mono ?_
  rintro e w4 ⟨rfl, k1⟩
  have HA := HA.stays k1 HA.here
  have HB := HB.stays k1 HB.here
  obtain ⟨a0, a1, a2, a3, a4, a5, a6, a7, a8, a9, a10⟩ := HA.c11
  obtain ⟨c0, c1, c2, c3, c4, c5, c6, c7, c8, c9, c10⟩ := HB.c11
  have o0 := k1.reads o0
  have o1 := k1.reads o1
  have o2 := k1.reads o2
  have of_ : ∀ i, w4.frozen? ⟨w.heap.size + 1 + 1, i, none⟩ = false := fun i => (k1.2 _).trans (of_ i)
  have M4 : Hid (Made w.heap.size w w4) := M3.out.then_ (k1.low M3.out.1.size)
  clear k1
  have HPt : Hid (Pts w4 b off n f) := HPt.out.kept M4.out
  have HQt : Hid (Pts w4 b2 off2 m f2) := HQt.out.kept M4.out
  have loc : w.heap.size + 1 + 1 < w4.heap.size := World.block_lt_of_cell? _ _ o0
  go_upto_region 8 with fail
  have mk1 : Hid (∀ (G : Nat → Option (Nat × Nat)) (u : World), MK.Cm w4 (alO 1 n P 3 m Q 4 (some ⟨tx, ty, l⟩)) G u → MK.MkUpon Try.prog w4 (alO 1 n P 3 m Q 4 (some ⟨tx, ty, l⟩)) (valO 1 n 3 m 4 (some ⟨tx, ty, l⟩)) 1 G (.ok (.enter 25 #[bodyV 0 X Y 0 0 A 0 0 2 0 (.slice (some ⟨b, off, none⟩) n cap)]) u)) := by
    intro G u hu
    refine (HPl.out u (HPt.out.kept hu.1)).mono ?_
    rintro e u' ⟨p, g, rfl, hpn, ho, kk⟩
    exact ⟨p, g, rfl, hu.next (alO_lasts _ _ _ _ _ _ _ _) kk hpn (ho.1.here (by omega)) ho⟩
  have mk3 : Hid (∀ (G : Nat → Option (Nat × Nat)) (u : World), MK.Cm w4 (alO 1 n P 3 m Q 4 (some ⟨tx, ty, l⟩)) G u → MK.MkUpon Try.prog w4 (alO 1 n P 3 m Q 4 (some ⟨tx, ty, l⟩)) (valO 1 n 3 m 4 (some ⟨tx, ty, l⟩)) 3 G (.ok (.enter 25 #[bodyV 0 X2 Y2 0 0 A2 0 0 2 0 (.slice (some ⟨b2, off2, none⟩) m cap2)]) u)) := by
    intro G u hu
    refine (HQl.out u (HQt.out.kept hu.1)).mono ?_
    rintro e u' ⟨p, g, rfl, hpn, ho, kk⟩
    exact ⟨p, g, rfl, hu.next (alO_lasts _ _ _ _ _ _ _ _) kk hpn (ho.1.here (by omega)) ho⟩
  have mkt : Hid (∀ (pA gA pB gB : Nat) (G : Nat → Option (Nat × Nat)) (u : World), G 1 = some (pA, gA) → G 3 = some (pB, gB) → MK.Cm w4 (alO 1 n P 3 m Q 4 (some ⟨tx, ty, l⟩)) G u → MK.MkUpon Try.prog w4 (alO 1 n P 3 m Q 4 (some ⟨tx, ty, l⟩)) (valO 1 n 3 m 4 (some ⟨tx, ty, l⟩)) 4 G (.ok (.enter 27 #[outV pA 0 n gA n n, outV pB 0 m gB m m]) u)) := by
    intro pA gA pB gB G u e1 e3 hu
    have h1 : OutAt u pA 0 gA n P := (hu.2.1 1 _ e1).2.2
    have h3 : OutAt u pB 0 gB m Q := (hu.2.1 3 _ e3).2.2
    refine (HC.out pA gA pB gB u h1 h3).mono ?_
    intro e u' hT
    obtain ⟨gg, cc, rfl, hg1, hg2, hp, kk⟩ := hT.ans
    exact ⟨gg, cc, rfl, hu.next (alO_lasts _ _ _ _ _ _ _ _) kk hg1 hg2 hp⟩
  refine MK.reg_mk (alO 1 n P 3 m Q 4 (some ⟨tx, ty, l⟩)) 7 [0, 2, 1, 3, 4, 5, 6] [0, 2, 5, 6] [1, 3, 4] [6] (fun i => if i = 4 then [1, 3] else []) (val := valO 1 n 3 m 4 (some ⟨tx, ty, l⟩)) (by kernel_rfl) (by kernel_rfl) ?hpu ?_
  case hpu => intro p hp o ho; simp at hp; subst hp; cases ho; exact extract_pure rfl
  refine MK.can_class (rest := [1, 3, 4, 5, 6]) [0, 2] [] 49 (alO_lasts _ _ _ _ _ _ _ _) (MK.any_class _) (by kernel_rfl) rfl (by kernel_rfl) (by kernel_rfl) ?_
  apply Exists.intro
  refine ⟨?q1, ?q2⟩
  case q1 =>
    intro Ty hT fw hf _
    have a0 := Class.reads hf a0
    have a1 := Class.reads hf a1
    have a2 := Class.reads hf a2
    have a3 := Class.reads hf a3
    have a4 := Class.reads hf a4
    have a5 := Class.reads hf a5
    have a6 := Class.reads hf a6
    have a7 := Class.reads hf a7
    have a8 := Class.reads hf a8
    have a9 := Class.reads hf a9
    have a10 := Class.reads hf a10
    have c0 := Class.reads hf c0
    have c1 := Class.reads hf c1
    have c2 := Class.reads hf c2
    have c3 := Class.reads hf c3
    have c4 := Class.reads hf c4
    have c5 := Class.reads hf c5
    have c6 := Class.reads hf c6
    have c7 := Class.reads hf c7
    have c8 := Class.reads hf c8
    have c9 := Class.reads hf c9
    have c10 := Class.reads hf c10
    change wpQuiet _ _ _ _ [_, _] _
    repeat (go_big_quiet_step (fail))
    exact wpQuiet_nil rfl
  refine MK.can_mk 1 43 _ rfl rfl rfl rfl ?m1 fun pA gA => ?m2
  case m1 =>
    intro G' u _ hu
    rw [show (execOp _ _).run Try.prog u = .ok (.enter 25 #[bodyV 0 X Y 0 0 A 0 0 2 0 (.slice (some ⟨b, off, none⟩) n cap)]) u by kernel_rfl]
    exact mk1.out G' u hu
  rw [show valO 1 n 3 m 4 (some ⟨tx, ty, l⟩) 1 pA gA = outV pA 0 n gA n n from rfl]
  simp only [Act.put, List.setIfInBounds_toArray, List.set_cons_succ, List.set_cons_zero]
  refine MK.can_mk 3 45 _ rfl rfl rfl rfl ?m3 fun pB gB => ?m4
  case m3 =>
    intro G' u _ hu
    rw [show (execOp _ _).run Try.prog u = .ok (.enter 25 #[bodyV 0 X2 Y2 0 0 A2 0 0 2 0 (.slice (some ⟨b2, off2, none⟩) m cap2)]) u by kernel_rfl]
    exact mk3.out G' u hu
  rw [show valO 1 n 3 m 4 (some ⟨tx, ty, l⟩) 3 pB gB = outV pB 0 m gB m m from rfl]
  simp only [Act.put, List.setIfInBounds_toArray, List.set_cons_succ, List.set_cons_zero]
  refine MK.can_mk 4 46 _ rfl rfl rfl rfl ?m5 fun bb ce => ?m6
  case m5 =>
    intro G' u ha hu
    rw [show (execOp _ _).run Try.prog u = .ok (.enter 27 #[outV pA 0 n gA n n, outV pB 0 m gB m m]) u by kernel_rfl]
    have e1 : G' 1 = some (pA, gA) := (ha 1 (by simp)).trans (by unfold MK.upd; simp)
    have e3 : G' 3 = some (pB, gB) := (ha 3 (by simp)).trans (by unfold MK.upd; simp)
    exact mkt.out pA gA pB gB G' u e1 e3 hu
  clear mk1 mkt
  rw [show valO 1 n 3 m 4 (some ⟨tx, ty, l⟩) 4 bb ce = .tuple #[tchV tx ty (some ⟨bb, 0, none⟩) l.length ce, .bool true] from rfl]
  simp only [Act.put, List.setIfInBounds_toArray, List.set_cons_succ, List.set_cons_zero]
  refine MK.can_class (rest := []) [5, 6] [] 49 (alO_lasts _ _ _ _ _ _ _ _) (MK.any_class _) (by kernel_rfl) rfl (by kernel_rfl) (by kernel_rfl) ?_
  apply Exists.intro
  refine ⟨?q3, ?q4⟩
  case q3 =>
    intro Ty hT fw hf _
    change wpQuiet _ _ _ _ [_, _] _
    repeat (go_big_quiet_step (fail))
    exact wpQuiet_nil rfl
  intro w9 hu
  have qt : (MK.upd (MK.upd (MK.upd (fun _ => none) 1 (pA, gA)) 3 (pB, gB)) 4 (bb, ce)) 4 = some (bb, ce) := by unfold MK.upd; simp
  obtain ⟨lbb, lbb9, hans⟩ := hu.2.1 4 _ qt
  have k9 := hu.1
  have o0 := k9.reads o0
  have o1 := k9.reads o1
  have o2 := k9.reads o2
  have of_ : ∀ i, w9.frozen? ⟨w.heap.size + 1 + 1, i, none⟩ = false := fun i => (k9.2 _).trans (of_ i)
  have M9 : Hid (Made w.heap.size w w9) := M4.out.then_ (k9.low M4.out.1.size)
  have lo9 : w.heap.size + 1 + 1 < w9.heap.size := World.block_lt_of_cell? _ _ o0
  have lcw : w.heap.size ≤ w4.heap.size := M4.out.1.size
  have lob : w.heap.size + 1 + 1 < bb := by simp only [] at lbb; omega
  have bne : bb ≠ w.heap.size + 1 + 1 := by omega
  have hans : 0 < l.length ∧ PtsT w9 (some ⟨bb, 0, none⟩) l := hans
  obtain ⟨hl, hpt⟩ := hans
  have HPp := hid hpt
  clear hpt
  simp only [List.drop_succ_cons, List.drop_zero]
  clear k9 hu qt HA HB a0 a1 a2 a3 a4 a5 a6 a7 a8 a9 a10 c0 c1 c2 c3 c4 c5 c6 c7 c8 c9 c10
  go_wp2_with fail
  refine NoPanic.normal ?_
  go_wp2_with fail
  refine bodyPost_ret (v := .tuple #[tchV tx ty (some ⟨bb, 0, none⟩) l.length ce, .bool true]) (by simp [results, Try.results11, go_sem, o0, o1, o2]) rfl ⟨bb, ce, by omega, rfl, hl, ?_, ?_⟩
  · exact HPp.out.putO bne _ _ _
  · exact ((M9.out.put (by simp; try omega) _).put (by simp; try omega) _).put (by simp; try omega) _

theorem i64_corner (N v u : Int × Int) (r key : Int) (hN : I64 N.1 ∧ I64 N.2) (t : Tch) (h : cornerF N v u r key = some t) : I64 t.nx ∧ I64 t.ny := by
  unfold cornerF at h
  split at h
  · cases h
  · cases h
    unfold oneT
    simp only []
    split
    · exact hN
    · exact i64_u u.1 u.2
theorem i64_mixed' (P : Cs) (n : Nat) (c : Int × Int) (r : Int) (t : Tch) (h : mixedF P n c r = some t) : I64 t.nx ∧ I64 t.ny := by
  unfold mixedF mixedI at h
  have hn := i64_norm P n (sideF P n (fun _ => c) 1)
  split at h
  · cases h
  · split at h
    · cases h; exact hn
    · split at h
      · exact i64_corner _ _ _ _ _ hn t h
      · split at h
        · exact i64_corner _ _ _ _ _ hn t h
        · cases h; exact hn
theorem tof_is (X Y A K R X2 Y2 A2 K2 R2 : Int) (s s2 : Value) (b b2 : Bdy) (w : World) (h : BodyAt w X Y A K R s b) (h2 : BodyAt w X2 Y2 A2 K2 R2 s2 b2) :
    Calls Try.prog 11 #[bodyV 0 X Y 0 0 A 0 0 K R s, bodyV 0 X2 Y2 0 0 A2 0 0 K2 R2 s2] w (TouchQ (wantF b b2) w) := by
  obtain ⟨iX, iY, iA, iR, h⟩ := h
  obtain ⟨iX2, iY2, iA2, iR2, h2⟩ := h2
  rcases h with ⟨rfl, rfl, rfl⟩ | ⟨rfl, rfl, g, off, n, cap, f, rfl, hn3, h8, hp, hi, rfl⟩
  · rcases h2 with ⟨rfl, rfl, rfl⟩ | ⟨rfl, rfl, g2, off2, m, cap2, f2, rfl, hm3, hm8, hq, hi2, rfl⟩
    · show Calls _ _ _ _ (TouchQ (roundsF (X, Y) R (X2, Y2) R2) w)
      cases hc : roundsF (X, Y) R (X2, Y2) R2 with
      | none => exact tof_ccn X Y A R X2 Y2 A2 R2 w iX iY iA iX2 iY2 iA2 iR iR2 hc
      | some t => exact tof_ccs X Y A R X2 Y2 A2 R2 w iX iY iA iX2 iY2 iA2 iR iR2 t hc
    · show Calls _ _ _ _ (TouchQ ((mixedF (placeF f2 (cs (stepF A2)) (sn (stepF A2)) X2 Y2) m (X, Y) R).map negT) w)
      cases hc : mixedF (placeF f2 (cs (stepF A2)) (sn (stepF A2)) X2 Y2) m (X, Y) R with
      | none => exact tof_cpn X Y A R X2 Y2 A2 g2 off2 m cap2 f2 _ w iX iY iA iX2 iY2 iA2 iR hm3 hm8 hq hi2 rfl hc
      | some t =>
        obtain ⟨j1, j2⟩ := i64_mixed' _ _ _ _ _ hc
        exact tof_cps X Y A R X2 Y2 A2 g2 off2 m cap2 f2 _ w iX iY iA iX2 iY2 iA2 iR hm3 hm8 hq hi2 rfl t hc j1 j2
  · rcases h2 with ⟨rfl, rfl, rfl⟩ | ⟨rfl, rfl, g2, off2, m, cap2, f2, rfl, hm3, hm8, hq, hi2, rfl⟩
    · show Calls _ _ _ _ (TouchQ (mixedF (placeF f (cs (stepF A)) (sn (stepF A)) X Y) n (X2, Y2) R2) w)
      cases hc : mixedF (placeF f (cs (stepF A)) (sn (stepF A)) X Y) n (X2, Y2) R2 with
      | none => exact tof_pcn X Y A X2 Y2 A2 R2 g off n cap f _ w iX iY iA iX2 iY2 iA2 iR2 hn3 h8 hp hi rfl hc
      | some t => exact tof_pcs X Y A X2 Y2 A2 R2 g off n cap f _ w iX iY iA iX2 iY2 iA2 iR2 hn3 h8 hp hi rfl t hc
    · show Calls _ _ _ _ (TouchQ (polysF (placeF f (cs (stepF A)) (sn (stepF A)) X Y) n (placeF f2 (cs (stepF A2)) (sn (stepF A2)) X2 Y2) m) w)
      cases hc : polysF (placeF f (cs (stepF A)) (sn (stepF A)) X Y) n (placeF f2 (cs (stepF A2)) (sn (stepF A2)) X2 Y2) m with
      | none => exact tof_ppn X Y A X2 Y2 A2 g off n cap f _ g2 off2 m cap2 f2 _ w iX iY iA iX2 iY2 iA2 hn3 h8 hp hi rfl hm3 hm8 hq hi2 rfl hc
      | some t => exact tof_pps X Y A X2 Y2 A2 g off n cap f _ g2 off2 m cap2 f2 _ w iX iY iA iX2 iY2 iA2 hn3 h8 hp hi rfl hm3 hm8 hq hi2 rfl t hc
end Go.Proofs.Ytmfkcdinfahjlaa.Fx
