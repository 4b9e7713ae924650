/- TouchMoved: the walk. -/
import Derived.Test.YtmfkcdinfahjlaaTuF
import Derived.Test.YtmfkcdinfahjlaaTuO
import Derived.Test.YtmfkcdinfahjlaaTuS
import Derived.Deep.DeepCutAuto
import Derived.Test.YtmfkcdinfahjlaaTuA
import Derived.Test.YtmfkcdinfahjlaaTouchY
namespace Go.Proofs.Ytmfkcdinfahjlaa.Fx
open Go.ChangeShapes Go.WideShapes Go.ChangeAt Go.RowKit
set_option linter.unusedVariables false

theorem veq_same (a b : Int) : ∀ w, (binOp .neq 26 (vecV a b) (vecV a b)).run Try.prog w = .ok (.bool false) w := fun w => by go_simp
set_option maxRecDepth 100000 in
set_option maxHeartbeats 16000000 in
theorem tmoved_walk (TS : TouchSays) (a b c d x y an a2 b2 c2 d2 x2 y2 an2 : Int) (z0 z1 : Int) (w : World) (ix : I64 x) (iy : I64 y) (ix2 : I64 x2) (iy2 : I64 y2) (iz0 : I64 z0) (iz1 : I64 z1) :
    Calls Try.prog 4 #[placeV a b c d x y an, placeV a2 b2 c2 d2 x2 y2 an2, vecV z0 z1] w fun e w' => e = .returned (.bool true) ∧ Made w.heap.size w w' := by
  have iM : I64 4294967296000 := by unfold I64; omega
  obtain ⟨bx, ebx⟩ : ∃ z, thou z0 = z := ⟨_, rfl⟩
  obtain ⟨b_y, eby⟩ : ∃ z, thou z1 = z := ⟨_, rfl⟩
  have hbx := thou_bd iz0
  have hby := thou_bd iz1
  rw [ebx] at hbx
  rw [eby] at hby
  obtain ⟨X, Y, A, K, R, ao, sn, ac, bd, bd1, hW1, ea1, ea2, hr1, hB1⟩ := place_is2 a b c d x y an ix iy bx b_y hbx hby
  obtain ⟨X2, Y2, A2, K2, R2, ao2, sn2, ac2, bd2, bd3, hW2, ea3, ea4, hr2, hB2⟩ := place_is2 a2 b2 c2 d2 x2 y2 an2 ix2 iy2 bx b_y hbx hby
  have HB1 := hid hB1; have HB2 := hid hB2; have HW1 := hid hW1; have HW2 := hid hW2
  have HFit := hid (tfit_is TS)
  have EBX : Hid (bringF z0 (negF 4294967296000) 4294967296000 = bx) := ebx
  have EBY : Hid (bringF z1 (negF 4294967296000) 4294967296000 = b_y) := eby
  have EA1 := hid ea1; have EA2 := hid ea2; have EA3 := hid ea3; have EA4 := hid ea4
  have hM := moved_want hbx hby hr1 hr2
  obtain ⟨iX, iY, _, _⟩ := hW1.i64
  obtain ⟨iX2, iY2, _, _⟩ := hW2.i64
  have ibx : I64 bx := by unfold I64; omega
  have iby : I64 b_y := by unfold I64; omega
  clear hB1 hB2 hW1 hW2 ebx eby ea1 ea2 ea3 ea4 hr1 hr2
  obtain ⟨t, et⟩ : ∃ t, wantF bd bd2 = t := ⟨_, rfl⟩
  obtain ⟨nx, enx⟩ : ∃ z, (t.getD noTch).nx = z := ⟨_, rfl⟩
  obtain ⟨ny, eny⟩ : ∃ z, (t.getD noTch).ny = z := ⟨_, rfl⟩
  obtain ⟨l, el⟩ : ∃ z, (t.getD noTch).pts = z := ⟨_, rfl⟩
  obtain ⟨ok, eok⟩ : ∃ z, t.isSome = z := ⟨_, rfl⟩
  have hl2 : l.length ≤ 2 := by rw [← el, ← et]; exact pts_two _ _
  have HOf : Hid (OfF X Y A K R X2 Y2 A2 K2 R2 bd bd2 nx ny l ok) := of_fresh et enx eny el eok
  obtain ⟨u, eu⟩ : ∃ t, wantF bd1 bd3 = t := ⟨_, rfl⟩
  obtain ⟨mx, emx⟩ : ∃ z, (u.getD noTch).nx = z := ⟨_, rfl⟩
  obtain ⟨my, emy⟩ : ∃ z, (u.getD noTch).ny = z := ⟨_, rfl⟩
  obtain ⟨l2, el2⟩ : ∃ z, (u.getD noTch).pts = z := ⟨_, rfl⟩
  obtain ⟨is, eis⟩ : ∃ z, u.isSome = z := ⟨_, rfl⟩
  have HOg : Hid (OfF (X + bx) (Y + b_y) A K R (X2 + bx) (Y2 + b_y) A2 K2 R2 bd1 bd3 mx my l2 is) := of_fresh eu emx emy el2 eis
  unfold MovedT at hM
  rw [et, eu, eis, eok, emx, emy, enx, eny, el2, el] at hM
  obtain ⟨h1, h2, h3, h4, h5⟩ := hM
  subst h1; subst h2; subst h3
  have H4 := hid h4
  have H5 := hid h5
  clear et enx eny el eok eu emx emy el2 eis TS h4 h5
  go_enter Try.func4, Try.ntmps4
  go_wp2_with fail
  refine (HFit.out _).mono ?_
  rintro e w1 ⟨rfl, k1⟩
  have p0 := k1.reads (p := ⟨w.heap.size, 0, none⟩) (x := .int .i64 a) (by go_simp)
  have p1 := k1.reads (p := ⟨w.heap.size, 1, none⟩) (x := .int .i64 b) (by go_simp)
  have p2 := k1.reads (p := ⟨w.heap.size, 2, none⟩) (x := .int .i64 c) (by go_simp)
  have p3 := k1.reads (p := ⟨w.heap.size, 3, none⟩) (x := .int .i64 d) (by go_simp)
  have p4 := k1.reads (p := ⟨w.heap.size, 4, none⟩) (x := .int .i64 x) (by go_simp)
  have p5 := k1.reads (p := ⟨w.heap.size, 5, none⟩) (x := .int .i64 y) (by go_simp)
  have p6 := k1.reads (p := ⟨w.heap.size, 6, none⟩) (x := .int .i64 an) (by go_simp)
  have q0 := k1.reads (p := ⟨w.heap.size + 1, 0, none⟩) (x := .int .i64 a2) (by go_simp)
  have q1 := k1.reads (p := ⟨w.heap.size + 1, 1, none⟩) (x := .int .i64 b2) (by go_simp)
  have q2 := k1.reads (p := ⟨w.heap.size + 1, 2, none⟩) (x := .int .i64 c2) (by go_simp)
  have q3 := k1.reads (p := ⟨w.heap.size + 1, 3, none⟩) (x := .int .i64 d2) (by go_simp)
  have q4 := k1.reads (p := ⟨w.heap.size + 1, 4, none⟩) (x := .int .i64 x2) (by go_simp)
  have q5 := k1.reads (p := ⟨w.heap.size + 1, 5, none⟩) (x := .int .i64 y2) (by go_simp)
  have q6 := k1.reads (p := ⟨w.heap.size + 1, 6, none⟩) (x := .int .i64 an2) (by go_simp)
  have v0 := k1.reads (p := ⟨w.heap.size + 1 + 1, 0, none⟩) (x := .int .i64 z0) (by go_simp)
  have v1 := k1.reads (p := ⟨w.heap.size + 1 + 1, 1, none⟩) (x := .int .i64 z1) (by go_simp)
  have M1 : Hid (Made w.heap.size w w1) := (made_box (made_box (made_box k1)))
  have lbx : w.heap.size + 1 + 1 < w1.heap.size := World.block_lt_of_cell? _ _ v0
  have bf2 : ∀ i, w1.frozen? ⟨w.heap.size + 1 + 1, i, none⟩ = false := fun i => (k1.2 _).trans (by go_simp)
  clear k1 HFit
  go_upto_region 3 with fail
  have mk1 : Hid (∀ (G : Nat → Option (Nat × Nat)) (u : World), MK.Cm w1 (alB (fun v g e => BodyAt v X Y A K R (.slice (ao g) sn (ac e)) bd ∧ BodyAt v (X + bx) (Y + b_y) A K R (.slice (ao g) sn (ac e)) bd1) (fun v g e => BodyAt v X2 Y2 A2 K2 R2 (.slice (ao2 g) sn2 (ac2 e)) bd2 ∧ BodyAt v (X2 + bx) (Y2 + b_y) A2 K2 R2 (.slice (ao2 g) sn2 (ac2 e)) bd3)) G u → MK.MkUpon Try.prog w1 (alB (fun v g e => BodyAt v X Y A K R (.slice (ao g) sn (ac e)) bd ∧ BodyAt v (X + bx) (Y + b_y) A K R (.slice (ao g) sn (ac e)) bd1) (fun v g e => BodyAt v X2 Y2 A2 K2 R2 (.slice (ao2 g) sn2 (ac2 e)) bd2 ∧ BodyAt v (X2 + bx) (Y2 + b_y) A2 K2 R2 (.slice (ao2 g) sn2 (ac2 e)) bd3)) (valB (fun g e => bodyV 0 X Y 0 0 A 0 0 K R (.slice (ao g) sn (ac e))) (fun g e => bodyV 0 X2 Y2 0 0 A2 0 0 K2 R2 (.slice (ao2 g) sn2 (ac2 e)))) 1 G (.ok (.enter 10 #[placeV a b c d x y an]) u)) := by
    intro G u hu
    refine (HB1.out u).mono ?_
    rintro e u' ⟨p, e', rfl, hp1, hp2, ho, kk⟩
    exact ⟨p, e', rfl, hu.next (alB_lasts (fun _ _ _ _ h k => ⟨h.1.kept k, h.2.kept k⟩) (fun _ _ _ _ h k => ⟨h.1.kept k, h.2.kept k⟩)) kk hp1 hp2 ho⟩
  have mk3 : Hid (∀ (G : Nat → Option (Nat × Nat)) (u : World), MK.Cm w1 (alB (fun v g e => BodyAt v X Y A K R (.slice (ao g) sn (ac e)) bd ∧ BodyAt v (X + bx) (Y + b_y) A K R (.slice (ao g) sn (ac e)) bd1) (fun v g e => BodyAt v X2 Y2 A2 K2 R2 (.slice (ao2 g) sn2 (ac2 e)) bd2 ∧ BodyAt v (X2 + bx) (Y2 + b_y) A2 K2 R2 (.slice (ao2 g) sn2 (ac2 e)) bd3)) G u → MK.MkUpon Try.prog w1 (alB (fun v g e => BodyAt v X Y A K R (.slice (ao g) sn (ac e)) bd ∧ BodyAt v (X + bx) (Y + b_y) A K R (.slice (ao g) sn (ac e)) bd1) (fun v g e => BodyAt v X2 Y2 A2 K2 R2 (.slice (ao2 g) sn2 (ac2 e)) bd2 ∧ BodyAt v (X2 + bx) (Y2 + b_y) A2 K2 R2 (.slice (ao2 g) sn2 (ac2 e)) bd3)) (valB (fun g e => bodyV 0 X Y 0 0 A 0 0 K R (.slice (ao g) sn (ac e))) (fun g e => bodyV 0 X2 Y2 0 0 A2 0 0 K2 R2 (.slice (ao2 g) sn2 (ac2 e)))) 3 G (.ok (.enter 10 #[placeV a2 b2 c2 d2 x2 y2 an2]) u)) := by
    intro G u hu
    refine (HB2.out u).mono ?_
    rintro e u' ⟨p, e', rfl, hp1, hp2, ho, kk⟩
    exact ⟨p, e', rfl, hu.next (alB_lasts (fun _ _ _ _ h k => ⟨h.1.kept k, h.2.kept k⟩) (fun _ _ _ _ h k => ⟨h.1.kept k, h.2.kept k⟩)) kk hp1 hp2 ho⟩
  refine MK.reg_mk (alB (fun v g e => BodyAt v X Y A K R (.slice (ao g) sn (ac e)) bd ∧ BodyAt v (X + bx) (Y + b_y) A K R (.slice (ao g) sn (ac e)) bd1) (fun v g e => BodyAt v X2 Y2 A2 K2 R2 (.slice (ao2 g) sn2 (ac2 e)) bd2 ∧ BodyAt v (X2 + bx) (Y2 + b_y) A2 K2 R2 (.slice (ao2 g) sn2 (ac2 e)) bd3)) 6 [0, 2, 1, 3, 4, 5] [0, 2] [1, 3, 4, 5] [] (fun _ => []) (val := (valB (fun g e => bodyV 0 X Y 0 0 A 0 0 K R (.slice (ao g) sn (ac e))) (fun g e => bodyV 0 X2 Y2 0 0 A2 0 0 K2 R2 (.slice (ao2 g) sn2 (ac2 e))))) (by kernel_rfl) (by kernel_rfl) (fun p hp => absurd hp (by simp)) ?_
  refine MK.can_class (rest := [1, 3, 4, 5]) [0, 2] [] 100 (alB_lasts (fun _ _ _ _ h k => ⟨h.1.kept k, h.2.kept k⟩) (fun _ _ _ _ h k => ⟨h.1.kept k, h.2.kept k⟩)) (MK.any_class _) (by kernel_rfl) rfl (by kernel_rfl) (by kernel_rfl) ?_
  apply Exists.intro
  refine ⟨?q1, ?q2⟩
  case q1 =>
    intro Ty hT fw hf _
    have p0 := Class.reads hf p0
    have p1 := Class.reads hf p1
    have p2 := Class.reads hf p2
    have p3 := Class.reads hf p3
    have p4 := Class.reads hf p4
    have p5 := Class.reads hf p5
    have p6 := Class.reads hf p6
    have q0 := Class.reads hf q0
    have q1 := Class.reads hf q1
    have q2 := Class.reads hf q2
    have q3 := Class.reads hf q3
    have q4 := Class.reads hf q4
    have q5 := Class.reads hf q5
    have q6 := Class.reads hf q6
    change wpQuiet _ _ _ _ [_, _] _
    repeat (go_big_quiet_step (fail))
    exact wpQuiet_nil rfl
  refine MK.can_mk 1 19 _ rfl rfl rfl rfl ?m1 fun pA eA => ?m2
  case m1 =>
    intro G' u _ hu
    rw [show (execOp _ _).run Try.prog u = .ok (.enter 10 #[placeV a b c d x y an]) u by kernel_rfl]
    exact mk1.out G' u hu
  rw [show (valB (fun g e => bodyV 0 X Y 0 0 A 0 0 K R (.slice (ao g) sn (ac e))) (fun g e => bodyV 0 X2 Y2 0 0 A2 0 0 K2 R2 (.slice (ao2 g) sn2 (ac2 e)))) 1 pA eA = bodyV 0 X Y 0 0 A 0 0 K R (.slice (ao pA) sn (ac eA)) from rfl]
  simp only [Act.put, List.setIfInBounds_toArray, List.set_cons_succ, List.set_cons_zero]
  refine MK.can_mk 3 21 _ rfl rfl rfl rfl ?m3 fun pB eB => ?m4
  case m3 =>
    intro G' u _ hu
    rw [show (execOp _ _).run Try.prog u = .ok (.enter 10 #[placeV a2 b2 c2 d2 x2 y2 an2]) u by kernel_rfl]
    exact mk3.out G' u hu
  rw [show (valB (fun g e => bodyV 0 X Y 0 0 A 0 0 K R (.slice (ao g) sn (ac e))) (fun g e => bodyV 0 X2 Y2 0 0 A2 0 0 K2 R2 (.slice (ao2 g) sn2 (ac2 e)))) 3 pB eB = bodyV 0 X2 Y2 0 0 A2 0 0 K2 R2 (.slice (ao2 pB) sn2 (ac2 eB)) from rfl]
  simp only [Act.put, List.setIfInBounds_toArray, List.set_cons_succ, List.set_cons_zero]
  refine MK.can_mk 4 7 _ rfl rfl rfl rfl ?m5 fun gA hA => ?m6
  case m5 =>
    intro G' u _ hu
    rw [show (execOp _ _).run Try.prog u = .ok (.value (.pointer (some ⟨u.heap.size, 0, none⟩))) (u.alloc (.cells #[.int .i64 0, .int .i64 0, .int .i64 0, .int .i64 0, .int .i64 0, .int .i64 0, .int .i64 0, .int .i64 0, .int .i64 0, .int .i64 0, .slice none 0 0] 34)) by kernel_rfl]
    exact ⟨u.heap.size, 0, rfl, hu.next (alB_lasts (fun _ _ _ _ h k => ⟨h.1.kept k, h.2.kept k⟩) (fun _ _ _ _ h k => ⟨h.1.kept k, h.2.kept k⟩)) ((Made.rfl_ _ _).cells (Nat.le_refl _) _ _) (Nat.le_refl _) (by simp) (has_new _ _ _)⟩
  rw [show (valB (fun g e => bodyV 0 X Y 0 0 A 0 0 K R (.slice (ao g) sn (ac e))) (fun g e => bodyV 0 X2 Y2 0 0 A2 0 0 K2 R2 (.slice (ao2 g) sn2 (ac2 e)))) 4 gA hA = .pointer (some ⟨gA, 0, none⟩) from rfl]
  simp only [Act.put, List.setIfInBounds_toArray, List.set_cons_succ, List.set_cons_zero]
  refine MK.can_mk 5 8 _ rfl rfl rfl rfl ?m7 fun gB hB => ?m8
  case m7 =>
    intro G' u _ hu
    rw [show (execOp _ _).run Try.prog u = .ok (.value (.pointer (some ⟨u.heap.size, 0, none⟩))) (u.alloc (.cells #[.int .i64 0, .int .i64 0, .int .i64 0, .int .i64 0, .int .i64 0, .int .i64 0, .int .i64 0, .int .i64 0, .int .i64 0, .int .i64 0, .slice none 0 0] 34)) by kernel_rfl]
    exact ⟨u.heap.size, 0, rfl, hu.next (alB_lasts (fun _ _ _ _ h k => ⟨h.1.kept k, h.2.kept k⟩) (fun _ _ _ _ h k => ⟨h.1.kept k, h.2.kept k⟩)) ((Made.rfl_ _ _).cells (Nat.le_refl _) _ _) (Nat.le_refl _) (by simp) (has_new _ _ _)⟩
  rw [show (valB (fun g e => bodyV 0 X Y 0 0 A 0 0 K R (.slice (ao g) sn (ac e))) (fun g e => bodyV 0 X2 Y2 0 0 A2 0 0 K2 R2 (.slice (ao2 g) sn2 (ac2 e)))) 5 gB hB = .pointer (some ⟨gB, 0, none⟩) from rfl]
  intro w9 hu
  have u1 : (MK.upd (MK.upd (MK.upd (MK.upd (fun _ => none) 1 (pA, eA)) 3 (pB, eB)) 4 (gA, hA)) 5 (gB, hB)) 1 = some (pA, eA) := by unfold MK.upd; simp
  have u3 : (MK.upd (MK.upd (MK.upd (MK.upd (fun _ => none) 1 (pA, eA)) 3 (pB, eB)) 4 (gA, hA)) 5 (gB, hB)) 3 = some (pB, eB) := by unfold MK.upd; simp
  have u4 : (MK.upd (MK.upd (MK.upd (MK.upd (fun _ => none) 1 (pA, eA)) 3 (pB, eB)) 4 (gA, hA)) 5 (gB, hB)) 4 = some (gA, hA) := by unfold MK.upd; simp
  have u5 : (MK.upd (MK.upd (MK.upd (MK.upd (fun _ => none) 1 (pA, eA)) 3 (pB, eB)) 4 (gA, hA)) 5 (gB, hB)) 5 = some (gB, hB) := by unfold MK.upd; simp
  obtain ⟨l1, m1, b1⟩ := hu.2.1 1 _ u1
  obtain ⟨l3, m3, b3⟩ := hu.2.1 3 _ u3
  obtain ⟨l4, m4, b4⟩ := hu.2.1 4 _ u4
  obtain ⟨l5, m5, b5⟩ := hu.2.1 5 _ u5
  obtain ⟨b1, b1'⟩ : BodyAt w9 X Y A K R (.slice (ao pA) sn (ac eA)) bd ∧ BodyAt w9 (X + bx) (Y + b_y) A K R (.slice (ao pA) sn (ac eA)) bd1 := b1
  obtain ⟨b3, b3'⟩ : BodyAt w9 X2 Y2 A2 K2 R2 (.slice (ao2 pB) sn2 (ac2 eB)) bd2 ∧ BodyAt w9 (X2 + bx) (Y2 + b_y) A2 K2 R2 (.slice (ao2 pB) sn2 (ac2 eB)) bd3 := b3
  have zA : Has w9 gA 34 #[.int .i64 0, .int .i64 0, .int .i64 0, .int .i64 0, .int .i64 0, .int .i64 0, .int .i64 0, .int .i64 0, .int .i64 0, .int .i64 0, .slice none 0 0] := b4
  have zB : Has w9 gB 34 #[.int .i64 0, .int .i64 0, .int .i64 0, .int .i64 0, .int .i64 0, .int .i64 0, .int .i64 0, .int .i64 0, .int .i64 0, .int .i64 0, .slice none 0 0] := b5
  have n14 : pA ≠ gA := fun e => by have := hu.2.2 1 4 _ _ u1 u4 e; omega
  have n15 : pA ≠ gB := fun e => by have := hu.2.2 1 5 _ _ u1 u5 e; omega
  have n34 : pB ≠ gA := fun e => by have := hu.2.2 3 4 _ _ u3 u4 e; omega
  have n35 : pB ≠ gB := fun e => by have := hu.2.2 3 5 _ _ u3 u5 e; omega
  have n45 : gA ≠ gB := fun e => by have := hu.2.2 4 5 _ _ u4 u5 e; omega
  have k9 := hu.1
  simp only [] at l1 l3 l4 l5
  have lw1 : w.heap.size ≤ w1.heap.size := M1.out.1.size
  have lwA : w.heap.size ≤ gA := by omega
  have lwB : w.heap.size ≤ gB := by omega
  have v0 := k9.reads v0
  have v1 := k9.reads v1
  have bf2 : ∀ i, w9.frozen? ⟨w.heap.size + 1 + 1, i, none⟩ = false := fun i => (k9.2 _).trans (bf2 i)
  have M9 : Hid (Made w.heap.size w w9) := M1.out.then_ (k9.low M1.out.1.size)
  clear k9 mk1 mk3 hu u1 u3 u4 u5 b4 b5 p0 p1 p2 p3 p4 p5 p6 q0 q1 q2 q3 q4 q5 q6 M1
  have za0 := zA.at_ 0
  have za1 := zA.at_ 1
  have za2 := zA.at_ 2
  have za3 := zA.at_ 3
  have za4 := zA.at_ 4
  have za5 := zA.at_ 5
  have za6 := zA.at_ 6
  have za7 := zA.at_ 7
  have za8 := zA.at_ 8
  have za9 := zA.at_ 9
  have za10 := zA.at_ 10
  have zb0 := zB.at_ 0
  have zb1 := zB.at_ 1
  have zb2 := zB.at_ 2
  have zb3 := zB.at_ 3
  have zb4 := zB.at_ 4
  have zb5 := zB.at_ 5
  have zb6 := zB.at_ 6
  have zb7 := zB.at_ 7
  have zb8 := zB.at_ 8
  have zb9 := zB.at_ 9
  have zb10 := zB.at_ 10
  simp at za0 zb0 za1 zb1 za2 zb2 za3 zb3 za4 zb4 za5 zb5 za6 zb6 za7 zb7 za8 zb8 za9 zb9 za10 zb10
  have zfA : ∀ i, w9.frozen? ⟨gA, i, none⟩ = false := fun i => zA.free i
  have zfB : ∀ i, w9.frozen? ⟨gB, i, none⟩ = false := fun i => zB.free i
  have n54 : gB ≠ gA := fun e => n45 e.symm
  simp only [List.drop_succ_cons, List.drop_zero]
  go_upto_region 4 with fail
  obtain ⟨We, eW⟩ : ∃ W, W = ((((((((((((((((((((((w9.setCell ⟨gA, 0, none⟩ (.int .i64 0)).setCell ⟨gA, 1, none⟩ (.int .i64 X)).setCell ⟨gA, 2, none⟩ (.int .i64 Y)).setCell ⟨gA, 3, none⟩ (.int .i64 0)).setCell ⟨gA, 4, none⟩ (.int .i64 0)).setCell ⟨gA, 5, none⟩ (.int .i64 A)).setCell ⟨gA, 6, none⟩ (.int .i64 0)).setCell ⟨gA, 7, none⟩ (.int .i64 0)).setCell ⟨gA, 8, none⟩ (.int .i64 K)).setCell ⟨gA, 9, none⟩ (.int .i64 R)).setCell ⟨gA, 10, none⟩ (.slice (ao pA) sn (ac eA))).setCell ⟨gB, 0, none⟩ (.int .i64 0)).setCell ⟨gB, 1, none⟩ (.int .i64 X2)).setCell ⟨gB, 2, none⟩ (.int .i64 Y2)).setCell ⟨gB, 3, none⟩ (.int .i64 0)).setCell ⟨gB, 4, none⟩ (.int .i64 0)).setCell ⟨gB, 5, none⟩ (.int .i64 A2)).setCell ⟨gB, 6, none⟩ (.int .i64 0)).setCell ⟨gB, 7, none⟩ (.int .i64 0)).setCell ⟨gB, 8, none⟩ (.int .i64 K2)).setCell ⟨gB, 9, none⟩ (.int .i64 R2)).setCell ⟨gB, 10, none⟩ (.slice (ao2 pB) sn2 (ac2 eB))) := ⟨_, rfl⟩
  have HA : Has We gA 34 #[.int .i64 0, .int .i64 X, .int .i64 Y, .int .i64 0, .int .i64 0, .int .i64 A, .int .i64 0, .int .i64 0, .int .i64 K, .int .i64 R, .slice (ao pA) sn (ac eA)] := by rw [eW]; exact has_put11 (zA.put11 _ _ _ _ _ _ _ _ _ _ _) n45 _ _ _ _ _ _ _ _ _ _ _
  have HB : Has We gB 34 #[.int .i64 0, .int .i64 X2, .int .i64 Y2, .int .i64 0, .int .i64 0, .int .i64 A2, .int .i64 0, .int .i64 0, .int .i64 K2, .int .i64 R2, .slice (ao2 pB) sn2 (ac2 eB)] := by rw [eW]; exact (has_put11 zB n54 _ _ _ _ _ _ _ _ _ _ _).put11 _ _ _ _ _ _ _ _ _ _ _
  have Me : Hid (Made w.heap.size w We) := by unfold Hid; rw [eW]; exact (M9.out.put11 lwA _ _ _ _ _ _ _ _ _ _ _).put11 lwB _ _ _ _ _ _ _ _ _ _ _
  have HBa : Hid (BodyAt We X Y A K R (.slice (ao pA) sn (ac eA)) bd) := b1.away (HW1.out.ao_ pA) (fun i => by rw [eW, cell_put11 _ _ _ _ n15, cell_put11 _ _ _ _ n14])
  have HBb : Hid (BodyAt We X2 Y2 A2 K2 R2 (.slice (ao2 pB) sn2 (ac2 eB)) bd2) := b3.away (HW2.out.ao_ pB) (fun i => by rw [eW, cell_put11 _ _ _ _ n35, cell_put11 _ _ _ _ n34])
  have v0 : We.cell? ⟨w.heap.size + 1 + 1, 0, none⟩ = some (.int .i64 z0) := by rw [eW, cell_put11 _ _ _ _ (by omega), cell_put11 _ _ _ _ (by omega)]; exact v0
  have v1 : We.cell? ⟨w.heap.size + 1 + 1, 1, none⟩ = some (.int .i64 z1) := by rw [eW, cell_put11 _ _ _ _ (by omega), cell_put11 _ _ _ _ (by omega)]; exact v1
  have bf2 : ∀ i, We.frozen? ⟨w.heap.size + 1 + 1, i, none⟩ = false := fun i => by rw [eW]; simpa using bf2 i
  have HBa2 : Hid (BodyAt We (X + bx) (Y + b_y) A K R (.slice (ao pA) sn (ac eA)) bd1) := b1'.away (HW1.out.ao_ pA) (fun i => by rw [eW, cell_put11 _ _ _ _ n15, cell_put11 _ _ _ _ n14])
  have HBb2 : Hid (BodyAt We (X2 + bx) (Y2 + b_y) A2 K2 R2 (.slice (ao2 pB) sn2 (ac2 eB)) bd3) := b3'.away (HW2.out.ao_ pB) (fun i => by rw [eW, cell_put11 _ _ _ _ n35, cell_put11 _ _ _ _ n34])
  rw [← eW]
  clear eW zA zB za0 zb0 za1 zb1 za2 zb2 za3 zb3 za4 zb4 za5 zb5 za6 zb6 za7 zb7 za8 zb8 za9 zb9 za10 zb10 zfA zfB b1 b3 b1' b3' M9
  refine NoPanic.normal ?_
  have c0 := HA.at_ 0
  have c1 := HA.at_ 1
  have c2 := HA.at_ 2
  have c3 := HA.at_ 3
  have c4 := HA.at_ 4
  have c5 := HA.at_ 5
  have c6 := HA.at_ 6
  have c7 := HA.at_ 7
  have c8 := HA.at_ 8
  have c9 := HA.at_ 9
  have c10 := HA.at_ 10
  have d0 := HB.at_ 0
  have d1 := HB.at_ 1
  have d2 := HB.at_ 2
  have d3 := HB.at_ 3
  have d4 := HB.at_ 4
  have d5 := HB.at_ 5
  have d6 := HB.at_ 6
  have d7 := HB.at_ 7
  have d8 := HB.at_ 8
  have d9 := HB.at_ 9
  have d10 := HB.at_ 10
  simp at c0 d0 c1 d1 c2 d2 c3 d3 c4 d4 c5 d5 c6 d6 c7 d7 c8 d8 c9 d9 c10 d10
  have lgA := HA.here
  have lgB := HB.here
  have HHA := hid HA; have HHB := hid HB
  clear HA HB
  go_wp2_with fail
  refine (vbring_is _ _ _ _ _ _ iz0 iz1 iM EBX.out EBY.out).mono ?_
  rintro e w4 ⟨rfl, kf⟩
  have c0 := kf.reads (c0)
  have c1 := kf.reads (c1)
  have c2 := kf.reads (c2)
  have c3 := kf.reads (c3)
  have c4 := kf.reads (c4)
  have c5 := kf.reads (c5)
  have c6 := kf.reads (c6)
  have c7 := kf.reads (c7)
  have c8 := kf.reads (c8)
  have c9 := kf.reads (c9)
  have c10 := kf.reads (c10)
  have d0 := kf.reads (d0)
  have d1 := kf.reads (d1)
  have d2 := kf.reads (d2)
  have d3 := kf.reads (d3)
  have d4 := kf.reads (d4)
  have d5 := kf.reads (d5)
  have d6 := kf.reads (d6)
  have d7 := kf.reads (d7)
  have d8 := kf.reads (d8)
  have d9 := kf.reads (d9)
  have d10 := kf.reads (d10)
  have v0 := kf.reads (v0)
  have v1 := kf.reads (v1)
  have bf2 : ∀ i, w4.frozen? ⟨w.heap.size + 1 + 1, i, none⟩ = false := fun i => (kf.2 _).trans (bf2 i)
  have HBa : Hid (BodyAt w4 X Y A K R (.slice (ao pA) sn (ac eA)) bd) := HBa.out.kept kf
  have HBb : Hid (BodyAt w4 X2 Y2 A2 K2 R2 (.slice (ao2 pB) sn2 (ac2 eB)) bd2) := HBb.out.kept kf
  have HBa2 : Hid (BodyAt w4 (X + bx) (Y + b_y) A K R (.slice (ao pA) sn (ac eA)) bd1) := HBa2.out.kept kf
  have HBb2 : Hid (BodyAt w4 (X2 + bx) (Y2 + b_y) A2 K2 R2 (.slice (ao2 pB) sn2 (ac2 eB)) bd3) := HBb2.out.kept kf
  have M4 : Hid (Made w.heap.size w w4) := Me.out.then_ (kf.low Me.out.1.size)
  have HHA : Hid (Has w4 gA 34 #[.int .i64 0, .int .i64 X, .int .i64 Y, .int .i64 0, .int .i64 0, .int .i64 A, .int .i64 0, .int .i64 0, .int .i64 K, .int .i64 R, .slice (ao pA) sn (ac eA)]) := HHA.out.stays kf HHA.out.here
  have HHB : Hid (Has w4 gB 34 #[.int .i64 0, .int .i64 X2, .int .i64 Y2, .int .i64 0, .int .i64 0, .int .i64 A2, .int .i64 0, .int .i64 0, .int .i64 K2, .int .i64 R2, .slice (ao2 pB) sn2 (ac2 eB)]) := HHB.out.stays kf HHB.out.here
  clear kf
  have lbx4 : w.heap.size + 1 + 1 < w4.heap.size := World.block_lt_of_cell? _ _ v0
  go_upto_region 5 with fail
  obtain ⟨W5, eW⟩ : ∃ W, W = (w4.setCell ⟨w.heap.size + 1 + 1, 0, none⟩ (.int .i64 bx)).setCell ⟨w.heap.size + 1 + 1, 1, none⟩ (.int .i64 b_y) := ⟨_, rfl⟩
  have v0 : W5.cell? ⟨w.heap.size + 1 + 1, 0, none⟩ = some (.int .i64 bx) := by rw [eW]; go_simp
  have v1 : W5.cell? ⟨w.heap.size + 1 + 1, 1, none⟩ = some (.int .i64 b_y) := by rw [eW]; go_simp
  have nvA : gA ≠ w.heap.size + 1 + 1 := by omega
  have nvB : gB ≠ w.heap.size + 1 + 1 := by omega
  have nvP : pA ≠ w.heap.size + 1 + 1 := by omega
  have nvQ : pB ≠ w.heap.size + 1 + 1 := by omega
  have c0 : W5.cell? ⟨gA, 0, none⟩ = some (.int .i64 0) := by rw [eW]; exact cell_else nvA (cell_else nvA c0)
  have c1 : W5.cell? ⟨gA, 1, none⟩ = some (.int .i64 X) := by rw [eW]; exact cell_else nvA (cell_else nvA c1)
  have c2 : W5.cell? ⟨gA, 2, none⟩ = some (.int .i64 Y) := by rw [eW]; exact cell_else nvA (cell_else nvA c2)
  have c3 : W5.cell? ⟨gA, 3, none⟩ = some (.int .i64 0) := by rw [eW]; exact cell_else nvA (cell_else nvA c3)
  have c4 : W5.cell? ⟨gA, 4, none⟩ = some (.int .i64 0) := by rw [eW]; exact cell_else nvA (cell_else nvA c4)
  have c5 : W5.cell? ⟨gA, 5, none⟩ = some (.int .i64 A) := by rw [eW]; exact cell_else nvA (cell_else nvA c5)
  have c6 : W5.cell? ⟨gA, 6, none⟩ = some (.int .i64 0) := by rw [eW]; exact cell_else nvA (cell_else nvA c6)
  have c7 : W5.cell? ⟨gA, 7, none⟩ = some (.int .i64 0) := by rw [eW]; exact cell_else nvA (cell_else nvA c7)
  have c8 : W5.cell? ⟨gA, 8, none⟩ = some (.int .i64 K) := by rw [eW]; exact cell_else nvA (cell_else nvA c8)
  have c9 : W5.cell? ⟨gA, 9, none⟩ = some (.int .i64 R) := by rw [eW]; exact cell_else nvA (cell_else nvA c9)
  have c10 : W5.cell? ⟨gA, 10, none⟩ = some (.slice (ao pA) sn (ac eA)) := by rw [eW]; exact cell_else nvA (cell_else nvA c10)
  have d0 : W5.cell? ⟨gB, 0, none⟩ = some (.int .i64 0) := by rw [eW]; exact cell_else nvB (cell_else nvB d0)
  have d1 : W5.cell? ⟨gB, 1, none⟩ = some (.int .i64 X2) := by rw [eW]; exact cell_else nvB (cell_else nvB d1)
  have d2 : W5.cell? ⟨gB, 2, none⟩ = some (.int .i64 Y2) := by rw [eW]; exact cell_else nvB (cell_else nvB d2)
  have d3 : W5.cell? ⟨gB, 3, none⟩ = some (.int .i64 0) := by rw [eW]; exact cell_else nvB (cell_else nvB d3)
  have d4 : W5.cell? ⟨gB, 4, none⟩ = some (.int .i64 0) := by rw [eW]; exact cell_else nvB (cell_else nvB d4)
  have d5 : W5.cell? ⟨gB, 5, none⟩ = some (.int .i64 A2) := by rw [eW]; exact cell_else nvB (cell_else nvB d5)
  have d6 : W5.cell? ⟨gB, 6, none⟩ = some (.int .i64 0) := by rw [eW]; exact cell_else nvB (cell_else nvB d6)
  have d7 : W5.cell? ⟨gB, 7, none⟩ = some (.int .i64 0) := by rw [eW]; exact cell_else nvB (cell_else nvB d7)
  have d8 : W5.cell? ⟨gB, 8, none⟩ = some (.int .i64 K2) := by rw [eW]; exact cell_else nvB (cell_else nvB d8)
  have d9 : W5.cell? ⟨gB, 9, none⟩ = some (.int .i64 R2) := by rw [eW]; exact cell_else nvB (cell_else nvB d9)
  have d10 : W5.cell? ⟨gB, 10, none⟩ = some (.slice (ao2 pB) sn2 (ac2 eB)) := by rw [eW]; exact cell_else nvB (cell_else nvB d10)
  have HBa : Hid (BodyAt W5 X Y A K R (.slice (ao pA) sn (ac eA)) bd) := HBa.out.away (HW1.out.ao_ pA) (fun i => by rw [eW]; exact (World.cell?_of_block (Below.heap_setCell _ ⟨w.heap.size + 1 + 1, 1, none⟩ _ _ nvP)).trans (World.cell?_of_block (Below.heap_setCell _ ⟨w.heap.size + 1 + 1, 0, none⟩ _ _ nvP)))
  have HBb : Hid (BodyAt W5 X2 Y2 A2 K2 R2 (.slice (ao2 pB) sn2 (ac2 eB)) bd2) := HBb.out.away (HW2.out.ao_ pB) (fun i => by rw [eW]; exact (World.cell?_of_block (Below.heap_setCell _ ⟨w.heap.size + 1 + 1, 1, none⟩ _ _ nvQ)).trans (World.cell?_of_block (Below.heap_setCell _ ⟨w.heap.size + 1 + 1, 0, none⟩ _ _ nvQ)))
  have HBa2 : Hid (BodyAt W5 (X + bx) (Y + b_y) A K R (.slice (ao pA) sn (ac eA)) bd1) := HBa2.out.away (HW1.out.ao_ pA) (fun i => by rw [eW]; exact (World.cell?_of_block (Below.heap_setCell _ ⟨w.heap.size + 1 + 1, 1, none⟩ _ _ nvP)).trans (World.cell?_of_block (Below.heap_setCell _ ⟨w.heap.size + 1 + 1, 0, none⟩ _ _ nvP)))
  have HBb2 : Hid (BodyAt W5 (X2 + bx) (Y2 + b_y) A2 K2 R2 (.slice (ao2 pB) sn2 (ac2 eB)) bd3) := HBb2.out.away (HW2.out.ao_ pB) (fun i => by rw [eW]; exact (World.cell?_of_block (Below.heap_setCell _ ⟨w.heap.size + 1 + 1, 1, none⟩ _ _ nvQ)).trans (World.cell?_of_block (Below.heap_setCell _ ⟨w.heap.size + 1 + 1, 0, none⟩ _ _ nvQ)))
  have M5 : Hid (Made w.heap.size w W5) := by unfold Hid; rw [eW]; exact (M4.out.put (by simp; omega) _).put (by simp; omega) _
  have kA5 : Made w4.heap.size w4 w4 := Made.rfl_ _ _
  have hA5 : W5.heap[gA]? = w4.heap[gA]? := by rw [eW]; exact (Below.heap_setCell _ ⟨w.heap.size + 1 + 1, 1, none⟩ _ _ nvA).trans (Below.heap_setCell _ ⟨w.heap.size + 1 + 1, 0, none⟩ _ _ nvA)
  have hB5 : W5.heap[gB]? = w4.heap[gB]? := by rw [eW]; exact (Below.heap_setCell _ ⟨w.heap.size + 1 + 1, 1, none⟩ _ _ nvB).trans (Below.heap_setCell _ ⟨w.heap.size + 1 + 1, 0, none⟩ _ _ nvB)
  rw [← eW]
  clear eW kA5
  have HHA : Hid (Has W5 gA 34 #[.int .i64 0, .int .i64 X, .int .i64 Y, .int .i64 0, .int .i64 0, .int .i64 A, .int .i64 0, .int .i64 0, .int .i64 K, .int .i64 R, .slice (ao pA) sn (ac eA)]) := hA5.trans HHA.out
  have HHB : Hid (Has W5 gB 34 #[.int .i64 0, .int .i64 X2, .int .i64 Y2, .int .i64 0, .int .i64 0, .int .i64 A2, .int .i64 0, .int .i64 0, .int .i64 K2, .int .i64 R2, .slice (ao2 pB) sn2 (ac2 eB)]) := hB5.trans HHB.out
  clear hA5 hB5
  have lgA := HHA.out.here
  have lgB := HHB.out.here
  go_wp2_with fail
  refine (HOf.out _ _ _ HBa.out HBb.out).mono ?_
  rintro e w6 ⟨po, cp, rfl, hpt, hfr, kf⟩
  have c0 := kf.reads (c0)
  have c1 := kf.reads (c1)
  have c2 := kf.reads (c2)
  have c3 := kf.reads (c3)
  have c4 := kf.reads (c4)
  have c5 := kf.reads (c5)
  have c6 := kf.reads (c6)
  have c7 := kf.reads (c7)
  have c8 := kf.reads (c8)
  have c9 := kf.reads (c9)
  have c10 := kf.reads (c10)
  have d0 := kf.reads (d0)
  have d1 := kf.reads (d1)
  have d2 := kf.reads (d2)
  have d3 := kf.reads (d3)
  have d4 := kf.reads (d4)
  have d5 := kf.reads (d5)
  have d6 := kf.reads (d6)
  have d7 := kf.reads (d7)
  have d8 := kf.reads (d8)
  have d9 := kf.reads (d9)
  have d10 := kf.reads (d10)
  have v0 := kf.reads (v0)
  have v1 := kf.reads (v1)
  have HPt := hid hpt
  have HBa2 : Hid (BodyAt w6 (X + bx) (Y + b_y) A K R (.slice (ao pA) sn (ac eA)) bd1) := HBa2.out.kept kf
  have HBb2 : Hid (BodyAt w6 (X2 + bx) (Y2 + b_y) A2 K2 R2 (.slice (ao2 pB) sn2 (ac2 eB)) bd3) := HBb2.out.kept kf
  have HHA : Hid (Has w6 gA 34 #[.int .i64 0, .int .i64 X, .int .i64 Y, .int .i64 0, .int .i64 0, .int .i64 A, .int .i64 0, .int .i64 0, .int .i64 K, .int .i64 R, .slice (ao pA) sn (ac eA)]) := HHA.out.stays kf lgA
  have HHB : Hid (Has w6 gB 34 #[.int .i64 0, .int .i64 X2, .int .i64 Y2, .int .i64 0, .int .i64 0, .int .i64 A2, .int .i64 0, .int .i64 0, .int .i64 K2, .int .i64 R2, .slice (ao2 pB) sn2 (ac2 eB)]) := HHB.out.stays kf lgB
  have M6 : Hid (Made w.heap.size w w6) := M5.out.then_ (kf.low M5.out.1.size)
  have HNb : Hid (∀ B, B < W5.heap.size → 0 < l.length → ∀ g off, po = some ⟨g, off, none⟩ → g ≠ B) := fun B hB hl g off e => by have := hfr g off e; omega
  have lA5 : gA < W5.heap.size := lgA
  have lB5 : gB < W5.heap.size := lgB
  have l65 : W5.heap.size ≤ w6.heap.size := kf.1.size
  clear kf hpt hfr HBa HBb
  go_upto_region 6 with fail
  obtain ⟨W7, eW⟩ : ∃ W, W = w6.alloc (.cells #[.int .i64 mx, .int .i64 my, .slice po l.length cp] 38) := ⟨_, rfl⟩
  have kk : Made w6.heap.size w6 W7 := by rw [eW]; exact (Made.rfl_ _ _).cells (Nat.le_refl _) _ _
  have t0 : W7.cell? ⟨w6.heap.size, 0, none⟩ = some (.int .i64 mx) := by rw [eW]; go_simp
  have t1 : W7.cell? ⟨w6.heap.size, 1, none⟩ = some (.int .i64 my) := by rw [eW]; go_simp
  have t2 : W7.cell? ⟨w6.heap.size, 2, none⟩ = some (.slice po l.length cp) := by rw [eW]; go_simp
  have c0 := kk.reads (c0)
  have c1 := kk.reads (c1)
  have c2 := kk.reads (c2)
  have c3 := kk.reads (c3)
  have c4 := kk.reads (c4)
  have c5 := kk.reads (c5)
  have c6 := kk.reads (c6)
  have c7 := kk.reads (c7)
  have c8 := kk.reads (c8)
  have c9 := kk.reads (c9)
  have c10 := kk.reads (c10)
  have d0 := kk.reads (d0)
  have d1 := kk.reads (d1)
  have d2 := kk.reads (d2)
  have d3 := kk.reads (d3)
  have d4 := kk.reads (d4)
  have d5 := kk.reads (d5)
  have d6 := kk.reads (d6)
  have d7 := kk.reads (d7)
  have d8 := kk.reads (d8)
  have d9 := kk.reads (d9)
  have d10 := kk.reads (d10)
  have v0 := kk.reads (v0)
  have v1 := kk.reads (v1)
  have HPt : Hid (PtsT W7 po l) := HPt.out.kept kk
  have HBa2 : Hid (BodyAt W7 (X + bx) (Y + b_y) A K R (.slice (ao pA) sn (ac eA)) bd1) := HBa2.out.kept kk
  have HBb2 : Hid (BodyAt W7 (X2 + bx) (Y2 + b_y) A2 K2 R2 (.slice (ao2 pB) sn2 (ac2 eB)) bd3) := HBb2.out.kept kk
  have HHA : Hid (Has W7 gA 34 #[.int .i64 0, .int .i64 X, .int .i64 Y, .int .i64 0, .int .i64 0, .int .i64 A, .int .i64 0, .int .i64 0, .int .i64 K, .int .i64 R, .slice (ao pA) sn (ac eA)]) := HHA.out.stays kk (by omega)
  have HHB : Hid (Has W7 gB 34 #[.int .i64 0, .int .i64 X2, .int .i64 Y2, .int .i64 0, .int .i64 0, .int .i64 A2, .int .i64 0, .int .i64 0, .int .i64 K2, .int .i64 R2, .slice (ao2 pB) sn2 (ac2 eB)]) := HHB.out.stays kk (by omega)
  have M7 : Hid (Made w.heap.size w W7) := M6.out.then_ (kk.low M6.out.1.size)
  have lt7 : w6.heap.size < W7.heap.size := World.block_lt_of_cell? _ _ t0
  rw [← eW]
  clear eW kk
  have lgA7 : gA < W7.heap.size := HHA.out.here
  have lgB7 : gB < W7.heap.size := HHB.out.here
  have T0 := hid t0; have T1 := hid t1; have T2 := hid t2
  have M7s := hid (show w6.heap.size < W7.heap.size from lt7)
  clear c0 c3 c4 c5 c6 c7 c8 c9 c10 d0 d3 d4 d5 d6 d7 d8 d9 d10 t0 t1 t2
  refine MS.reg_mks (fun _ _ _ _ => True) 9 [9, 10, 11] [0, 1, 2, 3, 4, 5, 6, 7, 8] [0, 1, 2, 3, 4, 5, 6, 7, 8] [] [] (fun _ => []) (val := fun _ _ _ => .int .i64 0) (by kernel_rfl) (by kernel_rfl) (fun p hp => absurd hp (by simp)) rfl ?_
  refine MK.can_class (rest := []) [0, 1, 2, 3, 4, 5, 6, 7, 8] [] 100 (fun _ _ _ _ _ _ _ _ => trivial) (MK.any_class _) (by kernel_rfl) rfl (by kernel_rfl) (by kernel_rfl) ?_
  apply Exists.intro
  refine ⟨?r1, ?r2⟩
  case r1 =>
    intro Ty hT fw hf _
    have c1 := Class.reads hf c1
    have c2 := Class.reads hf c2
    have d1 := Class.reads hf d1
    have d2 := Class.reads hf d2
    have v0 := Class.reads hf v0
    have v1 := Class.reads hf v1
    change wpQuiet _ _ _ _ [_, _, _, _, _, _, _, _, _] _
    repeat (go_big_quiet_step ((first
      | (go_at_call 16; with_reducible exact hf.made (vadd_is X Y bx b_y (X + bx) (Y + b_y) _ iX iY ibx iby EA1.out EA2.out))
      | (go_at_call 16; with_reducible exact hf.made (vadd_is X2 Y2 bx b_y (X2 + bx) (Y2 + b_y) _ iX2 iY2 ibx iby EA3.out EA4.out)))))
    exact wpQuiet_nil rfl
  intro w8 hu
  have k8 := hu.1
  have HHA8 := hid (HHA.out.stays k8 lgA7)
  have HHB8 := hid (HHB.out.stays k8 lgB7)
  have v0 := k8.reads v0
  have v1 := k8.reads v1
  have T0 := hid (k8.reads T0.out); have T1 := hid (k8.reads T1.out); have T2 := hid (k8.reads T2.out)
  have HPt : Hid (PtsT w8 po l) := HPt.out.kept k8
  have HBa2 : Hid (BodyAt w8 (X + bx) (Y + b_y) A K R (.slice (ao pA) sn (ac eA)) bd1) := HBa2.out.kept k8
  have HBb2 : Hid (BodyAt w8 (X2 + bx) (Y2 + b_y) A2 K2 R2 (.slice (ao2 pB) sn2 (ac2 eB)) bd3) := HBb2.out.kept k8
  have M8 : Hid (Made w.heap.size w w8) := M7.out.then_ (k8.low M7.out.1.size)
  have fA : ∀ i, w8.frozen? ⟨gA, i, none⟩ = false := HHA8.out.free
  have fB : ∀ i, w8.frozen? ⟨gB, i, none⟩ = false := HHB8.out.free
  have lA8 : gA < w8.heap.size := HHA8.out.here
  have lB8 : gB < w8.heap.size := HHB8.out.here
  have lgw8 : Hid (w.heap.size ≤ gA ∧ w.heap.size ≤ gB) := ⟨by omega, by omega⟩
  have c1 := k8.reads c1
  have c2 := k8.reads c2
  have d1 := k8.reads d1
  have d2 := k8.reads d2
  clear k8 hu HHA HHB M7
  change wpList _ _ _ [_, _, _] _ _
  go_wp2_with fail
  refine NoPanic.normal ?_
  obtain ⟨W9, eW⟩ : ∃ V, V = (((w8.setCell ⟨gA, 1, none⟩ (.int .i64 (X + bx))).setCell ⟨gA, 2, none⟩ (.int .i64 (Y + b_y))).setCell ⟨gB, 1, none⟩ (.int .i64 (X2 + bx))).setCell ⟨gB, 2, none⟩ (.int .i64 (Y2 + b_y)) := ⟨_, rfl⟩
  have HHA9 : Hid (Has W9 gA 34 #[.int .i64 0, .int .i64 (X + bx), .int .i64 (Y + b_y), .int .i64 0, .int .i64 0, .int .i64 A, .int .i64 0, .int .i64 0, .int .i64 K, .int .i64 R, .slice (ao pA) sn (ac eA)]) := by unfold Hid; rw [eW]; exact (((HHA8.out.put 1 _).put 2 _).other ⟨gB, 1, none⟩ n45 _).other ⟨gB, 2, none⟩ n45 _
  have HHB9 : Hid (Has W9 gB 34 #[.int .i64 0, .int .i64 (X2 + bx), .int .i64 (Y2 + b_y), .int .i64 0, .int .i64 0, .int .i64 A2, .int .i64 0, .int .i64 0, .int .i64 K2, .int .i64 R2, .slice (ao2 pB) sn2 (ac2 eB)]) := by unfold Hid; rw [eW]; exact (((HHB8.out.other ⟨gA, 1, none⟩ n54 _).other ⟨gA, 2, none⟩ n54 _).put 1 _).put 2 _
  have hel : ∀ g i x, g ≠ gA → g ≠ gB → w8.cell? ⟨g, i, none⟩ = some x → W9.cell? ⟨g, i, none⟩ = some x := fun g i x h1 h2 h => by rw [eW]; exact cell_else (by exact h2) (cell_else (by exact h2) (cell_else (by exact h1) (cell_else (by exact h1) h)))
  have heq : ∀ g i, g ≠ gA → g ≠ gB → W9.cell? ⟨g, i, none⟩ = w8.cell? ⟨g, i, none⟩ := fun g i h1 h2 => by
    rw [eW]
    exact ((World.cell?_of_block (Below.heap_setCell _ ⟨gB, 2, none⟩ _ g h2)).trans (World.cell?_of_block (Below.heap_setCell _ ⟨gB, 1, none⟩ _ g h2))).trans ((World.cell?_of_block (Below.heap_setCell _ ⟨gA, 2, none⟩ _ g h1)).trans (World.cell?_of_block (Below.heap_setCell _ ⟨gA, 1, none⟩ _ g h1)))
  have nvA' : w.heap.size + 1 + 1 ≠ gA := fun e => nvA e.symm
  have nvB' : w.heap.size + 1 + 1 ≠ gB := fun e => nvB e.symm
  have ntA : w6.heap.size ≠ gA := by omega
  have ntB : w6.heap.size ≠ gB := by omega
  have v0 := hel _ _ _ nvA' nvB' v0
  have v1 := hel _ _ _ nvA' nvB' v1
  have T0 := hid (hel _ _ _ ntA ntB T0.out); have T1 := hid (hel _ _ _ ntA ntB T1.out); have T2 := hid (hel _ _ _ ntA ntB T2.out)
  have HPt : Hid (PtsT W9 po l) := fun hl => by
    obtain ⟨b_, o_, e2, hh⟩ := HPt.out hl
    have h1 := HNb.out gA (by omega) hl b_ o_ e2
    have h2 := HNb.out gB (by omega) hl b_ o_ e2
    exact ⟨b_, o_, e2, fun i p hi => ⟨hel _ _ _ h1 h2 (hh i p hi).1, hel _ _ _ h1 h2 (hh i p hi).2.1, hel _ _ _ h1 h2 (hh i p hi).2.2.1, hel _ _ _ h1 h2 (hh i p hi).2.2.2⟩⟩
  have HBa2 : Hid (BodyAt W9 (X + bx) (Y + b_y) A K R (.slice (ao pA) sn (ac eA)) bd1) := HBa2.out.away (HW1.out.ao_ pA) (fun i => heq pA i n14 n15)
  have HBb2 : Hid (BodyAt W9 (X2 + bx) (Y2 + b_y) A2 K2 R2 (.slice (ao2 pB) sn2 (ac2 eB)) bd3) := HBb2.out.away (HW2.out.ao_ pB) (fun i => heq pB i n34 n35)
  have M9 : Hid (Made w.heap.size w W9) := by unfold Hid; rw [eW]; exact (((M8.out.put (by exact lgw8.out.1) _).put (by exact lgw8.out.1) _).put (by exact lgw8.out.2) _).put (by exact lgw8.out.2) _
  rw [← eW]
  clear eW hel heq fA fB HHA8 HHB8 M8 c1 c2 d1 d2
  have c0 := HHA9.out.at_ 0
  have c1 := HHA9.out.at_ 1
  have c2 := HHA9.out.at_ 2
  have c3 := HHA9.out.at_ 3
  have c4 := HHA9.out.at_ 4
  have c5 := HHA9.out.at_ 5
  have c6 := HHA9.out.at_ 6
  have c7 := HHA9.out.at_ 7
  have c8 := HHA9.out.at_ 8
  have c9 := HHA9.out.at_ 9
  have c10 := HHA9.out.at_ 10
  have d0 := HHB9.out.at_ 0
  have d1 := HHB9.out.at_ 1
  have d2 := HHB9.out.at_ 2
  have d3 := HHB9.out.at_ 3
  have d4 := HHB9.out.at_ 4
  have d5 := HHB9.out.at_ 5
  have d6 := HHB9.out.at_ 6
  have d7 := HHB9.out.at_ 7
  have d8 := HHB9.out.at_ 8
  have d9 := HHB9.out.at_ 9
  have d10 := HHB9.out.at_ 10
  simp at c0 c1 c2 c3 c4 c5 c6 c7 c8 c9 c10 d0 d1 d2 d3 d4 d5 d6 d7 d8 d9 d10
  go_wp2_with fail
  refine (HOg.out _ _ _ HBa2.out HBb2.out).mono ?_
  rintro e w10 ⟨po2, cp2, rfl, hpt, hfr, kf⟩
  rw [H4.out]
  have v0 := kf.reads v0
  have v1 := kf.reads v1
  have t0 := kf.reads T0.out
  have t1 := kf.reads T1.out
  have t2 := kf.reads T2.out
  have HPt : Hid (PtsT w10 po l) := HPt.out.kept kf
  have HPu := hid hpt
  have M10 : Hid (Made w.heap.size w w10) := M9.out.then_ (kf.low M9.out.1.size)
  clear kf hpt hfr c0 c1 c2 c3 c4 c5 c6 c7 c8 c9 c10 d0 d1 d2 d3 d4 d5 d6 d7 d8 d9 d10 HHA9 HHB9 T0 T1 T2 HBa2 HBb2 M9
  obtain ⟨len, el⟩ : ∃ n, l.length = n := ⟨_, rfl⟩
  have EL := hid el
  have E4 : Hid (l2.length = len) := H4.out.trans el
  have hlen : len ≤ 2 := by rw [← el]; exact hl2
  rw [el] at t2 ⊢
  clear el
  have vq := veq_same mx my
  go_upto_region 8 with fail
  obtain ⟨Wn, eW⟩ : ∃ V, V = w10.alloc (.cells #[.int .i64 mx, .int .i64 my, .slice po2 len cp2] 38) := ⟨_, rfl⟩
  have t0 : Wn.cell? ⟨w6.heap.size, 0, none⟩ = some (.int .i64 mx) := by rw [eW]; exact cell_more t0
  have t1 : Wn.cell? ⟨w6.heap.size, 1, none⟩ = some (.int .i64 my) := by rw [eW]; exact cell_more t1
  have t2 : Wn.cell? ⟨w6.heap.size, 2, none⟩ = some (.slice po len cp) := by rw [eW]; exact cell_more t2
  have s0 : Wn.cell? ⟨w10.heap.size, 0, none⟩ = some (.int .i64 mx) := by rw [eW]; go_simp
  have s1 : Wn.cell? ⟨w10.heap.size, 1, none⟩ = some (.int .i64 my) := by rw [eW]; go_simp
  have s2 : Wn.cell? ⟨w10.heap.size, 2, none⟩ = some (.slice po2 len cp2) := by rw [eW]; go_simp
  have V0 : Hid (Wn.cell? ⟨w.heap.size + 1 + 1, 0, none⟩ = some (.int .i64 bx)) := by unfold Hid; rw [eW]; exact cell_more v0
  have V1 : Hid (Wn.cell? ⟨w.heap.size + 1 + 1, 1, none⟩ = some (.int .i64 b_y)) := by unfold Hid; rw [eW]; exact cell_more v1
  have HPt : Hid (PtsT Wn po l) := by unfold Hid; rw [eW]; exact HPt.out.kept ((Made.rfl_ _ _).cells (Nat.le_refl _) _ _)
  have HPu : Hid (PtsT Wn po2 l2) := by unfold Hid; rw [eW]; exact HPu.out.kept ((Made.rfl_ _ _).cells (Nat.le_refl _) _ _)
  have Mn : Hid (Made w.heap.size w Wn) := by unfold Hid; rw [eW]; exact M10.out.cells M10.out.1.size _ _
  have lwn : w.heap.size ≤ Wn.heap.size := Mn.out.1.size
  rw [← eW]
  clear eW v0 v1 M10
  go_wp2_with fail
  have S2 := hid s2
  clear t0 t1 t2 s0 s1 s2
  go_loopg [68] len (fun gg j wr => ∃ q : Nat, q + gg = len ∧ j = .int .i64 q ∧ Hid (Made Wn.heap.size Wn wr))
  case atStart => exact ⟨0, by omega, rfl, Made.rfl_ _ _⟩
  case round =>
    obtain ⟨q, hq, rfl, HM⟩ := hrel
    by_cases hlt : q < len
    · obtain ⟨p, hp⟩ : ∃ p, l[q]? = some p := ⟨_, List.getElem?_eq_getElem (by rw [EL.out]; exact hlt)⟩
      obtain ⟨hp2, hne⟩ := H5.out q p hp
      obtain ⟨px, py, pd, pk⟩ := p
      simp only [] at hp2 hne
      have ipx : I64 px := by unfold Ne Bi at hne; unfold I64; simp only [] at hne; omega
      have ipy : I64 py := by unfold Ne Bi at hne; unfold I64; simp only [] at hne; omega
      obtain ⟨qx, eqx⟩ : ∃ z, addF px bx = z := ⟨_, rfl⟩
      obtain ⟨qy, eqy⟩ : ∃ z, addF py b_y = z := ⟨_, rfl⟩
      rw [eqx, eqy] at hp2
      obtain ⟨ba, oa, ea, ha⟩ := HPt.out.kept HM.out (by rw [EL.out]; omega)
      obtain ⟨bb, ob, eb, hb⟩ := HPu.out.kept HM.out (by rw [E4.out]; omega)
      obtain ⟨x0, x1, x2, x3⟩ := ha q _ hp
      obtain ⟨y0, y1, y2, y3⟩ := hb q _ hp2
      simp only [] at x0 x1 x2 x3 y0 y1 y2 y3
      have s2 := HM.out.reads S2.out
      have v0 := HM.out.reads V0.out
      have v1 := HM.out.reads V1.out
      subst ea
      subst eb
      have EQX := hid eqx; have EQY := hid eqy
      have vq := veq_same qx qy
      clear ha hb hp hp2 hne eqx eqy
      go_upto_region 13 with fail
      obtain ⟨Wo, eW⟩ : ∃ V, V = wr.alloc (.cells #[.int .i64 px, .int .i64 py, .int .i64 pd, .int .i64 pk] 47) := ⟨_, rfl⟩
      have x0 : Wo.cell? ⟨wr.heap.size, 0, none⟩ = some (.int .i64 px) := by rw [eW]; go_simp
      have x1 : Wo.cell? ⟨wr.heap.size, 1, none⟩ = some (.int .i64 py) := by rw [eW]; go_simp
      have x2 : Wo.cell? ⟨wr.heap.size, 2, none⟩ = some (.int .i64 pd) := by rw [eW]; go_simp
      have x3 : Wo.cell? ⟨wr.heap.size, 3, none⟩ = some (.int .i64 pk) := by rw [eW]; go_simp
      have y0 : Wo.cell? ⟨bb, ob + q * 4, none⟩ = some (.int .i64 qx) := by rw [eW]; exact cell_more y0
      have y1 : Wo.cell? ⟨bb, ob + q * 4 + 1, none⟩ = some (.int .i64 qy) := by rw [eW]; exact cell_more y1
      have y2 : Wo.cell? ⟨bb, ob + q * 4 + 2, none⟩ = some (.int .i64 pd) := by rw [eW]; exact cell_more y2
      have y3 : Wo.cell? ⟨bb, ob + q * 4 + 3, none⟩ = some (.int .i64 pk) := by rw [eW]; exact cell_more y3
      have v0 : Wo.cell? ⟨w.heap.size + 1 + 1, 0, none⟩ = some (.int .i64 bx) := by rw [eW]; exact cell_more v0
      have v1 : Wo.cell? ⟨w.heap.size + 1 + 1, 1, none⟩ = some (.int .i64 b_y) := by rw [eW]; exact cell_more v1
      have s2 : Wo.cell? ⟨w10.heap.size, 2, none⟩ = some (.slice (some ⟨bb, ob, none⟩) len cp2) := by rw [eW]; exact cell_more s2
      have Mo : Hid (Made Wn.heap.size Wn Wo) := by unfold Hid; rw [eW]; exact HM.out.cells HM.out.1.size _ _
      have lwo : Wn.heap.size ≤ wr.heap.size := HM.out.1.size
      rw [← eW]
      clear eW
      go_upto_region 14 with fail
      obtain ⟨Wp, eW⟩ : ∃ V, V = Wo.alloc (.cells #[.int .i64 qx, .int .i64 qy, .int .i64 pd, .int .i64 pk] 47) := ⟨_, rfl⟩
      have y0 : Wp.cell? ⟨Wo.heap.size, 0, none⟩ = some (.int .i64 qx) := by rw [eW]; go_simp
      have y1 : Wp.cell? ⟨Wo.heap.size, 1, none⟩ = some (.int .i64 qy) := by rw [eW]; go_simp
      have y2 : Wp.cell? ⟨Wo.heap.size, 2, none⟩ = some (.int .i64 pd) := by rw [eW]; go_simp
      have y3 : Wp.cell? ⟨Wo.heap.size, 3, none⟩ = some (.int .i64 pk) := by rw [eW]; go_simp
      have x0 : Wp.cell? ⟨wr.heap.size, 0, none⟩ = some (.int .i64 px) := by rw [eW]; exact cell_more x0
      have x1 : Wp.cell? ⟨wr.heap.size, 1, none⟩ = some (.int .i64 py) := by rw [eW]; exact cell_more x1
      have x2 : Wp.cell? ⟨wr.heap.size, 2, none⟩ = some (.int .i64 pd) := by rw [eW]; exact cell_more x2
      have x3 : Wp.cell? ⟨wr.heap.size, 3, none⟩ = some (.int .i64 pk) := by rw [eW]; exact cell_more x3
      have v0 : Wp.cell? ⟨w.heap.size + 1 + 1, 0, none⟩ = some (.int .i64 bx) := by rw [eW]; exact cell_more v0
      have v1 : Wp.cell? ⟨w.heap.size + 1 + 1, 1, none⟩ = some (.int .i64 b_y) := by rw [eW]; exact cell_more v1
      have Mp : Hid (Made Wn.heap.size Wn Wp) := by unfold Hid; rw [eW]; exact Mo.out.cells Mo.out.1.size _ _
      rw [← eW]
      clear eW s2
      have z1 : (pk != pk) = false := by simp
      have z2 : (pd != pd) = false := by simp
      refine reg_made (by kernel_rfl) (by kernel_rfl) ?_
      intro Ty hT fw hf
      have x0' := Class.reads hf x0
      have x1' := Class.reads hf x1
      have x2' := Class.reads hf x2
      have x3' := Class.reads hf x3
      have y0' := Class.reads hf y0
      have y1' := Class.reads hf y1
      have y2' := Class.reads hf y2
      have y3' := Class.reads hf y3
      have v0' := Class.reads hf v0
      have v1' := Class.reads hf v1
      repeat (go_big_quiet_step ((go_at_call 16; with_reducible exact hf.made (vadd_is px py bx b_y qx qy _ ipx ipy ibx iby EQX.out EQY.out))))
      refine wpQuiet_nil ?_
      intro w3 h3
      have M3 : Hid (Made Wn.heap.size Wn w3) := Mp.out.then_ ((hf.here h3).low Mp.out.1.size)
      clear h3 hf x0 x1 x2 x3 y0 y1 y2 y3 x0' x1' x2' x3' y0' y1' y2' y3' v0 v1 v0' v1'
      go_wp2_with fail
      go_roundg (len - q - 1)
      case rel => exact ⟨q + 1, by omega, by go_num, M3⟩
      case measure => omega
    · go_wp2_with fail
      go_ret
      exact ⟨rfl, Mn.out.then_ (HM.out.low lwn)⟩
end Go.Proofs.Ytmfkcdinfahjlaa.Fx
