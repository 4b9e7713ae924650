/- TouchDeep: the walk -/
import Derived.Test.YtmfkcdinfahjlaaTuF
import Derived.Test.YtmfkcdinfahjlaaTuY
import Derived.Test.YtmfkcdinfahjlaaTuA
import Derived.Test.YtmfkcdinfahjlaaTouchY
import Derived.Test.YtmfkcdinfahjlaaTcN
import Derived.Test.YtmfkcdinfahjlaaArr
import Derived.Deep.DeepCutAuto

/- TouchDeep: the walk (none). -/
namespace Go.Proofs.Ytmfkcdinfahjlaa.Fx
open Go.ChangeShapes Go.WideShapes Go.ChangeAt Go.RowKit
set_option linter.unusedVariables false

set_option maxRecDepth 100000 in
set_option maxHeartbeats 16000000 in
theorem tdeep_none (TS : TouchSays) (a b c d x y an a2 b2 c2 d2 x2 y2 an2 : Int) (w : World) (ix : I64 x) (iy : I64 y) (ix2 : I64 x2) (iy2 : I64 y2) (X Y A K R X2 Y2 A2 K2 R2 : Int) (ao ao2 : Nat → Option Addr) (sn sn2 : Nat) (ac ac2 : Nat → Nat) (bd bd2 : Bdy) (hW1 : PlaceW X Y A K R ao sn ac bd) (hW2 : PlaceW X2 Y2 A2 K2 R2 ao2 sn2 ac2 bd2)
    (hB1 : ∀ w, Calls Try.prog 10 #[placeV a b c d x y an] w fun e w' => ∃ g e', e = .returned (bodyV 0 X Y 0 0 A 0 0 K R (.slice (ao g) sn (ac e'))) ∧ w.heap.size ≤ g ∧ g < w'.heap.size ∧ BodyAt w' X Y A K R (.slice (ao g) sn (ac e')) bd ∧ Made w.heap.size w w')
    (hB2 : ∀ w, Calls Try.prog 10 #[placeV a2 b2 c2 d2 x2 y2 an2] w fun e w' => ∃ g e', e = .returned (bodyV 0 X2 Y2 0 0 A2 0 0 K2 R2 (.slice (ao2 g) sn2 (ac2 e'))) ∧ w.heap.size ≤ g ∧ g < w'.heap.size ∧ BodyAt w' X2 Y2 A2 K2 R2 (.slice (ao2 g) sn2 (ac2 e')) bd2 ∧ Made w.heap.size w w')
    (ht : wantF bd bd2 = none) :
    Calls Try.prog 3 #[placeV a b c d x y an, placeV a2 b2 c2 d2 x2 y2 an2] w fun e w' => e = .returned (.bool true) ∧ Made w.heap.size w w' := by
  have HB1 := hid hB1; have HB2 := hid hB2; have HW1 := hid hW1; have HW2 := hid hW2
  have HFit := hid (tfit_is TS)
  have HOf : Hid (OfF X Y A K R X2 Y2 A2 K2 R2 bd bd2 0 0 [] false) := of_fresh ht rfl rfl rfl rfl
  obtain ⟨l, el⟩ : ∃ l : List Pnt, l = [] := ⟨_, rfl⟩
  rw [← el] at HOf
  have EL : Hid (l.length = 0) := by unfold Hid; rw [el]; rfl
  clear hB1 hB2 hW1 hW2 ht TS el
  go_enter Try.func3, Try.ntmps3
  go_wp2_with fail
  refine (HFit.out _).mono ?_
  rintro e w1 ⟨rfl, k1⟩
  have p0 := k1.reads (p := ⟨w.heap.size, 0, none⟩) (x := .int .i64 a) (by go_simp)
  have p1 := k1.reads (p := ⟨w.heap.size, 1, none⟩) (x := .int .i64 b) (by go_simp)
  have p2 := k1.reads (p := ⟨w.heap.size, 2, none⟩) (x := .int .i64 c) (by go_simp)
  have p3 := k1.reads (p := ⟨w.heap.size, 3, none⟩) (x := .int .i64 d) (by go_simp)
  have p4 := k1.reads (p := ⟨w.heap.size, 4, none⟩) (x := .int .i64 x) (by go_simp)
  have p5 := k1.reads (p := ⟨w.heap.size, 5, none⟩) (x := .int .i64 y) (by go_simp)
  have p6 := k1.reads (p := ⟨w.heap.size, 6, none⟩) (x := .int .i64 an) (by go_simp)
  have q0 := k1.reads (p := ⟨w.heap.size + 1, 0, none⟩) (x := .int .i64 a2) (by go_simp)
  have q1 := k1.reads (p := ⟨w.heap.size + 1, 1, none⟩) (x := .int .i64 b2) (by go_simp)
  have q2 := k1.reads (p := ⟨w.heap.size + 1, 2, none⟩) (x := .int .i64 c2) (by go_simp)
  have q3 := k1.reads (p := ⟨w.heap.size + 1, 3, none⟩) (x := .int .i64 d2) (by go_simp)
  have q4 := k1.reads (p := ⟨w.heap.size + 1, 4, none⟩) (x := .int .i64 x2) (by go_simp)
  have q5 := k1.reads (p := ⟨w.heap.size + 1, 5, none⟩) (x := .int .i64 y2) (by go_simp)
  have q6 := k1.reads (p := ⟨w.heap.size + 1, 6, none⟩) (x := .int .i64 an2) (by go_simp)
  have M1 : Hid (Made w.heap.size w w1) := (made_box (made_box k1))
  clear k1 HFit
  go_upto_region 3 with fail
  have mk1 : Hid (∀ (G : Nat → Option (Nat × Nat)) (u : World), MK.Cm w1 (alB (fun v g e => BodyAt v X Y A K R (.slice (ao g) sn (ac e)) bd) (fun v g e => BodyAt v X2 Y2 A2 K2 R2 (.slice (ao2 g) sn2 (ac2 e)) bd2)) G u → MK.MkUpon Try.prog w1 (alB (fun v g e => BodyAt v X Y A K R (.slice (ao g) sn (ac e)) bd) (fun v g e => BodyAt v X2 Y2 A2 K2 R2 (.slice (ao2 g) sn2 (ac2 e)) bd2)) (valB (fun g e => bodyV 0 X Y 0 0 A 0 0 K R (.slice (ao g) sn (ac e))) (fun g e => bodyV 0 X2 Y2 0 0 A2 0 0 K2 R2 (.slice (ao2 g) sn2 (ac2 e)))) 1 G (.ok (.enter 10 #[placeV a b c d x y an]) u)) := by
    intro G u hu
    refine (HB1.out u).mono ?_
    rintro e u' ⟨p, e', rfl, hp1, hp2, ho, kk⟩
    exact ⟨p, e', rfl, hu.next (alB_lasts (fun _ _ _ _ h k => h.kept k) (fun _ _ _ _ h k => h.kept k)) kk hp1 hp2 ho⟩
  have mk3 : Hid (∀ (G : Nat → Option (Nat × Nat)) (u : World), MK.Cm w1 (alB (fun v g e => BodyAt v X Y A K R (.slice (ao g) sn (ac e)) bd) (fun v g e => BodyAt v X2 Y2 A2 K2 R2 (.slice (ao2 g) sn2 (ac2 e)) bd2)) G u → MK.MkUpon Try.prog w1 (alB (fun v g e => BodyAt v X Y A K R (.slice (ao g) sn (ac e)) bd) (fun v g e => BodyAt v X2 Y2 A2 K2 R2 (.slice (ao2 g) sn2 (ac2 e)) bd2)) (valB (fun g e => bodyV 0 X Y 0 0 A 0 0 K R (.slice (ao g) sn (ac e))) (fun g e => bodyV 0 X2 Y2 0 0 A2 0 0 K2 R2 (.slice (ao2 g) sn2 (ac2 e)))) 3 G (.ok (.enter 10 #[placeV a2 b2 c2 d2 x2 y2 an2]) u)) := by
    intro G u hu
    refine (HB2.out u).mono ?_
    rintro e u' ⟨p, e', rfl, hp1, hp2, ho, kk⟩
    exact ⟨p, e', rfl, hu.next (alB_lasts (fun _ _ _ _ h k => h.kept k) (fun _ _ _ _ h k => h.kept k)) kk hp1 hp2 ho⟩
  refine MK.reg_mk (alB (fun v g e => BodyAt v X Y A K R (.slice (ao g) sn (ac e)) bd) (fun v g e => BodyAt v X2 Y2 A2 K2 R2 (.slice (ao2 g) sn2 (ac2 e)) bd2)) 6 [0, 2, 1, 3, 4, 5] [0, 2] [1, 3, 4, 5] [] (fun _ => []) (val := (valB (fun g e => bodyV 0 X Y 0 0 A 0 0 K R (.slice (ao g) sn (ac e))) (fun g e => bodyV 0 X2 Y2 0 0 A2 0 0 K2 R2 (.slice (ao2 g) sn2 (ac2 e))))) (by kernel_rfl) (by kernel_rfl) (fun p hp => absurd hp (by simp)) ?_
  refine MK.can_class (rest := [1, 3, 4, 5]) [0, 2] [] 85 (alB_lasts (fun _ _ _ _ h k => h.kept k) (fun _ _ _ _ h k => h.kept k)) (MK.any_class _) (by kernel_rfl) rfl (by kernel_rfl) (by kernel_rfl) ?_
  apply Exists.intro
  refine ⟨?q1, ?q2⟩
  case q1 =>
    intro Ty hT fw hf _
    have p0 := Class.reads hf p0
    have p1 := Class.reads hf p1
    have p2 := Class.reads hf p2
    have p3 := Class.reads hf p3
    have p4 := Class.reads hf p4
    have p5 := Class.reads hf p5
    have p6 := Class.reads hf p6
    have q0 := Class.reads hf q0
    have q1 := Class.reads hf q1
    have q2 := Class.reads hf q2
    have q3 := Class.reads hf q3
    have q4 := Class.reads hf q4
    have q5 := Class.reads hf q5
    have q6 := Class.reads hf q6
    change wpQuiet _ _ _ _ [_, _] _
    repeat (go_big_quiet_step (fail))
    exact wpQuiet_nil rfl
  refine MK.can_mk 1 14 _ rfl rfl rfl rfl ?m1 fun pA eA => ?m2
  case m1 =>
    intro G' u _ hu
    rw [show (execOp _ _).run Try.prog u = .ok (.enter 10 #[placeV a b c d x y an]) u by kernel_rfl]
    exact mk1.out G' u hu
  rw [show (valB (fun g e => bodyV 0 X Y 0 0 A 0 0 K R (.slice (ao g) sn (ac e))) (fun g e => bodyV 0 X2 Y2 0 0 A2 0 0 K2 R2 (.slice (ao2 g) sn2 (ac2 e)))) 1 pA eA = bodyV 0 X Y 0 0 A 0 0 K R (.slice (ao pA) sn (ac eA)) from rfl]
  simp only [Act.put, List.setIfInBounds_toArray, List.set_cons_succ, List.set_cons_zero]
  refine MK.can_mk 3 16 _ rfl rfl rfl rfl ?m3 fun pB eB => ?m4
  case m3 =>
    intro G' u _ hu
    rw [show (execOp _ _).run Try.prog u = .ok (.enter 10 #[placeV a2 b2 c2 d2 x2 y2 an2]) u by kernel_rfl]
    exact mk3.out G' u hu
  rw [show (valB (fun g e => bodyV 0 X Y 0 0 A 0 0 K R (.slice (ao g) sn (ac e))) (fun g e => bodyV 0 X2 Y2 0 0 A2 0 0 K2 R2 (.slice (ao2 g) sn2 (ac2 e)))) 3 pB eB = bodyV 0 X2 Y2 0 0 A2 0 0 K2 R2 (.slice (ao2 pB) sn2 (ac2 eB)) from rfl]
  simp only [Act.put, List.setIfInBounds_toArray, List.set_cons_succ, List.set_cons_zero]
  refine MK.can_mk 4 5 _ rfl rfl rfl rfl ?m5 fun gA hA => ?m6
  case m5 =>
    intro G' u _ hu
    rw [show (execOp _ _).run Try.prog u = .ok (.value (.pointer (some ⟨u.heap.size, 0, none⟩))) (u.alloc (.cells #[.int .i64 0, .int .i64 0, .int .i64 0, .int .i64 0, .int .i64 0, .int .i64 0, .int .i64 0, .int .i64 0, .int .i64 0, .int .i64 0, .slice none 0 0] 34)) by kernel_rfl]
    exact ⟨u.heap.size, 0, rfl, hu.next (alB_lasts (fun _ _ _ _ h k => h.kept k) (fun _ _ _ _ h k => h.kept k)) ((Made.rfl_ _ _).cells (Nat.le_refl _) _ _) (Nat.le_refl _) (by simp) (has_new _ _ _)⟩
  rw [show (valB (fun g e => bodyV 0 X Y 0 0 A 0 0 K R (.slice (ao g) sn (ac e))) (fun g e => bodyV 0 X2 Y2 0 0 A2 0 0 K2 R2 (.slice (ao2 g) sn2 (ac2 e)))) 4 gA hA = .pointer (some ⟨gA, 0, none⟩) from rfl]
  simp only [Act.put, List.setIfInBounds_toArray, List.set_cons_succ, List.set_cons_zero]
  refine MK.can_mk 5 6 _ rfl rfl rfl rfl ?m7 fun gB hB => ?m8
  case m7 =>
    intro G' u _ hu
    rw [show (execOp _ _).run Try.prog u = .ok (.value (.pointer (some ⟨u.heap.size, 0, none⟩))) (u.alloc (.cells #[.int .i64 0, .int .i64 0, .int .i64 0, .int .i64 0, .int .i64 0, .int .i64 0, .int .i64 0, .int .i64 0, .int .i64 0, .int .i64 0, .slice none 0 0] 34)) by kernel_rfl]
    exact ⟨u.heap.size, 0, rfl, hu.next (alB_lasts (fun _ _ _ _ h k => h.kept k) (fun _ _ _ _ h k => h.kept k)) ((Made.rfl_ _ _).cells (Nat.le_refl _) _ _) (Nat.le_refl _) (by simp) (has_new _ _ _)⟩
  rw [show (valB (fun g e => bodyV 0 X Y 0 0 A 0 0 K R (.slice (ao g) sn (ac e))) (fun g e => bodyV 0 X2 Y2 0 0 A2 0 0 K2 R2 (.slice (ao2 g) sn2 (ac2 e)))) 5 gB hB = .pointer (some ⟨gB, 0, none⟩) from rfl]
  intro w9 hu
  have u1 : (MK.upd (MK.upd (MK.upd (MK.upd (fun _ => none) 1 (pA, eA)) 3 (pB, eB)) 4 (gA, hA)) 5 (gB, hB)) 1 = some (pA, eA) := by unfold MK.upd; simp
  have u3 : (MK.upd (MK.upd (MK.upd (MK.upd (fun _ => none) 1 (pA, eA)) 3 (pB, eB)) 4 (gA, hA)) 5 (gB, hB)) 3 = some (pB, eB) := by unfold MK.upd; simp
  have u4 : (MK.upd (MK.upd (MK.upd (MK.upd (fun _ => none) 1 (pA, eA)) 3 (pB, eB)) 4 (gA, hA)) 5 (gB, hB)) 4 = some (gA, hA) := by unfold MK.upd; simp
  have u5 : (MK.upd (MK.upd (MK.upd (MK.upd (fun _ => none) 1 (pA, eA)) 3 (pB, eB)) 4 (gA, hA)) 5 (gB, hB)) 5 = some (gB, hB) := by unfold MK.upd; simp
  obtain ⟨l1, m1, b1⟩ := hu.2.1 1 _ u1
  obtain ⟨l3, m3, b3⟩ := hu.2.1 3 _ u3
  obtain ⟨l4, m4, b4⟩ := hu.2.1 4 _ u4
  obtain ⟨l5, m5, b5⟩ := hu.2.1 5 _ u5
  have b1 : BodyAt w9 X Y A K R (.slice (ao pA) sn (ac eA)) bd := b1
  have b3 : BodyAt w9 X2 Y2 A2 K2 R2 (.slice (ao2 pB) sn2 (ac2 eB)) bd2 := b3
  have zA : Has w9 gA 34 #[.int .i64 0, .int .i64 0, .int .i64 0, .int .i64 0, .int .i64 0, .int .i64 0, .int .i64 0, .int .i64 0, .int .i64 0, .int .i64 0, .slice none 0 0] := b4
  have zB : Has w9 gB 34 #[.int .i64 0, .int .i64 0, .int .i64 0, .int .i64 0, .int .i64 0, .int .i64 0, .int .i64 0, .int .i64 0, .int .i64 0, .int .i64 0, .slice none 0 0] := b5
  have n14 : pA ≠ gA := fun e => by have := hu.2.2 1 4 _ _ u1 u4 e; omega
  have n15 : pA ≠ gB := fun e => by have := hu.2.2 1 5 _ _ u1 u5 e; omega
  have n34 : pB ≠ gA := fun e => by have := hu.2.2 3 4 _ _ u3 u4 e; omega
  have n35 : pB ≠ gB := fun e => by have := hu.2.2 3 5 _ _ u3 u5 e; omega
  have n45 : gA ≠ gB := fun e => by have := hu.2.2 4 5 _ _ u4 u5 e; omega
  have k9 := hu.1
  simp only [] at l1 l3 l4 l5
  have lw1 : w.heap.size ≤ w1.heap.size := M1.out.1.size
  have lwA : w.heap.size ≤ gA := by omega
  have lwB : w.heap.size ≤ gB := by omega
  have M9 : Hid (Made w.heap.size w w9) := M1.out.then_ (k9.low M1.out.1.size)
  clear k9 mk1 mk3 hu u1 u3 u4 u5 b4 b5 p0 p1 p2 p3 p4 p5 p6 q0 q1 q2 q3 q4 q5 q6 M1
  have za0 := zA.at_ 0
  have za1 := zA.at_ 1
  have za2 := zA.at_ 2
  have za3 := zA.at_ 3
  have za4 := zA.at_ 4
  have za5 := zA.at_ 5
  have za6 := zA.at_ 6
  have za7 := zA.at_ 7
  have za8 := zA.at_ 8
  have za9 := zA.at_ 9
  have za10 := zA.at_ 10
  have zb0 := zB.at_ 0
  have zb1 := zB.at_ 1
  have zb2 := zB.at_ 2
  have zb3 := zB.at_ 3
  have zb4 := zB.at_ 4
  have zb5 := zB.at_ 5
  have zb6 := zB.at_ 6
  have zb7 := zB.at_ 7
  have zb8 := zB.at_ 8
  have zb9 := zB.at_ 9
  have zb10 := zB.at_ 10
  simp at za0 zb0 za1 zb1 za2 zb2 za3 zb3 za4 zb4 za5 zb5 za6 zb6 za7 zb7 za8 zb8 za9 zb9 za10 zb10
  have zfA : ∀ i, w9.frozen? ⟨gA, i, none⟩ = false := fun i => zA.free i
  have zfB : ∀ i, w9.frozen? ⟨gB, i, none⟩ = false := fun i => zB.free i
  have n54 : gB ≠ gA := fun e => n45 e.symm
  simp only [List.drop_succ_cons, List.drop_zero]
  go_upto_region 4 with fail
  obtain ⟨We, eW⟩ : ∃ W, W = ((((((((((((((((((((((w9.setCell ⟨gA, 0, none⟩ (.int .i64 0)).setCell ⟨gA, 1, none⟩ (.int .i64 X)).setCell ⟨gA, 2, none⟩ (.int .i64 Y)).setCell ⟨gA, 3, none⟩ (.int .i64 0)).setCell ⟨gA, 4, none⟩ (.int .i64 0)).setCell ⟨gA, 5, none⟩ (.int .i64 A)).setCell ⟨gA, 6, none⟩ (.int .i64 0)).setCell ⟨gA, 7, none⟩ (.int .i64 0)).setCell ⟨gA, 8, none⟩ (.int .i64 K)).setCell ⟨gA, 9, none⟩ (.int .i64 R)).setCell ⟨gA, 10, none⟩ (.slice (ao pA) sn (ac eA))).setCell ⟨gB, 0, none⟩ (.int .i64 0)).setCell ⟨gB, 1, none⟩ (.int .i64 X2)).setCell ⟨gB, 2, none⟩ (.int .i64 Y2)).setCell ⟨gB, 3, none⟩ (.int .i64 0)).setCell ⟨gB, 4, none⟩ (.int .i64 0)).setCell ⟨gB, 5, none⟩ (.int .i64 A2)).setCell ⟨gB, 6, none⟩ (.int .i64 0)).setCell ⟨gB, 7, none⟩ (.int .i64 0)).setCell ⟨gB, 8, none⟩ (.int .i64 K2)).setCell ⟨gB, 9, none⟩ (.int .i64 R2)).setCell ⟨gB, 10, none⟩ (.slice (ao2 pB) sn2 (ac2 eB))) := ⟨_, rfl⟩
  have HA : Has We gA 34 #[.int .i64 0, .int .i64 X, .int .i64 Y, .int .i64 0, .int .i64 0, .int .i64 A, .int .i64 0, .int .i64 0, .int .i64 K, .int .i64 R, .slice (ao pA) sn (ac eA)] := by rw [eW]; exact has_put11 (zA.put11 _ _ _ _ _ _ _ _ _ _ _) n45 _ _ _ _ _ _ _ _ _ _ _
  have HB : Has We gB 34 #[.int .i64 0, .int .i64 X2, .int .i64 Y2, .int .i64 0, .int .i64 0, .int .i64 A2, .int .i64 0, .int .i64 0, .int .i64 K2, .int .i64 R2, .slice (ao2 pB) sn2 (ac2 eB)] := by rw [eW]; exact (has_put11 zB n54 _ _ _ _ _ _ _ _ _ _ _).put11 _ _ _ _ _ _ _ _ _ _ _
  have Me : Hid (Made w.heap.size w We) := by unfold Hid; rw [eW]; exact (M9.out.put11 lwA _ _ _ _ _ _ _ _ _ _ _).put11 lwB _ _ _ _ _ _ _ _ _ _ _
  have HBa : Hid (BodyAt We X Y A K R (.slice (ao pA) sn (ac eA)) bd) := b1.away (HW1.out.ao_ pA) (fun i => by rw [eW, cell_put11 _ _ _ _ n15, cell_put11 _ _ _ _ n14])
  have HBb : Hid (BodyAt We X2 Y2 A2 K2 R2 (.slice (ao2 pB) sn2 (ac2 eB)) bd2) := b3.away (HW2.out.ao_ pB) (fun i => by rw [eW, cell_put11 _ _ _ _ n35, cell_put11 _ _ _ _ n34])
  rw [← eW]
  clear eW zA zB za0 zb0 za1 zb1 za2 zb2 za3 zb3 za4 zb4 za5 zb5 za6 zb6 za7 zb7 za8 zb8 za9 zb9 za10 zb10 zfA zfB b1 b3 M9
  refine NoPanic.normal ?_
  have c0 := HA.at_ 0
  have c1 := HA.at_ 1
  have c2 := HA.at_ 2
  have c3 := HA.at_ 3
  have c4 := HA.at_ 4
  have c5 := HA.at_ 5
  have c6 := HA.at_ 6
  have c7 := HA.at_ 7
  have c8 := HA.at_ 8
  have c9 := HA.at_ 9
  have c10 := HA.at_ 10
  have d0 := HB.at_ 0
  have d1 := HB.at_ 1
  have d2 := HB.at_ 2
  have d3 := HB.at_ 3
  have d4 := HB.at_ 4
  have d5 := HB.at_ 5
  have d6 := HB.at_ 6
  have d7 := HB.at_ 7
  have d8 := HB.at_ 8
  have d9 := HB.at_ 9
  have d10 := HB.at_ 10
  simp at c0 d0 c1 d1 c2 d2 c3 d3 c4 d4 c5 d5 c6 d6 c7 d7 c8 d8 c9 d9 c10 d10
  have lgA := HA.here
  have lgB := HB.here
  have HHA := hid HA; have HHB := hid HB
  clear HA HB
  go_wp2_with fail
  refine (HOf.out _ _ _ HBa.out HBb.out).mono ?_
  rintro e w10 ⟨po, cp, rfl, hpt, hfr, kf⟩
  have c0 := kf.reads (c0)
  have c1 := kf.reads (c1)
  have c2 := kf.reads (c2)
  have c3 := kf.reads (c3)
  have c4 := kf.reads (c4)
  have c5 := kf.reads (c5)
  have c6 := kf.reads (c6)
  have c7 := kf.reads (c7)
  have c8 := kf.reads (c8)
  have c9 := kf.reads (c9)
  have c10 := kf.reads (c10)
  have d0 := kf.reads (d0)
  have d1 := kf.reads (d1)
  have d2 := kf.reads (d2)
  have d3 := kf.reads (d3)
  have d4 := kf.reads (d4)
  have d5 := kf.reads (d5)
  have d6 := kf.reads (d6)
  have d7 := kf.reads (d7)
  have d8 := kf.reads (d8)
  have d9 := kf.reads (d9)
  have d10 := kf.reads (d10)
  have HPt := hid hpt
  have HBa : Hid (BodyAt w10 X Y A K R (.slice (ao pA) sn (ac eA)) bd) := HBa.out.kept kf
  have HBb : Hid (BodyAt w10 X2 Y2 A2 K2 R2 (.slice (ao2 pB) sn2 (ac2 eB)) bd2) := HBb.out.kept kf
  have M10 : Hid (Made w.heap.size w w10) := Me.out.then_ (kf.low Me.out.1.size)
  clear kf hpt hfr HHA HHB
  simp only [EL.out]
  go_upto_region 5 with fail
  obtain ⟨Wn, eW⟩ : ∃ V, V = w10.alloc (.cells #[.int .i64 0, .int .i64 0, .slice po 0 cp] 38) := ⟨_, rfl⟩
  have kk : Made w10.heap.size w10 Wn := by rw [eW]; exact (Made.rfl_ _ _).cells (Nat.le_refl _) _ _
  have t0 : Wn.cell? ⟨w10.heap.size, 0, none⟩ = some (.int .i64 0) := by rw [eW]; go_simp
  have t1 : Wn.cell? ⟨w10.heap.size, 1, none⟩ = some (.int .i64 0) := by rw [eW]; go_simp
  have t2 : Wn.cell? ⟨w10.heap.size, 2, none⟩ = some (.slice po 0 cp) := by rw [eW]; go_simp
  have c0 := kk.reads (c0)
  have c1 := kk.reads (c1)
  have c2 := kk.reads (c2)
  have c3 := kk.reads (c3)
  have c4 := kk.reads (c4)
  have c5 := kk.reads (c5)
  have c6 := kk.reads (c6)
  have c7 := kk.reads (c7)
  have c8 := kk.reads (c8)
  have c9 := kk.reads (c9)
  have c10 := kk.reads (c10)
  have d0 := kk.reads (d0)
  have d1 := kk.reads (d1)
  have d2 := kk.reads (d2)
  have d3 := kk.reads (d3)
  have d4 := kk.reads (d4)
  have d5 := kk.reads (d5)
  have d6 := kk.reads (d6)
  have d7 := kk.reads (d7)
  have d8 := kk.reads (d8)
  have d9 := kk.reads (d9)
  have d10 := kk.reads (d10)
  have HPt : Hid (PtsT Wn po l) := HPt.out.kept kk
  have HBa : Hid (BodyAt Wn X Y A K R (.slice (ao pA) sn (ac eA)) bd) := HBa.out.kept kk
  have HBb : Hid (BodyAt Wn X2 Y2 A2 K2 R2 (.slice (ao2 pB) sn2 (ac2 eB)) bd2) := HBb.out.kept kk
  have Mn : Hid (Made w.heap.size w Wn) := M10.out.then_ (kk.low M10.out.1.size)
  have ltn : w10.heap.size < Wn.heap.size := World.block_lt_of_cell? _ _ t0
  rw [← eW]
  clear eW kk M10
  have vq := veq_zero
  clear c0 c1 c2 c3 c4 c5 c6 c7 c8 c9 c10 d0 d1 d2 d3 d4 d5 d6 d7 d8 d9 d10 HPt HBa HBb
  go_wp2_with fail
  go_ret
  exact ⟨rfl, Mn.out⟩
end Go.Proofs.Ytmfkcdinfahjlaa.Fx

/- TouchDeep: the walk (some). -/
namespace Go.Proofs.Ytmfkcdinfahjlaa.Fx
open Go.ChangeShapes Go.WideShapes Go.ChangeAt Go.RowKit
set_option linter.unusedVariables false

set_option maxRecDepth 100000 in
set_option maxHeartbeats 16000000 in
theorem tdeep_some (TS : TouchSays) (a b c d x y an a2 b2 c2 d2 x2 y2 an2 : Int) (w : World) (ix : I64 x) (iy : I64 y) (ix2 : I64 x2) (iy2 : I64 y2) (X Y A K R X2 Y2 A2 K2 R2 : Int) (ao ao2 : Nat → Option Addr) (sn sn2 : Nat) (ac ac2 : Nat → Nat) (bd bd2 : Bdy) (hW1 : PlaceW X Y A K R ao sn ac bd) (hW2 : PlaceW X2 Y2 A2 K2 R2 ao2 sn2 ac2 bd2)
    (hB1 : ∀ w, Calls Try.prog 10 #[placeV a b c d x y an] w fun e w' => ∃ g e', e = .returned (bodyV 0 X Y 0 0 A 0 0 K R (.slice (ao g) sn (ac e'))) ∧ w.heap.size ≤ g ∧ g < w'.heap.size ∧ BodyAt w' X Y A K R (.slice (ao g) sn (ac e')) bd ∧ Made w.heap.size w w')
    (hB2 : ∀ w, Calls Try.prog 10 #[placeV a2 b2 c2 d2 x2 y2 an2] w fun e w' => ∃ g e', e = .returned (bodyV 0 X2 Y2 0 0 A2 0 0 K2 R2 (.slice (ao2 g) sn2 (ac2 e'))) ∧ w.heap.size ≤ g ∧ g < w'.heap.size ∧ BodyAt w' X2 Y2 A2 K2 R2 (.slice (ao2 g) sn2 (ac2 e')) bd2 ∧ Made w.heap.size w w')
    (hn : wantF bd bd2 ≠ none) :
    Calls Try.prog 3 #[placeV a b c d x y an, placeV a2 b2 c2 d2 x2 y2 an2] w fun e w' => e = .returned (.bool true) ∧ Made w.heap.size w w' := by
  have HB1 := hid hB1; have HB2 := hid hB2; have HW1 := hid hW1; have HW2 := hid hW2
  have HFit := hid (tfit_is TS)
  obtain ⟨lx, ly, hx, hy, bx1, i1, hO1⟩ := box_any hW1
  obtain ⟨lx2, ly2, hx2, hy2, bx2, i2, hO2⟩ := box_any hW2
  have HNear := want_meets (in_b hW1) (in_b hW2) hn bx1 bx2
  have HO1 := hid hO1; have HO2 := hid hO2
  have HGr := hid (fun w => grow_any i1 w)
  have HMe := hid (fun w => meets_any i1 i2 HNear w)
  obtain ⟨t, et⟩ : ∃ t, wantF bd bd2 = some t := Option.ne_none_iff_exists'.1 hn
  have hg := (want_good (in_b hW1) (in_b hW2) et).at
  obtain ⟨nx, enx⟩ : ∃ z, t.nx = z := ⟨_, rfl⟩
  obtain ⟨ny, eny⟩ : ∃ z, t.ny = z := ⟨_, rfl⟩
  obtain ⟨l, el⟩ : ∃ z, t.pts = z := ⟨_, rfl⟩
  have HOf : Hid (OfF X Y A K R X2 Y2 A2 K2 R2 bd bd2 nx ny l true) := of_fresh et enx eny el rfl
  rw [el] at hg
  obtain ⟨g1, g2, g3⟩ := hg
  have HG := hid g3
  obtain ⟨len, en⟩ : ∃ n, l.length = n := ⟨_, rfl⟩
  have EL := hid en
  rw [en] at g1 g2
  clear hB1 hB2 hW1 hW2 et enx eny el hn en g3 hO1 hO2 i1 i2 bx1 bx2 HNear TS
  go_enter Try.func3, Try.ntmps3
  go_wp2_with fail
  refine (HFit.out _).mono ?_
  rintro e w1 ⟨rfl, k1⟩
  have p0 := k1.reads (p := ⟨w.heap.size, 0, none⟩) (x := .int .i64 a) (by go_simp)
  have p1 := k1.reads (p := ⟨w.heap.size, 1, none⟩) (x := .int .i64 b) (by go_simp)
  have p2 := k1.reads (p := ⟨w.heap.size, 2, none⟩) (x := .int .i64 c) (by go_simp)
  have p3 := k1.reads (p := ⟨w.heap.size, 3, none⟩) (x := .int .i64 d) (by go_simp)
  have p4 := k1.reads (p := ⟨w.heap.size, 4, none⟩) (x := .int .i64 x) (by go_simp)
  have p5 := k1.reads (p := ⟨w.heap.size, 5, none⟩) (x := .int .i64 y) (by go_simp)
  have p6 := k1.reads (p := ⟨w.heap.size, 6, none⟩) (x := .int .i64 an) (by go_simp)
  have q0 := k1.reads (p := ⟨w.heap.size + 1, 0, none⟩) (x := .int .i64 a2) (by go_simp)
  have q1 := k1.reads (p := ⟨w.heap.size + 1, 1, none⟩) (x := .int .i64 b2) (by go_simp)
  have q2 := k1.reads (p := ⟨w.heap.size + 1, 2, none⟩) (x := .int .i64 c2) (by go_simp)
  have q3 := k1.reads (p := ⟨w.heap.size + 1, 3, none⟩) (x := .int .i64 d2) (by go_simp)
  have q4 := k1.reads (p := ⟨w.heap.size + 1, 4, none⟩) (x := .int .i64 x2) (by go_simp)
  have q5 := k1.reads (p := ⟨w.heap.size + 1, 5, none⟩) (x := .int .i64 y2) (by go_simp)
  have q6 := k1.reads (p := ⟨w.heap.size + 1, 6, none⟩) (x := .int .i64 an2) (by go_simp)
  have M1 : Hid (Made w.heap.size w w1) := (made_box (made_box k1))
  clear k1 HFit
  go_upto_region 3 with fail
  have mk1 : Hid (∀ (G : Nat → Option (Nat × Nat)) (u : World), MK.Cm w1 (alB (fun v g e => BodyAt v X Y A K R (.slice (ao g) sn (ac e)) bd) (fun v g e => BodyAt v X2 Y2 A2 K2 R2 (.slice (ao2 g) sn2 (ac2 e)) bd2)) G u → MK.MkUpon Try.prog w1 (alB (fun v g e => BodyAt v X Y A K R (.slice (ao g) sn (ac e)) bd) (fun v g e => BodyAt v X2 Y2 A2 K2 R2 (.slice (ao2 g) sn2 (ac2 e)) bd2)) (valB (fun g e => bodyV 0 X Y 0 0 A 0 0 K R (.slice (ao g) sn (ac e))) (fun g e => bodyV 0 X2 Y2 0 0 A2 0 0 K2 R2 (.slice (ao2 g) sn2 (ac2 e)))) 1 G (.ok (.enter 10 #[placeV a b c d x y an]) u)) := by
    intro G u hu
    refine (HB1.out u).mono ?_
    rintro e u' ⟨p, e', rfl, hp1, hp2, ho, kk⟩
    exact ⟨p, e', rfl, hu.next (alB_lasts (fun _ _ _ _ h k => h.kept k) (fun _ _ _ _ h k => h.kept k)) kk hp1 hp2 ho⟩
  have mk3 : Hid (∀ (G : Nat → Option (Nat × Nat)) (u : World), MK.Cm w1 (alB (fun v g e => BodyAt v X Y A K R (.slice (ao g) sn (ac e)) bd) (fun v g e => BodyAt v X2 Y2 A2 K2 R2 (.slice (ao2 g) sn2 (ac2 e)) bd2)) G u → MK.MkUpon Try.prog w1 (alB (fun v g e => BodyAt v X Y A K R (.slice (ao g) sn (ac e)) bd) (fun v g e => BodyAt v X2 Y2 A2 K2 R2 (.slice (ao2 g) sn2 (ac2 e)) bd2)) (valB (fun g e => bodyV 0 X Y 0 0 A 0 0 K R (.slice (ao g) sn (ac e))) (fun g e => bodyV 0 X2 Y2 0 0 A2 0 0 K2 R2 (.slice (ao2 g) sn2 (ac2 e)))) 3 G (.ok (.enter 10 #[placeV a2 b2 c2 d2 x2 y2 an2]) u)) := by
    intro G u hu
    refine (HB2.out u).mono ?_
    rintro e u' ⟨p, e', rfl, hp1, hp2, ho, kk⟩
    exact ⟨p, e', rfl, hu.next (alB_lasts (fun _ _ _ _ h k => h.kept k) (fun _ _ _ _ h k => h.kept k)) kk hp1 hp2 ho⟩
  refine MK.reg_mk (alB (fun v g e => BodyAt v X Y A K R (.slice (ao g) sn (ac e)) bd) (fun v g e => BodyAt v X2 Y2 A2 K2 R2 (.slice (ao2 g) sn2 (ac2 e)) bd2)) 6 [0, 2, 1, 3, 4, 5] [0, 2] [1, 3, 4, 5] [] (fun _ => []) (val := (valB (fun g e => bodyV 0 X Y 0 0 A 0 0 K R (.slice (ao g) sn (ac e))) (fun g e => bodyV 0 X2 Y2 0 0 A2 0 0 K2 R2 (.slice (ao2 g) sn2 (ac2 e))))) (by kernel_rfl) (by kernel_rfl) (fun p hp => absurd hp (by simp)) ?_
  refine MK.can_class (rest := [1, 3, 4, 5]) [0, 2] [] 85 (alB_lasts (fun _ _ _ _ h k => h.kept k) (fun _ _ _ _ h k => h.kept k)) (MK.any_class _) (by kernel_rfl) rfl (by kernel_rfl) (by kernel_rfl) ?_
  apply Exists.intro
  refine ⟨?q1, ?q2⟩
  case q1 =>
    intro Ty hT fw hf _
    have p0 := Class.reads hf p0
    have p1 := Class.reads hf p1
    have p2 := Class.reads hf p2
    have p3 := Class.reads hf p3
    have p4 := Class.reads hf p4
    have p5 := Class.reads hf p5
    have p6 := Class.reads hf p6
    have q0 := Class.reads hf q0
    have q1 := Class.reads hf q1
    have q2 := Class.reads hf q2
    have q3 := Class.reads hf q3
    have q4 := Class.reads hf q4
    have q5 := Class.reads hf q5
    have q6 := Class.reads hf q6
    change wpQuiet _ _ _ _ [_, _] _
    repeat (go_big_quiet_step (fail))
    exact wpQuiet_nil rfl
  refine MK.can_mk 1 14 _ rfl rfl rfl rfl ?m1 fun pA eA => ?m2
  case m1 =>
    intro G' u _ hu
    rw [show (execOp _ _).run Try.prog u = .ok (.enter 10 #[placeV a b c d x y an]) u by kernel_rfl]
    exact mk1.out G' u hu
  rw [show (valB (fun g e => bodyV 0 X Y 0 0 A 0 0 K R (.slice (ao g) sn (ac e))) (fun g e => bodyV 0 X2 Y2 0 0 A2 0 0 K2 R2 (.slice (ao2 g) sn2 (ac2 e)))) 1 pA eA = bodyV 0 X Y 0 0 A 0 0 K R (.slice (ao pA) sn (ac eA)) from rfl]
  simp only [Act.put, List.setIfInBounds_toArray, List.set_cons_succ, List.set_cons_zero]
  refine MK.can_mk 3 16 _ rfl rfl rfl rfl ?m3 fun pB eB => ?m4
  case m3 =>
    intro G' u _ hu
    rw [show (execOp _ _).run Try.prog u = .ok (.enter 10 #[placeV a2 b2 c2 d2 x2 y2 an2]) u by kernel_rfl]
    exact mk3.out G' u hu
  rw [show (valB (fun g e => bodyV 0 X Y 0 0 A 0 0 K R (.slice (ao g) sn (ac e))) (fun g e => bodyV 0 X2 Y2 0 0 A2 0 0 K2 R2 (.slice (ao2 g) sn2 (ac2 e)))) 3 pB eB = bodyV 0 X2 Y2 0 0 A2 0 0 K2 R2 (.slice (ao2 pB) sn2 (ac2 eB)) from rfl]
  simp only [Act.put, List.setIfInBounds_toArray, List.set_cons_succ, List.set_cons_zero]
  refine MK.can_mk 4 5 _ rfl rfl rfl rfl ?m5 fun gA hA => ?m6
  case m5 =>
    intro G' u _ hu
    rw [show (execOp _ _).run Try.prog u = .ok (.value (.pointer (some ⟨u.heap.size, 0, none⟩))) (u.alloc (.cells #[.int .i64 0, .int .i64 0, .int .i64 0, .int .i64 0, .int .i64 0, .int .i64 0, .int .i64 0, .int .i64 0, .int .i64 0, .int .i64 0, .slice none 0 0] 34)) by kernel_rfl]
    exact ⟨u.heap.size, 0, rfl, hu.next (alB_lasts (fun _ _ _ _ h k => h.kept k) (fun _ _ _ _ h k => h.kept k)) ((Made.rfl_ _ _).cells (Nat.le_refl _) _ _) (Nat.le_refl _) (by simp) (has_new _ _ _)⟩
  rw [show (valB (fun g e => bodyV 0 X Y 0 0 A 0 0 K R (.slice (ao g) sn (ac e))) (fun g e => bodyV 0 X2 Y2 0 0 A2 0 0 K2 R2 (.slice (ao2 g) sn2 (ac2 e)))) 4 gA hA = .pointer (some ⟨gA, 0, none⟩) from rfl]
  simp only [Act.put, List.setIfInBounds_toArray, List.set_cons_succ, List.set_cons_zero]
  refine MK.can_mk 5 6 _ rfl rfl rfl rfl ?m7 fun gB hB => ?m8
  case m7 =>
    intro G' u _ hu
    rw [show (execOp _ _).run Try.prog u = .ok (.value (.pointer (some ⟨u.heap.size, 0, none⟩))) (u.alloc (.cells #[.int .i64 0, .int .i64 0, .int .i64 0, .int .i64 0, .int .i64 0, .int .i64 0, .int .i64 0, .int .i64 0, .int .i64 0, .int .i64 0, .slice none 0 0] 34)) by kernel_rfl]
    exact ⟨u.heap.size, 0, rfl, hu.next (alB_lasts (fun _ _ _ _ h k => h.kept k) (fun _ _ _ _ h k => h.kept k)) ((Made.rfl_ _ _).cells (Nat.le_refl _) _ _) (Nat.le_refl _) (by simp) (has_new _ _ _)⟩
  rw [show (valB (fun g e => bodyV 0 X Y 0 0 A 0 0 K R (.slice (ao g) sn (ac e))) (fun g e => bodyV 0 X2 Y2 0 0 A2 0 0 K2 R2 (.slice (ao2 g) sn2 (ac2 e)))) 5 gB hB = .pointer (some ⟨gB, 0, none⟩) from rfl]
  intro w9 hu
  have u1 : (MK.upd (MK.upd (MK.upd (MK.upd (fun _ => none) 1 (pA, eA)) 3 (pB, eB)) 4 (gA, hA)) 5 (gB, hB)) 1 = some (pA, eA) := by unfold MK.upd; simp
  have u3 : (MK.upd (MK.upd (MK.upd (MK.upd (fun _ => none) 1 (pA, eA)) 3 (pB, eB)) 4 (gA, hA)) 5 (gB, hB)) 3 = some (pB, eB) := by unfold MK.upd; simp
  have u4 : (MK.upd (MK.upd (MK.upd (MK.upd (fun _ => none) 1 (pA, eA)) 3 (pB, eB)) 4 (gA, hA)) 5 (gB, hB)) 4 = some (gA, hA) := by unfold MK.upd; simp
  have u5 : (MK.upd (MK.upd (MK.upd (MK.upd (fun _ => none) 1 (pA, eA)) 3 (pB, eB)) 4 (gA, hA)) 5 (gB, hB)) 5 = some (gB, hB) := by unfold MK.upd; simp
  obtain ⟨l1, m1, b1⟩ := hu.2.1 1 _ u1
  obtain ⟨l3, m3, b3⟩ := hu.2.1 3 _ u3
  obtain ⟨l4, m4, b4⟩ := hu.2.1 4 _ u4
  obtain ⟨l5, m5, b5⟩ := hu.2.1 5 _ u5
  have b1 : BodyAt w9 X Y A K R (.slice (ao pA) sn (ac eA)) bd := b1
  have b3 : BodyAt w9 X2 Y2 A2 K2 R2 (.slice (ao2 pB) sn2 (ac2 eB)) bd2 := b3
  have zA : Has w9 gA 34 #[.int .i64 0, .int .i64 0, .int .i64 0, .int .i64 0, .int .i64 0, .int .i64 0, .int .i64 0, .int .i64 0, .int .i64 0, .int .i64 0, .slice none 0 0] := b4
  have zB : Has w9 gB 34 #[.int .i64 0, .int .i64 0, .int .i64 0, .int .i64 0, .int .i64 0, .int .i64 0, .int .i64 0, .int .i64 0, .int .i64 0, .int .i64 0, .slice none 0 0] := b5
  have n14 : pA ≠ gA := fun e => by have := hu.2.2 1 4 _ _ u1 u4 e; omega
  have n15 : pA ≠ gB := fun e => by have := hu.2.2 1 5 _ _ u1 u5 e; omega
  have n34 : pB ≠ gA := fun e => by have := hu.2.2 3 4 _ _ u3 u4 e; omega
  have n35 : pB ≠ gB := fun e => by have := hu.2.2 3 5 _ _ u3 u5 e; omega
  have n45 : gA ≠ gB := fun e => by have := hu.2.2 4 5 _ _ u4 u5 e; omega
  have k9 := hu.1
  simp only [] at l1 l3 l4 l5
  have lw1 : w.heap.size ≤ w1.heap.size := M1.out.1.size
  have lwA : w.heap.size ≤ gA := by omega
  have lwB : w.heap.size ≤ gB := by omega
  have M9 : Hid (Made w.heap.size w w9) := M1.out.then_ (k9.low M1.out.1.size)
  clear k9 mk1 mk3 hu u1 u3 u4 u5 b4 b5 p0 p1 p2 p3 p4 p5 p6 q0 q1 q2 q3 q4 q5 q6 M1
  have za0 := zA.at_ 0
  have za1 := zA.at_ 1
  have za2 := zA.at_ 2
  have za3 := zA.at_ 3
  have za4 := zA.at_ 4
  have za5 := zA.at_ 5
  have za6 := zA.at_ 6
  have za7 := zA.at_ 7
  have za8 := zA.at_ 8
  have za9 := zA.at_ 9
  have za10 := zA.at_ 10
  have zb0 := zB.at_ 0
  have zb1 := zB.at_ 1
  have zb2 := zB.at_ 2
  have zb3 := zB.at_ 3
  have zb4 := zB.at_ 4
  have zb5 := zB.at_ 5
  have zb6 := zB.at_ 6
  have zb7 := zB.at_ 7
  have zb8 := zB.at_ 8
  have zb9 := zB.at_ 9
  have zb10 := zB.at_ 10
  simp at za0 zb0 za1 zb1 za2 zb2 za3 zb3 za4 zb4 za5 zb5 za6 zb6 za7 zb7 za8 zb8 za9 zb9 za10 zb10
  have zfA : ∀ i, w9.frozen? ⟨gA, i, none⟩ = false := fun i => zA.free i
  have zfB : ∀ i, w9.frozen? ⟨gB, i, none⟩ = false := fun i => zB.free i
  have n54 : gB ≠ gA := fun e => n45 e.symm
  simp only [List.drop_succ_cons, List.drop_zero]
  go_upto_region 4 with fail
  obtain ⟨We, eW⟩ : ∃ W, W = ((((((((((((((((((((((w9.setCell ⟨gA, 0, none⟩ (.int .i64 0)).setCell ⟨gA, 1, none⟩ (.int .i64 X)).setCell ⟨gA, 2, none⟩ (.int .i64 Y)).setCell ⟨gA, 3, none⟩ (.int .i64 0)).setCell ⟨gA, 4, none⟩ (.int .i64 0)).setCell ⟨gA, 5, none⟩ (.int .i64 A)).setCell ⟨gA, 6, none⟩ (.int .i64 0)).setCell ⟨gA, 7, none⟩ (.int .i64 0)).setCell ⟨gA, 8, none⟩ (.int .i64 K)).setCell ⟨gA, 9, none⟩ (.int .i64 R)).setCell ⟨gA, 10, none⟩ (.slice (ao pA) sn (ac eA))).setCell ⟨gB, 0, none⟩ (.int .i64 0)).setCell ⟨gB, 1, none⟩ (.int .i64 X2)).setCell ⟨gB, 2, none⟩ (.int .i64 Y2)).setCell ⟨gB, 3, none⟩ (.int .i64 0)).setCell ⟨gB, 4, none⟩ (.int .i64 0)).setCell ⟨gB, 5, none⟩ (.int .i64 A2)).setCell ⟨gB, 6, none⟩ (.int .i64 0)).setCell ⟨gB, 7, none⟩ (.int .i64 0)).setCell ⟨gB, 8, none⟩ (.int .i64 K2)).setCell ⟨gB, 9, none⟩ (.int .i64 R2)).setCell ⟨gB, 10, none⟩ (.slice (ao2 pB) sn2 (ac2 eB))) := ⟨_, rfl⟩
  have HA : Has We gA 34 #[.int .i64 0, .int .i64 X, .int .i64 Y, .int .i64 0, .int .i64 0, .int .i64 A, .int .i64 0, .int .i64 0, .int .i64 K, .int .i64 R, .slice (ao pA) sn (ac eA)] := by rw [eW]; exact has_put11 (zA.put11 _ _ _ _ _ _ _ _ _ _ _) n45 _ _ _ _ _ _ _ _ _ _ _
  have HB : Has We gB 34 #[.int .i64 0, .int .i64 X2, .int .i64 Y2, .int .i64 0, .int .i64 0, .int .i64 A2, .int .i64 0, .int .i64 0, .int .i64 K2, .int .i64 R2, .slice (ao2 pB) sn2 (ac2 eB)] := by rw [eW]; exact (has_put11 zB n54 _ _ _ _ _ _ _ _ _ _ _).put11 _ _ _ _ _ _ _ _ _ _ _
  have Me : Hid (Made w.heap.size w We) := by unfold Hid; rw [eW]; exact (M9.out.put11 lwA _ _ _ _ _ _ _ _ _ _ _).put11 lwB _ _ _ _ _ _ _ _ _ _ _
  have HBa : Hid (BodyAt We X Y A K R (.slice (ao pA) sn (ac eA)) bd) := b1.away (HW1.out.ao_ pA) (fun i => by rw [eW, cell_put11 _ _ _ _ n15, cell_put11 _ _ _ _ n14])
  have HBb : Hid (BodyAt We X2 Y2 A2 K2 R2 (.slice (ao2 pB) sn2 (ac2 eB)) bd2) := b3.away (HW2.out.ao_ pB) (fun i => by rw [eW, cell_put11 _ _ _ _ n35, cell_put11 _ _ _ _ n34])
  rw [← eW]
  clear eW zA zB za0 zb0 za1 zb1 za2 zb2 za3 zb3 za4 zb4 za5 zb5 za6 zb6 za7 zb7 za8 zb8 za9 zb9 za10 zb10 zfA zfB b1 b3 M9
  refine NoPanic.normal ?_
  have c0 := HA.at_ 0
  have c1 := HA.at_ 1
  have c2 := HA.at_ 2
  have c3 := HA.at_ 3
  have c4 := HA.at_ 4
  have c5 := HA.at_ 5
  have c6 := HA.at_ 6
  have c7 := HA.at_ 7
  have c8 := HA.at_ 8
  have c9 := HA.at_ 9
  have c10 := HA.at_ 10
  have d0 := HB.at_ 0
  have d1 := HB.at_ 1
  have d2 := HB.at_ 2
  have d3 := HB.at_ 3
  have d4 := HB.at_ 4
  have d5 := HB.at_ 5
  have d6 := HB.at_ 6
  have d7 := HB.at_ 7
  have d8 := HB.at_ 8
  have d9 := HB.at_ 9
  have d10 := HB.at_ 10
  simp at c0 d0 c1 d1 c2 d2 c3 d3 c4 d4 c5 d5 c6 d6 c7 d7 c8 d8 c9 d9 c10 d10
  have lgA := HA.here
  have lgB := HB.here
  have HHA := hid HA; have HHB := hid HB
  clear HA HB
  go_wp2_with fail
  refine (HOf.out _ _ _ HBa.out HBb.out).mono ?_
  rintro e w10 ⟨po, cp, rfl, hpt, hfr, kf⟩
  have c0 := kf.reads (c0)
  have c1 := kf.reads (c1)
  have c2 := kf.reads (c2)
  have c3 := kf.reads (c3)
  have c4 := kf.reads (c4)
  have c5 := kf.reads (c5)
  have c6 := kf.reads (c6)
  have c7 := kf.reads (c7)
  have c8 := kf.reads (c8)
  have c9 := kf.reads (c9)
  have c10 := kf.reads (c10)
  have d0 := kf.reads (d0)
  have d1 := kf.reads (d1)
  have d2 := kf.reads (d2)
  have d3 := kf.reads (d3)
  have d4 := kf.reads (d4)
  have d5 := kf.reads (d5)
  have d6 := kf.reads (d6)
  have d7 := kf.reads (d7)
  have d8 := kf.reads (d8)
  have d9 := kf.reads (d9)
  have d10 := kf.reads (d10)
  have HPt := hid hpt
  have HBa : Hid (BodyAt w10 X Y A K R (.slice (ao pA) sn (ac eA)) bd) := HBa.out.kept kf
  have HBb : Hid (BodyAt w10 X2 Y2 A2 K2 R2 (.slice (ao2 pB) sn2 (ac2 eB)) bd2) := HBb.out.kept kf
  have M10 : Hid (Made w.heap.size w w10) := Me.out.then_ (kf.low Me.out.1.size)
  clear kf hpt hfr HHA HHB
  simp only [EL.out]
  go_upto_region 5 with fail
  obtain ⟨Wn, eW⟩ : ∃ V, V = w10.alloc (.cells #[.int .i64 nx, .int .i64 ny, .slice po len cp] 38) := ⟨_, rfl⟩
  have kk : Made w10.heap.size w10 Wn := by rw [eW]; exact (Made.rfl_ _ _).cells (Nat.le_refl _) _ _
  have t0 : Wn.cell? ⟨w10.heap.size, 0, none⟩ = some (.int .i64 nx) := by rw [eW]; go_simp
  have t1 : Wn.cell? ⟨w10.heap.size, 1, none⟩ = some (.int .i64 ny) := by rw [eW]; go_simp
  have t2 : Wn.cell? ⟨w10.heap.size, 2, none⟩ = some (.slice po len cp) := by rw [eW]; go_simp
  have c0 := kk.reads (c0)
  have c1 := kk.reads (c1)
  have c2 := kk.reads (c2)
  have c3 := kk.reads (c3)
  have c4 := kk.reads (c4)
  have c5 := kk.reads (c5)
  have c6 := kk.reads (c6)
  have c7 := kk.reads (c7)
  have c8 := kk.reads (c8)
  have c9 := kk.reads (c9)
  have c10 := kk.reads (c10)
  have d0 := kk.reads (d0)
  have d1 := kk.reads (d1)
  have d2 := kk.reads (d2)
  have d3 := kk.reads (d3)
  have d4 := kk.reads (d4)
  have d5 := kk.reads (d5)
  have d6 := kk.reads (d6)
  have d7 := kk.reads (d7)
  have d8 := kk.reads (d8)
  have d9 := kk.reads (d9)
  have d10 := kk.reads (d10)
  have HPt : Hid (PtsT Wn po l) := HPt.out.kept kk
  have HBa : Hid (BodyAt Wn X Y A K R (.slice (ao pA) sn (ac eA)) bd) := HBa.out.kept kk
  have HBb : Hid (BodyAt Wn X2 Y2 A2 K2 R2 (.slice (ao2 pB) sn2 (ac2 eB)) bd2) := HBb.out.kept kk
  have Mn : Hid (Made w.heap.size w Wn) := M10.out.then_ (kk.low M10.out.1.size)
  have ltn : w10.heap.size < Wn.heap.size := World.block_lt_of_cell? _ _ t0
  rw [← eW]
  clear eW kk M10
  have l1 : decide ((len : Int) < 1) = false := decide_eq_false (by omega)
  have l2 : decide ((2 : Int) < (len : Int)) = false := decide_eq_false (by omega)
  go_upto_region 7 with fail
  have KA := hid (fun v (k : Made Wn.heap.size Wn v) => HO1.out v pA eA (HBa.out.kept k))
  have KB := hid (fun v (k : Made Wn.heap.size Wn v) => HO2.out v pB eB (HBb.out.kept k))
  refine reg_made (by kernel_rfl) (by kernel_rfl) ?_
  intro Ty hT fw hf
  have c0 := Class.reads hf c0
  have c1 := Class.reads hf c1
  have c2 := Class.reads hf c2
  have c3 := Class.reads hf c3
  have c4 := Class.reads hf c4
  have c5 := Class.reads hf c5
  have c6 := Class.reads hf c6
  have c7 := Class.reads hf c7
  have c8 := Class.reads hf c8
  have c9 := Class.reads hf c9
  have c10 := Class.reads hf c10
  have d0 := Class.reads hf d0
  have d1 := Class.reads hf d1
  have d2 := Class.reads hf d2
  have d3 := Class.reads hf d3
  have d4 := Class.reads hf d4
  have d5 := Class.reads hf d5
  have d6 := Class.reads hf d6
  have d7 := Class.reads hf d7
  have d8 := Class.reads hf d8
  have d9 := Class.reads hf d9
  have d10 := Class.reads hf d10
  have u2 := Class.reads hf t2
  have HA_ := hid (fun t => hf.made (KA.out _ (hf.1 t)))
  have HB_ := hid (fun t => hf.made (KB.out _ (hf.1 t)))
  repeat (go_big_quiet_step ((first
    | (go_at_call 14; with_reducible first | exact HA_.out _ | exact HB_.out _)
    | (go_at_call 13; with_reducible exact hf.made (HGr.out _))
    | (go_at_call 12; with_reducible exact hf.made (HMe.out _)))))
  refine wpQuiet_nil ?_
  intro w11 h11
  have k11 := hf.here h11
  have t0 := k11.reads t0
  have t2 := k11.reads t2
  have HPt : Hid (PtsT w11 po l) := HPt.out.kept k11
  have M11 : Hid (Made w.heap.size w w11) := Mn.out.then_ (k11.low Mn.out.1.size)
  have lt11 : w10.heap.size < w11.heap.size := World.block_lt_of_cell? _ _ t0
  have lww : w.heap.size ≤ w11.heap.size := M11.out.1.size
  clear k11 h11 hf u2 l1 l2 HA_ HB_ KA KB c0 c1 c2 c3 c4 c5 c6 c7 c8 c9 c10 d0 d1 d2 d3 d4 d5 d6 d7 d8 d9 d10
  go_upto_region 9 with fail
  have S2 := hid t2
  have T0 := hid t0
  go_wp2_with fail
  clear t0 t2
  go_loopg [57] len (fun gg j wr => ∃ q : Nat, q + gg = len ∧ j = .int .i64 q ∧ Hid (Made w11.heap.size w11 wr))
  case atStart => exact ⟨0, by omega, rfl, Made.rfl_ _ _⟩
  case round =>
    obtain ⟨q, hq, rfl, HM⟩ := hrel
    by_cases hlt : q < len
    · obtain ⟨p, hp⟩ : ∃ p, l[q]? = some p := ⟨_, List.getElem?_eq_getElem (by rw [EL.out]; exact hlt)⟩
      obtain ⟨p0, hp0⟩ : ∃ p, l[0]? = some p := ⟨_, List.getElem?_eq_getElem (by rw [EL.out]; omega)⟩
      obtain ⟨⟨gd, gk_⟩, gu⟩ := HG.out q p hp
      have gu' : q ≠ 0 → p.k ≠ p0.k := fun h => gu h p0 hp0
      obtain ⟨ba, oa, ea, ha⟩ := HPt.out.kept HM.out (by rw [EL.out]; omega)
      obtain ⟨x0, x1, x2, x3⟩ := ha q _ hp
      obtain ⟨y0, y1, y2, y3⟩ := ha 0 _ hp0
      obtain ⟨px, py, pd, pk⟩ := p
      obtain ⟨rx, ry, rd, rk⟩ := p0
      simp only [Nat.zero_mul, Nat.add_zero] at x0 x1 x2 x3 y0 y1 y2 y3 gd gk_ gu'
      have s2 := HM.out.reads S2.out
      subst ea
      clear ha hp hp0 gu
      go_upto_region 12 with fail
      obtain ⟨Wp, eW⟩ : ∃ V, V = wr.alloc (.cells #[.int .i64 px, .int .i64 py, .int .i64 pd, .int .i64 pk] 47) := ⟨_, rfl⟩
      have f0 : Wp.cell? ⟨wr.heap.size, 0, none⟩ = some (.int .i64 px) := by rw [eW]; go_simp
      have f1 : Wp.cell? ⟨wr.heap.size, 1, none⟩ = some (.int .i64 py) := by rw [eW]; go_simp
      have f2 : Wp.cell? ⟨wr.heap.size, 2, none⟩ = some (.int .i64 pd) := by rw [eW]; go_simp
      have f3 : Wp.cell? ⟨wr.heap.size, 3, none⟩ = some (.int .i64 pk) := by rw [eW]; go_simp
      have e2 : Wp.cell? ⟨ba, oa + 2, none⟩ = some (.int .i64 rd) := by rw [eW]; exact cell_more y2
      have e3 : Wp.cell? ⟨ba, oa + 3, none⟩ = some (.int .i64 rk) := by rw [eW]; exact cell_more y3
      have s3 : Wp.cell? ⟨w10.heap.size, 2, none⟩ = some (.slice (some ⟨ba, oa, none⟩) len cp) := by rw [eW]; exact cell_more s2
      have Mp : Hid (Made w11.heap.size w11 Wp) := by unfold Hid; rw [eW]; exact HM.out.cells HM.out.1.size _ _
      rw [← eW]
      clear eW x0 x1 x2 x3 y0 y1 y2 y3 s2
      have z1 : decide (pd ≤ 0) = false := decide_eq_false (by omega)
      have z2 : decide (pk < 0) = false := decide_eq_false (by omega)
      have hq0 : q = 0 ∨ (q = 1 ∧ (pk == rk) = false) := by
        by_cases h : q = 0
        · exact .inl h
        · exact .inr ⟨by omega, by simpa using gu' h⟩
      have n0 : 0 < len := by omega
      rcases hq0 with hq0 | ⟨hq0, z4⟩
      · subst hq0
        refine reg_made (by kernel_rfl) (by kernel_rfl) ?_
        intro Ty hT fw hf
        have f0' := Class.reads hf f0
        have f1' := Class.reads hf f1
        have f2' := Class.reads hf f2
        have f3' := Class.reads hf f3
        have e2' := Class.reads hf e2
        have e3' := Class.reads hf e3
        have s3' := Class.reads hf s3
        repeat (go_big_quiet_step (fail))
        refine wpQuiet_nil ?_
        intro w3 h3
        have M3 : Hid (Made w11.heap.size w11 w3) := Mp.out.then_ ((hf.here h3).low Mp.out.1.size)
        clear h3 hf f0 f1 f2 f3 e2 e3 s3 f0' f1' f2' f3' e2' e3' s3'
        go_wp2_with fail
        go_roundg (len - 0 - 1)
        case rel => exact ⟨0 + 1, by omega, by go_num, M3⟩
        case measure => omega
      · subst hq0
        refine reg_made (by kernel_rfl) (by kernel_rfl) ?_
        intro Ty hT fw hf
        have f0' := Class.reads hf f0
        have f1' := Class.reads hf f1
        have f2' := Class.reads hf f2
        have f3' := Class.reads hf f3
        have e2' := Class.reads hf e2
        have e3' := Class.reads hf e3
        have s3' := Class.reads hf s3
        repeat (go_big_quiet_step (fail))
        refine wpQuiet_nil ?_
        intro w3 h3
        have M3 : Hid (Made w11.heap.size w11 w3) := Mp.out.then_ ((hf.here h3).low Mp.out.1.size)
        clear h3 hf f0 f1 f2 f3 e2 e3 s3 f0' f1' f2' f3' e2' e3' s3'
        go_wp2_with fail
        go_roundg (len - 1 - 1)
        case rel => exact ⟨1 + 1, by omega, by go_num, M3⟩
        case measure => omega
    · go_wp2_with fail
      go_ret
      exact ⟨rfl, M11.out.then_ (HM.out.low lww)⟩
end Go.Proofs.Ytmfkcdinfahjlaa.Fx

/- TouchDeep: the walk and what package touch answers, together. -/
namespace Go.Proofs.Ytmfkcdinfahjlaa.Fx
open Go.ChangeShapes Go.WideShapes Go.ChangeAt Go.RowKit
theorem tdeep_walk (TS : TouchSays) (a b c d x y an a2 b2 c2 d2 x2 y2 an2 : Int) (w : World) (ix : I64 x) (iy : I64 y) (ix2 : I64 x2) (iy2 : I64 y2) :
    Calls Try.prog 3 #[placeV a b c d x y an, placeV a2 b2 c2 d2 x2 y2 an2] w fun e w' => e = .returned (.bool true) ∧ Made w.heap.size w w' := by
  obtain ⟨X, Y, A, K, R, ao, sn, ac, bd, hW1, hB1⟩ := place_is a b c d x y an ix iy
  obtain ⟨X2, Y2, A2, K2, R2, ao2, sn2, ac2, bd2, hW2, hB2⟩ := place_is a2 b2 c2 d2 x2 y2 an2 ix2 iy2
  by_cases h : wantF bd bd2 = none
  · exact tdeep_none TS a b c d x y an a2 b2 c2 d2 x2 y2 an2 w ix iy ix2 iy2 X Y A K R X2 Y2 A2 K2 R2 ao ao2 sn sn2 ac ac2 bd bd2 hW1 hW2 hB1 hB2 h
  · exact tdeep_some TS a b c d x y an a2 b2 c2 d2 x2 y2 an2 w ix iy ix2 iy2 X Y A K R X2 Y2 A2 K2 R2 ao ao2 sn sn2 ac ac2 bd bd2 hW1 hW2 hB1 hB2 h
end Go.Proofs.Ytmfkcdinfahjlaa.Fx
