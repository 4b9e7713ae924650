/- TouchTurned: the walk, but of two polygons. -/
import Derived.Test.YtckgpkbdckpcmaaTuF
import Derived.Test.YtckgpkbdckpcmaaTuG
import Derived.Test.YtckgpkbdckpcmaaTuP
import Derived.Test.YtckgpkbdckpcmaaTuA
import Derived.Test.YtckgpkbdckpcmaaTouchY
namespace Go.Proofs.Ytckgpkbdckpcmaa.Fx
open Go.ChangeShapes Go.WideShapes Go.ChangeAt Go.RowKit
set_option linter.unusedVariables false

set_option maxRecDepth 100000 in
set_option maxHeartbeats 8000000 in
theorem tturned_diff (TS : TouchSays) (a b c d x y an a2 b2 c2 d2 x2 y2 an2 : Int) (w : World) (ix : I64 x) (iy : I64 y) (ix2 : I64 x2) (iy2 : I64 y2) (X Y A K R X2 Y2 A2 K2 R2 : Int) (ao ao2 : Nat → Option Addr) (sn sn2 : Nat) (ac ac2 : Nat → Nat) (bd bd2 : Bdy) (hW1 : PlaceW X Y A K R ao sn ac bd) (hW2 : PlaceW X2 Y2 A2 K2 R2 ao2 sn2 ac2 bd2)
    (hB1 : ∀ w, Calls Try.prog 10 #[placeV a b c d x y an] w fun e w' => ∃ g e', e = .returned (bodyV 0 X Y 0 0 A 0 0 K R (.slice (ao g) sn (ac e'))) ∧ w.heap.size ≤ g ∧ g < w'.heap.size ∧ BodyAt w' X Y A K R (.slice (ao g) sn (ac e')) bd ∧ Made w.heap.size w w')
    (hB2 : ∀ w, Calls Try.prog 10 #[placeV a2 b2 c2 d2 x2 y2 an2] w fun e w' => ∃ g e', e = .returned (bodyV 0 X2 Y2 0 0 A2 0 0 K2 R2 (.slice (ao2 g) sn2 (ac2 e'))) ∧ w.heap.size ≤ g ∧ g < w'.heap.size ∧ BodyAt w' X2 Y2 A2 K2 R2 (.slice (ao2 g) sn2 (ac2 e')) bd2 ∧ Made w.heap.size w w')
    (hK : K ≠ K2) (hT : (wantF bd2 bd).isSome = (wantF bd bd2).isSome ∧ ((wantF bd2 bd).getD noTch).nx = negF ((wantF bd bd2).getD noTch).nx ∧ ((wantF bd2 bd).getD noTch).ny = negF ((wantF bd bd2).getD noTch).ny ∧ ((wantF bd2 bd).getD noTch).pts = ((wantF bd bd2).getD noTch).pts) (hI : I64 ((wantF bd bd2).getD noTch).nx ∧ I64 ((wantF bd bd2).getD noTch).ny) :
    Calls Try.prog 8 #[placeV a b c d x y an, placeV a2 b2 c2 d2 x2 y2 an2] w fun e w' => e = .returned (.bool true) ∧ Made w.heap.size w w' := by
  have HB1 := hid hB1; have HB2 := hid hB2; have HW1 := hid hW1; have HW2 := hid hW2
  have HFit := hid (tfit_is TS)
  clear hB1 hB2 hW1 hW2
  obtain ⟨t, et⟩ : ∃ t, wantF bd bd2 = t := ⟨_, rfl⟩
  obtain ⟨nx, enx⟩ : ∃ z, (t.getD noTch).nx = z := ⟨_, rfl⟩
  obtain ⟨ny, eny⟩ : ∃ z, (t.getD noTch).ny = z := ⟨_, rfl⟩
  obtain ⟨l, el⟩ : ∃ z, (t.getD noTch).pts = z := ⟨_, rfl⟩
  obtain ⟨ok, eok⟩ : ∃ z, t.isSome = z := ⟨_, rfl⟩
  have hl2 : l.length ≤ 2 := by rw [← el, ← et]; exact pts_two _ _
  have HOf : Hid (OfF X Y A K R X2 Y2 A2 K2 R2 bd bd2 nx ny l ok) := of_fresh et enx eny el eok
  obtain ⟨u, eu⟩ : ∃ t, wantF bd2 bd = t := ⟨_, rfl⟩
  obtain ⟨mx, emx⟩ : ∃ z, (u.getD noTch).nx = z := ⟨_, rfl⟩
  obtain ⟨my, emy⟩ : ∃ z, (u.getD noTch).ny = z := ⟨_, rfl⟩
  obtain ⟨l2, el2⟩ : ∃ z, (u.getD noTch).pts = z := ⟨_, rfl⟩
  obtain ⟨is, eis⟩ : ∃ z, u.isSome = z := ⟨_, rfl⟩
  have HOg : Hid (OfF X2 Y2 A2 K2 R2 X Y A K R bd2 bd mx my l2 is) := of_fresh eu emx emy el2 eis
  rw [et, eu, eis, eok, emx, emy, enx, eny, el2, el] at hT
  obtain ⟨hok, h1, h2, hll⟩ := hT
  subst hok
  subst hll
  rw [et, enx, eny] at hI
  obtain ⟨inx, iny⟩ := hI
  have EMX : Hid (negF nx = mx) := h1.symm
  have EMY : Hid (negF ny = my) := h2.symm
  have gK : (K == K2) = false := by simpa using hK
  have hl8 : l2.length ≤ 8 := by omega
  clear et enx eny el eok eu emx emy el2 eis TS h1 h2 hK
  go_enter Try.func8, Try.ntmps8
  go_wp2_with fail
  refine (HFit.out _).mono ?_
  rintro e w1 ⟨rfl, k1⟩
  have p0 := k1.reads (p := ⟨w.heap.size, 0, none⟩) (x := .int .i64 a) (by go_simp)
  have p1 := k1.reads (p := ⟨w.heap.size, 1, none⟩) (x := .int .i64 b) (by go_simp)
  have p2 := k1.reads (p := ⟨w.heap.size, 2, none⟩) (x := .int .i64 c) (by go_simp)
  have p3 := k1.reads (p := ⟨w.heap.size, 3, none⟩) (x := .int .i64 d) (by go_simp)
  have p4 := k1.reads (p := ⟨w.heap.size, 4, none⟩) (x := .int .i64 x) (by go_simp)
  have p5 := k1.reads (p := ⟨w.heap.size, 5, none⟩) (x := .int .i64 y) (by go_simp)
  have p6 := k1.reads (p := ⟨w.heap.size, 6, none⟩) (x := .int .i64 an) (by go_simp)
  have q0 := k1.reads (p := ⟨w.heap.size + 1, 0, none⟩) (x := .int .i64 a2) (by go_simp)
  have q1 := k1.reads (p := ⟨w.heap.size + 1, 1, none⟩) (x := .int .i64 b2) (by go_simp)
  have q2 := k1.reads (p := ⟨w.heap.size + 1, 2, none⟩) (x := .int .i64 c2) (by go_simp)
  have q3 := k1.reads (p := ⟨w.heap.size + 1, 3, none⟩) (x := .int .i64 d2) (by go_simp)
  have q4 := k1.reads (p := ⟨w.heap.size + 1, 4, none⟩) (x := .int .i64 x2) (by go_simp)
  have q5 := k1.reads (p := ⟨w.heap.size + 1, 5, none⟩) (x := .int .i64 y2) (by go_simp)
  have q6 := k1.reads (p := ⟨w.heap.size + 1, 6, none⟩) (x := .int .i64 an2) (by go_simp)
  have M1 : Hid (Made w.heap.size w w1) := (made_box (made_box k1))
  clear k1 HFit
  go_upto_region 3 with fail
  have mk1 : Hid (∀ (G : Nat → Option (Nat × Nat)) (u : World), MK.Cm w1 (alB (fun v g e => BodyAt v X Y A K R (.slice (ao g) sn (ac e)) bd) (fun v g e => BodyAt v X2 Y2 A2 K2 R2 (.slice (ao2 g) sn2 (ac2 e)) bd2)) G u → MK.MkUpon Try.prog w1 (alB (fun v g e => BodyAt v X Y A K R (.slice (ao g) sn (ac e)) bd) (fun v g e => BodyAt v X2 Y2 A2 K2 R2 (.slice (ao2 g) sn2 (ac2 e)) bd2)) (valB (fun g e => bodyV 0 X Y 0 0 A 0 0 K R (.slice (ao g) sn (ac e))) (fun g e => bodyV 0 X2 Y2 0 0 A2 0 0 K2 R2 (.slice (ao2 g) sn2 (ac2 e)))) 1 G (.ok (.enter 10 #[placeV a b c d x y an]) u)) := by
    intro G u hu
    refine (HB1.out u).mono ?_
    rintro e u' ⟨p, e', rfl, hp1, hp2, ho, kk⟩
    exact ⟨p, e', rfl, hu.next (alB_lasts (fun _ _ _ _ h k => h.kept k) (fun _ _ _ _ h k => h.kept k)) kk hp1 hp2 ho⟩
  have mk3 : Hid (∀ (G : Nat → Option (Nat × Nat)) (u : World), MK.Cm w1 (alB (fun v g e => BodyAt v X Y A K R (.slice (ao g) sn (ac e)) bd) (fun v g e => BodyAt v X2 Y2 A2 K2 R2 (.slice (ao2 g) sn2 (ac2 e)) bd2)) G u → MK.MkUpon Try.prog w1 (alB (fun v g e => BodyAt v X Y A K R (.slice (ao g) sn (ac e)) bd) (fun v g e => BodyAt v X2 Y2 A2 K2 R2 (.slice (ao2 g) sn2 (ac2 e)) bd2)) (valB (fun g e => bodyV 0 X Y 0 0 A 0 0 K R (.slice (ao g) sn (ac e))) (fun g e => bodyV 0 X2 Y2 0 0 A2 0 0 K2 R2 (.slice (ao2 g) sn2 (ac2 e)))) 3 G (.ok (.enter 10 #[placeV a2 b2 c2 d2 x2 y2 an2]) u)) := by
    intro G u hu
    refine (HB2.out u).mono ?_
    rintro e u' ⟨p, e', rfl, hp1, hp2, ho, kk⟩
    exact ⟨p, e', rfl, hu.next (alB_lasts (fun _ _ _ _ h k => h.kept k) (fun _ _ _ _ h k => h.kept k)) kk hp1 hp2 ho⟩
  refine MK.reg_mk (alB (fun v g e => BodyAt v X Y A K R (.slice (ao g) sn (ac e)) bd) (fun v g e => BodyAt v X2 Y2 A2 K2 R2 (.slice (ao2 g) sn2 (ac2 e)) bd2)) 6 [0, 2, 1, 3, 4, 5] [0, 2] [1, 3, 4, 5] [] (fun _ => []) (val := (valB (fun g e => bodyV 0 X Y 0 0 A 0 0 K R (.slice (ao g) sn (ac e))) (fun g e => bodyV 0 X2 Y2 0 0 A2 0 0 K2 R2 (.slice (ao2 g) sn2 (ac2 e))))) (by kernel_rfl) (by kernel_rfl) (fun p hp => absurd hp (by simp)) ?_
  refine MK.can_class (rest := [1, 3, 4, 5]) [0, 2] [] 149 (alB_lasts (fun _ _ _ _ h k => h.kept k) (fun _ _ _ _ h k => h.kept k)) (MK.any_class _) (by kernel_rfl) rfl (by kernel_rfl) (by kernel_rfl) ?_
  apply Exists.intro
  refine ⟨?q1, ?q2⟩
  case q1 =>
    intro Ty hT fw hf _
    have p0 := Class.reads hf p0
    have p1 := Class.reads hf p1
    have p2 := Class.reads hf p2
    have p3 := Class.reads hf p3
    have p4 := Class.reads hf p4
    have p5 := Class.reads hf p5
    have p6 := Class.reads hf p6
    have q0 := Class.reads hf q0
    have q1 := Class.reads hf q1
    have q2 := Class.reads hf q2
    have q3 := Class.reads hf q3
    have q4 := Class.reads hf q4
    have q5 := Class.reads hf q5
    have q6 := Class.reads hf q6
    change wpQuiet _ _ _ _ [_, _] _
    repeat (go_big_quiet_step (fail))
    exact wpQuiet_nil rfl
  refine MK.can_mk 1 19 _ rfl rfl rfl rfl ?m1 fun pA eA => ?m2
  case m1 =>
    intro G' u _ hu
    rw [show (execOp _ _).run Try.prog u = .ok (.enter 10 #[placeV a b c d x y an]) u by kernel_rfl]
    exact mk1.out G' u hu
  rw [show (valB (fun g e => bodyV 0 X Y 0 0 A 0 0 K R (.slice (ao g) sn (ac e))) (fun g e => bodyV 0 X2 Y2 0 0 A2 0 0 K2 R2 (.slice (ao2 g) sn2 (ac2 e)))) 1 pA eA = bodyV 0 X Y 0 0 A 0 0 K R (.slice (ao pA) sn (ac eA)) from rfl]
  simp only [Act.put, List.setIfInBounds_toArray, List.set_cons_succ, List.set_cons_zero]
  refine MK.can_mk 3 21 _ rfl rfl rfl rfl ?m3 fun pB eB => ?m4
  case m3 =>
    intro G' u _ hu
    rw [show (execOp _ _).run Try.prog u = .ok (.enter 10 #[placeV a2 b2 c2 d2 x2 y2 an2]) u by kernel_rfl]
    exact mk3.out G' u hu
  rw [show (valB (fun g e => bodyV 0 X Y 0 0 A 0 0 K R (.slice (ao g) sn (ac e))) (fun g e => bodyV 0 X2 Y2 0 0 A2 0 0 K2 R2 (.slice (ao2 g) sn2 (ac2 e)))) 3 pB eB = bodyV 0 X2 Y2 0 0 A2 0 0 K2 R2 (.slice (ao2 pB) sn2 (ac2 eB)) from rfl]
  simp only [Act.put, List.setIfInBounds_toArray, List.set_cons_succ, List.set_cons_zero]
  refine MK.can_mk 4 5 _ rfl rfl rfl rfl ?m5 fun gA hA => ?m6
  case m5 =>
    intro G' u _ hu
    rw [show (execOp _ _).run Try.prog u = .ok (.value (.pointer (some ⟨u.heap.size, 0, none⟩))) (u.alloc (.cells #[.int .i64 0, .int .i64 0, .int .i64 0, .int .i64 0, .int .i64 0, .int .i64 0, .int .i64 0, .int .i64 0, .int .i64 0, .int .i64 0, .slice none 0 0] 34)) by kernel_rfl]
    exact ⟨u.heap.size, 0, rfl, hu.next (alB_lasts (fun _ _ _ _ h k => h.kept k) (fun _ _ _ _ h k => h.kept k)) ((Made.rfl_ _ _).cells (Nat.le_refl _) _ _) (Nat.le_refl _) (by simp) (has_new _ _ _)⟩
  rw [show (valB (fun g e => bodyV 0 X Y 0 0 A 0 0 K R (.slice (ao g) sn (ac e))) (fun g e => bodyV 0 X2 Y2 0 0 A2 0 0 K2 R2 (.slice (ao2 g) sn2 (ac2 e)))) 4 gA hA = .pointer (some ⟨gA, 0, none⟩) from rfl]
  simp only [Act.put, List.setIfInBounds_toArray, List.set_cons_succ, List.set_cons_zero]
  refine MK.can_mk 5 6 _ rfl rfl rfl rfl ?m7 fun gB hB => ?m8
  case m7 =>
    intro G' u _ hu
    rw [show (execOp _ _).run Try.prog u = .ok (.value (.pointer (some ⟨u.heap.size, 0, none⟩))) (u.alloc (.cells #[.int .i64 0, .int .i64 0, .int .i64 0, .int .i64 0, .int .i64 0, .int .i64 0, .int .i64 0, .int .i64 0, .int .i64 0, .int .i64 0, .slice none 0 0] 34)) by kernel_rfl]
    exact ⟨u.heap.size, 0, rfl, hu.next (alB_lasts (fun _ _ _ _ h k => h.kept k) (fun _ _ _ _ h k => h.kept k)) ((Made.rfl_ _ _).cells (Nat.le_refl _) _ _) (Nat.le_refl _) (by simp) (has_new _ _ _)⟩
  rw [show (valB (fun g e => bodyV 0 X Y 0 0 A 0 0 K R (.slice (ao g) sn (ac e))) (fun g e => bodyV 0 X2 Y2 0 0 A2 0 0 K2 R2 (.slice (ao2 g) sn2 (ac2 e)))) 5 gB hB = .pointer (some ⟨gB, 0, none⟩) from rfl]
  intro w9 hu
  have u1 : (MK.upd (MK.upd (MK.upd (MK.upd (fun _ => none) 1 (pA, eA)) 3 (pB, eB)) 4 (gA, hA)) 5 (gB, hB)) 1 = some (pA, eA) := by unfold MK.upd; simp
  have u3 : (MK.upd (MK.upd (MK.upd (MK.upd (fun _ => none) 1 (pA, eA)) 3 (pB, eB)) 4 (gA, hA)) 5 (gB, hB)) 3 = some (pB, eB) := by unfold MK.upd; simp
  have u4 : (MK.upd (MK.upd (MK.upd (MK.upd (fun _ => none) 1 (pA, eA)) 3 (pB, eB)) 4 (gA, hA)) 5 (gB, hB)) 4 = some (gA, hA) := by unfold MK.upd; simp
  have u5 : (MK.upd (MK.upd (MK.upd (MK.upd (fun _ => none) 1 (pA, eA)) 3 (pB, eB)) 4 (gA, hA)) 5 (gB, hB)) 5 = some (gB, hB) := by unfold MK.upd; simp
  obtain ⟨l1, m1, b1⟩ := hu.2.1 1 _ u1
  obtain ⟨l3, m3, b3⟩ := hu.2.1 3 _ u3
  obtain ⟨l4, m4, b4⟩ := hu.2.1 4 _ u4
  obtain ⟨l5, m5, b5⟩ := hu.2.1 5 _ u5
  have b1 : BodyAt w9 X Y A K R (.slice (ao pA) sn (ac eA)) bd := b1
  have b3 : BodyAt w9 X2 Y2 A2 K2 R2 (.slice (ao2 pB) sn2 (ac2 eB)) bd2 := b3
  have zA : Has w9 gA 34 #[.int .i64 0, .int .i64 0, .int .i64 0, .int .i64 0, .int .i64 0, .int .i64 0, .int .i64 0, .int .i64 0, .int .i64 0, .int .i64 0, .slice none 0 0] := b4
  have zB : Has w9 gB 34 #[.int .i64 0, .int .i64 0, .int .i64 0, .int .i64 0, .int .i64 0, .int .i64 0, .int .i64 0, .int .i64 0, .int .i64 0, .int .i64 0, .slice none 0 0] := b5
  have n14 : pA ≠ gA := fun e => by have := hu.2.2 1 4 _ _ u1 u4 e; omega
  have n15 : pA ≠ gB := fun e => by have := hu.2.2 1 5 _ _ u1 u5 e; omega
  have n34 : pB ≠ gA := fun e => by have := hu.2.2 3 4 _ _ u3 u4 e; omega
  have n35 : pB ≠ gB := fun e => by have := hu.2.2 3 5 _ _ u3 u5 e; omega
  have n45 : gA ≠ gB := fun e => by have := hu.2.2 4 5 _ _ u4 u5 e; omega
  have k9 := hu.1
  simp only [] at l1 l3 l4 l5
  have lw1 : w.heap.size ≤ w1.heap.size := M1.out.1.size
  have lwA : w.heap.size ≤ gA := by omega
  have lwB : w.heap.size ≤ gB := by omega
  have M9 : Hid (Made w.heap.size w w9) := M1.out.then_ (k9.low M1.out.1.size)
  clear k9 mk1 mk3 hu u1 u3 u4 u5 b4 b5 p0 p1 p2 p3 p4 p5 p6 q0 q1 q2 q3 q4 q5 q6 M1
  have za0 := zA.at_ 0
  have za1 := zA.at_ 1
  have za2 := zA.at_ 2
  have za3 := zA.at_ 3
  have za4 := zA.at_ 4
  have za5 := zA.at_ 5
  have za6 := zA.at_ 6
  have za7 := zA.at_ 7
  have za8 := zA.at_ 8
  have za9 := zA.at_ 9
  have za10 := zA.at_ 10
  have zb0 := zB.at_ 0
  have zb1 := zB.at_ 1
  have zb2 := zB.at_ 2
  have zb3 := zB.at_ 3
  have zb4 := zB.at_ 4
  have zb5 := zB.at_ 5
  have zb6 := zB.at_ 6
  have zb7 := zB.at_ 7
  have zb8 := zB.at_ 8
  have zb9 := zB.at_ 9
  have zb10 := zB.at_ 10
  simp at za0 zb0 za1 zb1 za2 zb2 za3 zb3 za4 zb4 za5 zb5 za6 zb6 za7 zb7 za8 zb8 za9 zb9 za10 zb10
  have zfA : ∀ i, w9.frozen? ⟨gA, i, none⟩ = false := fun i => zA.free i
  have zfB : ∀ i, w9.frozen? ⟨gB, i, none⟩ = false := fun i => zB.free i
  have n54 : gB ≠ gA := fun e => n45 e.symm
  simp only [List.drop_succ_cons, List.drop_zero]
  go_upto_region 4 with fail
  obtain ⟨We, eW⟩ : ∃ W, W = ((((((((((((((((((((((w9.setCell ⟨gA, 0, none⟩ (.int .i64 0)).setCell ⟨gA, 1, none⟩ (.int .i64 X)).setCell ⟨gA, 2, none⟩ (.int .i64 Y)).setCell ⟨gA, 3, none⟩ (.int .i64 0)).setCell ⟨gA, 4, none⟩ (.int .i64 0)).setCell ⟨gA, 5, none⟩ (.int .i64 A)).setCell ⟨gA, 6, none⟩ (.int .i64 0)).setCell ⟨gA, 7, none⟩ (.int .i64 0)).setCell ⟨gA, 8, none⟩ (.int .i64 K)).setCell ⟨gA, 9, none⟩ (.int .i64 R)).setCell ⟨gA, 10, none⟩ (.slice (ao pA) sn (ac eA))).setCell ⟨gB, 0, none⟩ (.int .i64 0)).setCell ⟨gB, 1, none⟩ (.int .i64 X2)).setCell ⟨gB, 2, none⟩ (.int .i64 Y2)).setCell ⟨gB, 3, none⟩ (.int .i64 0)).setCell ⟨gB, 4, none⟩ (.int .i64 0)).setCell ⟨gB, 5, none⟩ (.int .i64 A2)).setCell ⟨gB, 6, none⟩ (.int .i64 0)).setCell ⟨gB, 7, none⟩ (.int .i64 0)).setCell ⟨gB, 8, none⟩ (.int .i64 K2)).setCell ⟨gB, 9, none⟩ (.int .i64 R2)).setCell ⟨gB, 10, none⟩ (.slice (ao2 pB) sn2 (ac2 eB))) := ⟨_, rfl⟩
  have HA : Has We gA 34 #[.int .i64 0, .int .i64 X, .int .i64 Y, .int .i64 0, .int .i64 0, .int .i64 A, .int .i64 0, .int .i64 0, .int .i64 K, .int .i64 R, .slice (ao pA) sn (ac eA)] := by rw [eW]; exact has_put11 (zA.put11 _ _ _ _ _ _ _ _ _ _ _) n45 _ _ _ _ _ _ _ _ _ _ _
  have HB : Has We gB 34 #[.int .i64 0, .int .i64 X2, .int .i64 Y2, .int .i64 0, .int .i64 0, .int .i64 A2, .int .i64 0, .int .i64 0, .int .i64 K2, .int .i64 R2, .slice (ao2 pB) sn2 (ac2 eB)] := by rw [eW]; exact (has_put11 zB n54 _ _ _ _ _ _ _ _ _ _ _).put11 _ _ _ _ _ _ _ _ _ _ _
  have Me : Hid (Made w.heap.size w We) := by unfold Hid; rw [eW]; exact (M9.out.put11 lwA _ _ _ _ _ _ _ _ _ _ _).put11 lwB _ _ _ _ _ _ _ _ _ _ _
  have HBa : Hid (BodyAt We X Y A K R (.slice (ao pA) sn (ac eA)) bd) := b1.away (HW1.out.ao_ pA) (fun i => by rw [eW, cell_put11 _ _ _ _ n15, cell_put11 _ _ _ _ n14])
  have HBb : Hid (BodyAt We X2 Y2 A2 K2 R2 (.slice (ao2 pB) sn2 (ac2 eB)) bd2) := b3.away (HW2.out.ao_ pB) (fun i => by rw [eW, cell_put11 _ _ _ _ n35, cell_put11 _ _ _ _ n34])
  rw [← eW]
  clear eW zA zB za0 zb0 za1 zb1 za2 zb2 za3 zb3 za4 zb4 za5 zb5 za6 zb6 za7 zb7 za8 zb8 za9 zb9 za10 zb10 zfA zfB b1 b3 M9
  refine NoPanic.normal ?_
  have c0 := HA.at_ 0
  have c1 := HA.at_ 1
  have c2 := HA.at_ 2
  have c3 := HA.at_ 3
  have c4 := HA.at_ 4
  have c5 := HA.at_ 5
  have c6 := HA.at_ 6
  have c7 := HA.at_ 7
  have c8 := HA.at_ 8
  have c9 := HA.at_ 9
  have c10 := HA.at_ 10
  have d0 := HB.at_ 0
  have d1 := HB.at_ 1
  have d2 := HB.at_ 2
  have d3 := HB.at_ 3
  have d4 := HB.at_ 4
  have d5 := HB.at_ 5
  have d6 := HB.at_ 6
  have d7 := HB.at_ 7
  have d8 := HB.at_ 8
  have d9 := HB.at_ 9
  have d10 := HB.at_ 10
  simp at c0 d0 c1 d1 c2 d2 c3 d3 c4 d4 c5 d5 c6 d6 c7 d7 c8 d8 c9 d9 c10 d10
  have lgA := HA.here
  have lgB := HB.here
  have HHA := hid HA; have HHB := hid HB
  clear HA HB
  go_wp2_with fail
  refine (HOf.out _ _ _ HBa.out HBb.out).mono ?_
  rintro e w10 ⟨po, cp, rfl, hpt, hfr, kf⟩
  have c0 := kf.reads (c0)
  have c1 := kf.reads (c1)
  have c2 := kf.reads (c2)
  have c3 := kf.reads (c3)
  have c4 := kf.reads (c4)
  have c5 := kf.reads (c5)
  have c6 := kf.reads (c6)
  have c7 := kf.reads (c7)
  have c8 := kf.reads (c8)
  have c9 := kf.reads (c9)
  have c10 := kf.reads (c10)
  have d0 := kf.reads (d0)
  have d1 := kf.reads (d1)
  have d2 := kf.reads (d2)
  have d3 := kf.reads (d3)
  have d4 := kf.reads (d4)
  have d5 := kf.reads (d5)
  have d6 := kf.reads (d6)
  have d7 := kf.reads (d7)
  have d8 := kf.reads (d8)
  have d9 := kf.reads (d9)
  have d10 := kf.reads (d10)
  have HPt := hid hpt
  have HNb : Hid (0 < l2.length → ∀ g off, po = some ⟨g, off, none⟩ → g ≠ w10.heap.size) := fun hl g off e => Nat.ne_of_lt (hpt.low hl g off e)
  have HBa : Hid (BodyAt w10 X Y A K R (.slice (ao pA) sn (ac eA)) bd) := HBa.out.kept kf
  have HBb : Hid (BodyAt w10 X2 Y2 A2 K2 R2 (.slice (ao2 pB) sn2 (ac2 eB)) bd2) := HBb.out.kept kf
  have Mw10 : Hid (Made w.heap.size w w10) := Me.out.then_ (kf.low Me.out.1.size)
  have lgA : gA < w10.heap.size := World.block_lt_of_cell? _ _ c0
  have lgB : gB < w10.heap.size := World.block_lt_of_cell? _ _ d0
  clear kf hpt hfr
  go_wp2_with fail
  refine (HOg.out _ _ _ (HBb.out.kept ((Made.rfl_ _ _).cells (Nat.le_refl _) _ _)) (HBa.out.kept ((Made.rfl_ _ _).cells (Nat.le_refl _) _ _))).mono ?_
  rintro e w11 ⟨po2, cp2, rfl, hpt, hfr, kf⟩
  have t0 := kf.reads (p := ⟨w10.heap.size, 0, none⟩) (x := .int .i64 nx) (by go_simp)
  have t1 := kf.reads (p := ⟨w10.heap.size, 1, none⟩) (x := .int .i64 ny) (by go_simp)
  have t2 := kf.reads (p := ⟨w10.heap.size, 2, none⟩) (x := .slice po l2.length cp) (by go_simp)
  have tf : ∀ i, w11.frozen? ⟨w10.heap.size, i, none⟩ = false := fun i => (kf.2 _).trans (by go_simp)
  have c0 := kf.reads (cell_more c0)
  have c1 := kf.reads (cell_more c1)
  have c2 := kf.reads (cell_more c2)
  have c3 := kf.reads (cell_more c3)
  have c4 := kf.reads (cell_more c4)
  have c5 := kf.reads (cell_more c5)
  have c6 := kf.reads (cell_more c6)
  have c7 := kf.reads (cell_more c7)
  have c8 := kf.reads (cell_more c8)
  have c9 := kf.reads (cell_more c9)
  have c10 := kf.reads (cell_more c10)
  have d0 := kf.reads (cell_more d0)
  have d1 := kf.reads (cell_more d1)
  have d2 := kf.reads (cell_more d2)
  have d3 := kf.reads (cell_more d3)
  have d4 := kf.reads (cell_more d4)
  have d5 := kf.reads (cell_more d5)
  have d6 := kf.reads (cell_more d6)
  have d7 := kf.reads (cell_more d7)
  have d8 := kf.reads (cell_more d8)
  have d9 := kf.reads (cell_more d9)
  have d10 := kf.reads (cell_more d10)
  have HPt1 : Hid (PtsT w11 po l2) := (HPt.out.kept ((Made.rfl_ _ _).cells (Nat.le_refl _) _ _)).kept kf
  have HPt2 := hid hpt
  have HNb2 : Hid (0 < l2.length → ∀ g off, po2 = some ⟨g, off, none⟩ → g ≠ w10.heap.size) := fun hl g off e => by
    have := hfr g off e
    simp at this
    omega
  have HBa : Hid (BodyAt w11 X Y A K R (.slice (ao pA) sn (ac eA)) bd) := (HBa.out.kept ((Made.rfl_ _ _).cells (Nat.le_refl _) _ _)).kept kf
  have HBb : Hid (BodyAt w11 X2 Y2 A2 K2 R2 (.slice (ao2 pB) sn2 (ac2 eB)) bd2) := (HBb.out.kept ((Made.rfl_ _ _).cells (Nat.le_refl _) _ _)).kept kf
  have M11 : Hid (Made w.heap.size w w11) := Mw10.out.then_ ((made_box kf).low Mw10.out.1.size)
  have lt11 : w10.heap.size < w11.heap.size := World.block_lt_of_cell? _ _ t0
  have lgA : gA < w11.heap.size := World.block_lt_of_cell? _ _ c0
  have lgB : gB < w11.heap.size := World.block_lt_of_cell? _ _ d0
  have lww : w.heap.size ≤ w10.heap.size := Mw10.out.1.size
  clear kf hpt hfr
  go_wp2_with fail
  refine (vneg_is _ _ _ _ _ inx iny EMX.out EMY.out).mono ?_
  rintro e w12 ⟨rfl, kf⟩
  have t0 := kf.reads (cell_more t0)
  have t1 := kf.reads (cell_more t1)
  have t2 := kf.reads (cell_more t2)
  have tf : ∀ i, w12.frozen? ⟨w10.heap.size, i, none⟩ = false := fun i => (kf.2 _).trans ((frozen?_alloc_cells _ _ _ _).trans (tf i))
  have s0 := kf.reads (p := ⟨w11.heap.size, 0, none⟩) (x := .int .i64 mx) (by go_simp)
  have s1 := kf.reads (p := ⟨w11.heap.size, 1, none⟩) (x := .int .i64 my) (by go_simp)
  have s2 := kf.reads (p := ⟨w11.heap.size, 2, none⟩) (x := .slice po2 l2.length cp2) (by go_simp)
  have HPt1 : Hid (PtsT w12 po l2) := (HPt1.out.kept ((Made.rfl_ _ _).cells (Nat.le_refl _) _ _)).kept kf
  have HPt2 : Hid (PtsT w12 po2 l2) := (HPt2.out.kept ((Made.rfl_ _ _).cells (Nat.le_refl _) _ _)).kept kf
  have M12 : Hid (Made w.heap.size w w12) := M11.out.then_ ((made_box kf).low M11.out.1.size)
  have lt12 : w10.heap.size < w12.heap.size := World.block_lt_of_cell? _ _ t0
  have ls12 : w11.heap.size < w12.heap.size := World.block_lt_of_cell? _ _ s0
  clear kf c0 c1 c2 c3 c4 c5 c6 c7 c8 c9 c10 d0 d1 d2 d3 d4 d5 d6 d7 d8 d9 d10
  go_upto_region 8 with fail
  obtain ⟨Wn, eW⟩ : ∃ W, W = (w12.setCell ⟨w10.heap.size, 0, none⟩ (.int .i64 mx)).setCell ⟨w10.heap.size, 1, none⟩ (.int .i64 my) := ⟨_, rfl⟩
  have t0 : Wn.cell? ⟨w10.heap.size, 0, none⟩ = some (.int .i64 mx) := by rw [eW]; go_simp
  have t1 : Wn.cell? ⟨w10.heap.size, 1, none⟩ = some (.int .i64 my) := by rw [eW]; go_simp
  have t2 : Wn.cell? ⟨w10.heap.size, 2, none⟩ = some (.slice po l2.length cp) := by rw [eW]; go_simp
  have s0 : Wn.cell? ⟨w11.heap.size, 0, none⟩ = some (.int .i64 mx) := by rw [eW]; exact cell_else (by simp; omega) (cell_else (by simp; omega) s0)
  have s1 : Wn.cell? ⟨w11.heap.size, 1, none⟩ = some (.int .i64 my) := by rw [eW]; exact cell_else (by simp; omega) (cell_else (by simp; omega) s1)
  have s2 : Wn.cell? ⟨w11.heap.size, 2, none⟩ = some (.slice po2 l2.length cp2) := by rw [eW]; exact cell_else (by simp; omega) (cell_else (by simp; omega) s2)
  have HPt1 : Hid (PtsT Wn po l2) := by unfold Hid; rw [eW]; exact HPt1.out.putN HNb.out
  have HPt2 : Hid (PtsT Wn po2 l2) := by unfold Hid; rw [eW]; exact HPt2.out.putN HNb2.out
  have Mn : Hid (Made w.heap.size w Wn) := by unfold Hid; rw [eW]; exact (M12.out.put (by simp; omega) _).put (by simp; omega) _
  rw [← eW]
  clear eW tf
  go_wp2_with fail
  refine (same_yes mx my l2 po po2 cp cp2 _ hl8 HPt1.out HPt2.out).mono ?_
  rintro e w13 ⟨rfl, kf⟩
  have M13 : Hid (Made w.heap.size w w13) := Mn.out.then_ (kf.low Mn.out.1.size)
  clear kf t0 t1 t2 s0 s1 s2
  go_wp2_with fail
  go_ret
  exact ⟨rfl, M13.out⟩

set_option maxRecDepth 100000 in
set_option maxHeartbeats 8000000 in
theorem tturned_circles (TS : TouchSays) (a b c d x y an a2 b2 c2 d2 x2 y2 an2 : Int) (w : World) (ix : I64 x) (iy : I64 y) (ix2 : I64 x2) (iy2 : I64 y2) (X Y A K R X2 Y2 A2 K2 R2 : Int) (ao ao2 : Nat → Option Addr) (sn sn2 : Nat) (ac ac2 : Nat → Nat) (bd bd2 : Bdy) (hW1 : PlaceW X Y A K R ao sn ac bd) (hW2 : PlaceW X2 Y2 A2 K2 R2 ao2 sn2 ac2 bd2)
    (hB1 : ∀ w, Calls Try.prog 10 #[placeV a b c d x y an] w fun e w' => ∃ g e', e = .returned (bodyV 0 X Y 0 0 A 0 0 K R (.slice (ao g) sn (ac e'))) ∧ w.heap.size ≤ g ∧ g < w'.heap.size ∧ BodyAt w' X Y A K R (.slice (ao g) sn (ac e')) bd ∧ Made w.heap.size w w')
    (hB2 : ∀ w, Calls Try.prog 10 #[placeV a2 b2 c2 d2 x2 y2 an2] w fun e w' => ∃ g e', e = .returned (bodyV 0 X2 Y2 0 0 A2 0 0 K2 R2 (.slice (ao2 g) sn2 (ac2 e'))) ∧ w.heap.size ≤ g ∧ g < w'.heap.size ∧ BodyAt w' X2 Y2 A2 K2 R2 (.slice (ao2 g) sn2 (ac2 e')) bd2 ∧ Made w.heap.size w w')
    (hK : K = 1) (hK2 : K2 = 1) (hT : (wantF bd2 bd).isSome = (wantF bd bd2).isSome) :
    Calls Try.prog 8 #[placeV a b c d x y an, placeV a2 b2 c2 d2 x2 y2 an2] w fun e w' => e = .returned (.bool true) ∧ Made w.heap.size w w' := by
  have HB1 := hid hB1; have HB2 := hid hB2; have HW1 := hid hW1; have HW2 := hid hW2
  have HFit := hid (tfit_is TS)
  clear hB1 hB2 hW1 hW2
  obtain ⟨t, et⟩ : ∃ t, wantF bd bd2 = t := ⟨_, rfl⟩
  obtain ⟨nx, enx⟩ : ∃ z, (t.getD noTch).nx = z := ⟨_, rfl⟩
  obtain ⟨ny, eny⟩ : ∃ z, (t.getD noTch).ny = z := ⟨_, rfl⟩
  obtain ⟨l, el⟩ : ∃ z, (t.getD noTch).pts = z := ⟨_, rfl⟩
  obtain ⟨ok, eok⟩ : ∃ z, t.isSome = z := ⟨_, rfl⟩
  have hl2 : l.length ≤ 2 := by rw [← el, ← et]; exact pts_two _ _
  have HOf : Hid (OfF X Y A K R X2 Y2 A2 K2 R2 bd bd2 nx ny l ok) := of_fresh et enx eny el eok
  obtain ⟨u, eu⟩ : ∃ t, wantF bd2 bd = t := ⟨_, rfl⟩
  obtain ⟨mx, emx⟩ : ∃ z, (u.getD noTch).nx = z := ⟨_, rfl⟩
  obtain ⟨my, emy⟩ : ∃ z, (u.getD noTch).ny = z := ⟨_, rfl⟩
  obtain ⟨l2, el2⟩ : ∃ z, (u.getD noTch).pts = z := ⟨_, rfl⟩
  obtain ⟨is, eis⟩ : ∃ z, u.isSome = z := ⟨_, rfl⟩
  have HOg : Hid (OfF X2 Y2 A2 K2 R2 X Y A K R bd2 bd mx my l2 is) := of_fresh eu emx emy el2 eis
  rw [et, eu, eis, eok] at hT
  subst hT
  have gK : (K == K2) = true := by simp [hK, hK2]
  have gK1 : (K == 1) = true := by simp [hK]
  clear hK hK2
  clear et enx eny el eok eu emx emy el2 eis TS
  go_enter Try.func8, Try.ntmps8
  go_wp2_with fail
  refine (HFit.out _).mono ?_
  rintro e w1 ⟨rfl, k1⟩
  have p0 := k1.reads (p := ⟨w.heap.size, 0, none⟩) (x := .int .i64 a) (by go_simp)
  have p1 := k1.reads (p := ⟨w.heap.size, 1, none⟩) (x := .int .i64 b) (by go_simp)
  have p2 := k1.reads (p := ⟨w.heap.size, 2, none⟩) (x := .int .i64 c) (by go_simp)
  have p3 := k1.reads (p := ⟨w.heap.size, 3, none⟩) (x := .int .i64 d) (by go_simp)
  have p4 := k1.reads (p := ⟨w.heap.size, 4, none⟩) (x := .int .i64 x) (by go_simp)
  have p5 := k1.reads (p := ⟨w.heap.size, 5, none⟩) (x := .int .i64 y) (by go_simp)
  have p6 := k1.reads (p := ⟨w.heap.size, 6, none⟩) (x := .int .i64 an) (by go_simp)
  have q0 := k1.reads (p := ⟨w.heap.size + 1, 0, none⟩) (x := .int .i64 a2) (by go_simp)
  have q1 := k1.reads (p := ⟨w.heap.size + 1, 1, none⟩) (x := .int .i64 b2) (by go_simp)
  have q2 := k1.reads (p := ⟨w.heap.size + 1, 2, none⟩) (x := .int .i64 c2) (by go_simp)
  have q3 := k1.reads (p := ⟨w.heap.size + 1, 3, none⟩) (x := .int .i64 d2) (by go_simp)
  have q4 := k1.reads (p := ⟨w.heap.size + 1, 4, none⟩) (x := .int .i64 x2) (by go_simp)
  have q5 := k1.reads (p := ⟨w.heap.size + 1, 5, none⟩) (x := .int .i64 y2) (by go_simp)
  have q6 := k1.reads (p := ⟨w.heap.size + 1, 6, none⟩) (x := .int .i64 an2) (by go_simp)
  have M1 : Hid (Made w.heap.size w w1) := (made_box (made_box k1))
  clear k1 HFit
  go_upto_region 3 with fail
  have mk1 : Hid (∀ (G : Nat → Option (Nat × Nat)) (u : World), MK.Cm w1 (alB (fun v g e => BodyAt v X Y A K R (.slice (ao g) sn (ac e)) bd) (fun v g e => BodyAt v X2 Y2 A2 K2 R2 (.slice (ao2 g) sn2 (ac2 e)) bd2)) G u → MK.MkUpon Try.prog w1 (alB (fun v g e => BodyAt v X Y A K R (.slice (ao g) sn (ac e)) bd) (fun v g e => BodyAt v X2 Y2 A2 K2 R2 (.slice (ao2 g) sn2 (ac2 e)) bd2)) (valB (fun g e => bodyV 0 X Y 0 0 A 0 0 K R (.slice (ao g) sn (ac e))) (fun g e => bodyV 0 X2 Y2 0 0 A2 0 0 K2 R2 (.slice (ao2 g) sn2 (ac2 e)))) 1 G (.ok (.enter 10 #[placeV a b c d x y an]) u)) := by
    intro G u hu
    refine (HB1.out u).mono ?_
    rintro e u' ⟨p, e', rfl, hp1, hp2, ho, kk⟩
    exact ⟨p, e', rfl, hu.next (alB_lasts (fun _ _ _ _ h k => h.kept k) (fun _ _ _ _ h k => h.kept k)) kk hp1 hp2 ho⟩
  have mk3 : Hid (∀ (G : Nat → Option (Nat × Nat)) (u : World), MK.Cm w1 (alB (fun v g e => BodyAt v X Y A K R (.slice (ao g) sn (ac e)) bd) (fun v g e => BodyAt v X2 Y2 A2 K2 R2 (.slice (ao2 g) sn2 (ac2 e)) bd2)) G u → MK.MkUpon Try.prog w1 (alB (fun v g e => BodyAt v X Y A K R (.slice (ao g) sn (ac e)) bd) (fun v g e => BodyAt v X2 Y2 A2 K2 R2 (.slice (ao2 g) sn2 (ac2 e)) bd2)) (valB (fun g e => bodyV 0 X Y 0 0 A 0 0 K R (.slice (ao g) sn (ac e))) (fun g e => bodyV 0 X2 Y2 0 0 A2 0 0 K2 R2 (.slice (ao2 g) sn2 (ac2 e)))) 3 G (.ok (.enter 10 #[placeV a2 b2 c2 d2 x2 y2 an2]) u)) := by
    intro G u hu
    refine (HB2.out u).mono ?_
    rintro e u' ⟨p, e', rfl, hp1, hp2, ho, kk⟩
    exact ⟨p, e', rfl, hu.next (alB_lasts (fun _ _ _ _ h k => h.kept k) (fun _ _ _ _ h k => h.kept k)) kk hp1 hp2 ho⟩
  refine MK.reg_mk (alB (fun v g e => BodyAt v X Y A K R (.slice (ao g) sn (ac e)) bd) (fun v g e => BodyAt v X2 Y2 A2 K2 R2 (.slice (ao2 g) sn2 (ac2 e)) bd2)) 6 [0, 2, 1, 3, 4, 5] [0, 2] [1, 3, 4, 5] [] (fun _ => []) (val := (valB (fun g e => bodyV 0 X Y 0 0 A 0 0 K R (.slice (ao g) sn (ac e))) (fun g e => bodyV 0 X2 Y2 0 0 A2 0 0 K2 R2 (.slice (ao2 g) sn2 (ac2 e))))) (by kernel_rfl) (by kernel_rfl) (fun p hp => absurd hp (by simp)) ?_
  refine MK.can_class (rest := [1, 3, 4, 5]) [0, 2] [] 149 (alB_lasts (fun _ _ _ _ h k => h.kept k) (fun _ _ _ _ h k => h.kept k)) (MK.any_class _) (by kernel_rfl) rfl (by kernel_rfl) (by kernel_rfl) ?_
  apply Exists.intro
  refine ⟨?q1, ?q2⟩
  case q1 =>
    intro Ty hT fw hf _
    have p0 := Class.reads hf p0
    have p1 := Class.reads hf p1
    have p2 := Class.reads hf p2
    have p3 := Class.reads hf p3
    have p4 := Class.reads hf p4
    have p5 := Class.reads hf p5
    have p6 := Class.reads hf p6
    have q0 := Class.reads hf q0
    have q1 := Class.reads hf q1
    have q2 := Class.reads hf q2
    have q3 := Class.reads hf q3
    have q4 := Class.reads hf q4
    have q5 := Class.reads hf q5
    have q6 := Class.reads hf q6
    change wpQuiet _ _ _ _ [_, _] _
    repeat (go_big_quiet_step (fail))
    exact wpQuiet_nil rfl
  refine MK.can_mk 1 19 _ rfl rfl rfl rfl ?m1 fun pA eA => ?m2
  case m1 =>
    intro G' u _ hu
    rw [show (execOp _ _).run Try.prog u = .ok (.enter 10 #[placeV a b c d x y an]) u by kernel_rfl]
    exact mk1.out G' u hu
  rw [show (valB (fun g e => bodyV 0 X Y 0 0 A 0 0 K R (.slice (ao g) sn (ac e))) (fun g e => bodyV 0 X2 Y2 0 0 A2 0 0 K2 R2 (.slice (ao2 g) sn2 (ac2 e)))) 1 pA eA = bodyV 0 X Y 0 0 A 0 0 K R (.slice (ao pA) sn (ac eA)) from rfl]
  simp only [Act.put, List.setIfInBounds_toArray, List.set_cons_succ, List.set_cons_zero]
  refine MK.can_mk 3 21 _ rfl rfl rfl rfl ?m3 fun pB eB => ?m4
  case m3 =>
    intro G' u _ hu
    rw [show (execOp _ _).run Try.prog u = .ok (.enter 10 #[placeV a2 b2 c2 d2 x2 y2 an2]) u by kernel_rfl]
    exact mk3.out G' u hu
  rw [show (valB (fun g e => bodyV 0 X Y 0 0 A 0 0 K R (.slice (ao g) sn (ac e))) (fun g e => bodyV 0 X2 Y2 0 0 A2 0 0 K2 R2 (.slice (ao2 g) sn2 (ac2 e)))) 3 pB eB = bodyV 0 X2 Y2 0 0 A2 0 0 K2 R2 (.slice (ao2 pB) sn2 (ac2 eB)) from rfl]
  simp only [Act.put, List.setIfInBounds_toArray, List.set_cons_succ, List.set_cons_zero]
  refine MK.can_mk 4 5 _ rfl rfl rfl rfl ?m5 fun gA hA => ?m6
  case m5 =>
    intro G' u _ hu
    rw [show (execOp _ _).run Try.prog u = .ok (.value (.pointer (some ⟨u.heap.size, 0, none⟩))) (u.alloc (.cells #[.int .i64 0, .int .i64 0, .int .i64 0, .int .i64 0, .int .i64 0, .int .i64 0, .int .i64 0, .int .i64 0, .int .i64 0, .int .i64 0, .slice none 0 0] 34)) by kernel_rfl]
    exact ⟨u.heap.size, 0, rfl, hu.next (alB_lasts (fun _ _ _ _ h k => h.kept k) (fun _ _ _ _ h k => h.kept k)) ((Made.rfl_ _ _).cells (Nat.le_refl _) _ _) (Nat.le_refl _) (by simp) (has_new _ _ _)⟩
  rw [show (valB (fun g e => bodyV 0 X Y 0 0 A 0 0 K R (.slice (ao g) sn (ac e))) (fun g e => bodyV 0 X2 Y2 0 0 A2 0 0 K2 R2 (.slice (ao2 g) sn2 (ac2 e)))) 4 gA hA = .pointer (some ⟨gA, 0, none⟩) from rfl]
  simp only [Act.put, List.setIfInBounds_toArray, List.set_cons_succ, List.set_cons_zero]
  refine MK.can_mk 5 6 _ rfl rfl rfl rfl ?m7 fun gB hB => ?m8
  case m7 =>
    intro G' u _ hu
    rw [show (execOp _ _).run Try.prog u = .ok (.value (.pointer (some ⟨u.heap.size, 0, none⟩))) (u.alloc (.cells #[.int .i64 0, .int .i64 0, .int .i64 0, .int .i64 0, .int .i64 0, .int .i64 0, .int .i64 0, .int .i64 0, .int .i64 0, .int .i64 0, .slice none 0 0] 34)) by kernel_rfl]
    exact ⟨u.heap.size, 0, rfl, hu.next (alB_lasts (fun _ _ _ _ h k => h.kept k) (fun _ _ _ _ h k => h.kept k)) ((Made.rfl_ _ _).cells (Nat.le_refl _) _ _) (Nat.le_refl _) (by simp) (has_new _ _ _)⟩
  rw [show (valB (fun g e => bodyV 0 X Y 0 0 A 0 0 K R (.slice (ao g) sn (ac e))) (fun g e => bodyV 0 X2 Y2 0 0 A2 0 0 K2 R2 (.slice (ao2 g) sn2 (ac2 e)))) 5 gB hB = .pointer (some ⟨gB, 0, none⟩) from rfl]
  intro w9 hu
  have u1 : (MK.upd (MK.upd (MK.upd (MK.upd (fun _ => none) 1 (pA, eA)) 3 (pB, eB)) 4 (gA, hA)) 5 (gB, hB)) 1 = some (pA, eA) := by unfold MK.upd; simp
  have u3 : (MK.upd (MK.upd (MK.upd (MK.upd (fun _ => none) 1 (pA, eA)) 3 (pB, eB)) 4 (gA, hA)) 5 (gB, hB)) 3 = some (pB, eB) := by unfold MK.upd; simp
  have u4 : (MK.upd (MK.upd (MK.upd (MK.upd (fun _ => none) 1 (pA, eA)) 3 (pB, eB)) 4 (gA, hA)) 5 (gB, hB)) 4 = some (gA, hA) := by unfold MK.upd; simp
  have u5 : (MK.upd (MK.upd (MK.upd (MK.upd (fun _ => none) 1 (pA, eA)) 3 (pB, eB)) 4 (gA, hA)) 5 (gB, hB)) 5 = some (gB, hB) := by unfold MK.upd; simp
  obtain ⟨l1, m1, b1⟩ := hu.2.1 1 _ u1
  obtain ⟨l3, m3, b3⟩ := hu.2.1 3 _ u3
  obtain ⟨l4, m4, b4⟩ := hu.2.1 4 _ u4
  obtain ⟨l5, m5, b5⟩ := hu.2.1 5 _ u5
  have b1 : BodyAt w9 X Y A K R (.slice (ao pA) sn (ac eA)) bd := b1
  have b3 : BodyAt w9 X2 Y2 A2 K2 R2 (.slice (ao2 pB) sn2 (ac2 eB)) bd2 := b3
  have zA : Has w9 gA 34 #[.int .i64 0, .int .i64 0, .int .i64 0, .int .i64 0, .int .i64 0, .int .i64 0, .int .i64 0, .int .i64 0, .int .i64 0, .int .i64 0, .slice none 0 0] := b4
  have zB : Has w9 gB 34 #[.int .i64 0, .int .i64 0, .int .i64 0, .int .i64 0, .int .i64 0, .int .i64 0, .int .i64 0, .int .i64 0, .int .i64 0, .int .i64 0, .slice none 0 0] := b5
  have n14 : pA ≠ gA := fun e => by have := hu.2.2 1 4 _ _ u1 u4 e; omega
  have n15 : pA ≠ gB := fun e => by have := hu.2.2 1 5 _ _ u1 u5 e; omega
  have n34 : pB ≠ gA := fun e => by have := hu.2.2 3 4 _ _ u3 u4 e; omega
  have n35 : pB ≠ gB := fun e => by have := hu.2.2 3 5 _ _ u3 u5 e; omega
  have n45 : gA ≠ gB := fun e => by have := hu.2.2 4 5 _ _ u4 u5 e; omega
  have k9 := hu.1
  simp only [] at l1 l3 l4 l5
  have lw1 : w.heap.size ≤ w1.heap.size := M1.out.1.size
  have lwA : w.heap.size ≤ gA := by omega
  have lwB : w.heap.size ≤ gB := by omega
  have M9 : Hid (Made w.heap.size w w9) := M1.out.then_ (k9.low M1.out.1.size)
  clear k9 mk1 mk3 hu u1 u3 u4 u5 b4 b5 p0 p1 p2 p3 p4 p5 p6 q0 q1 q2 q3 q4 q5 q6 M1
  have za0 := zA.at_ 0
  have za1 := zA.at_ 1
  have za2 := zA.at_ 2
  have za3 := zA.at_ 3
  have za4 := zA.at_ 4
  have za5 := zA.at_ 5
  have za6 := zA.at_ 6
  have za7 := zA.at_ 7
  have za8 := zA.at_ 8
  have za9 := zA.at_ 9
  have za10 := zA.at_ 10
  have zb0 := zB.at_ 0
  have zb1 := zB.at_ 1
  have zb2 := zB.at_ 2
  have zb3 := zB.at_ 3
  have zb4 := zB.at_ 4
  have zb5 := zB.at_ 5
  have zb6 := zB.at_ 6
  have zb7 := zB.at_ 7
  have zb8 := zB.at_ 8
  have zb9 := zB.at_ 9
  have zb10 := zB.at_ 10
  simp at za0 zb0 za1 zb1 za2 zb2 za3 zb3 za4 zb4 za5 zb5 za6 zb6 za7 zb7 za8 zb8 za9 zb9 za10 zb10
  have zfA : ∀ i, w9.frozen? ⟨gA, i, none⟩ = false := fun i => zA.free i
  have zfB : ∀ i, w9.frozen? ⟨gB, i, none⟩ = false := fun i => zB.free i
  have n54 : gB ≠ gA := fun e => n45 e.symm
  simp only [List.drop_succ_cons, List.drop_zero]
  go_upto_region 4 with fail
  obtain ⟨We, eW⟩ : ∃ W, W = ((((((((((((((((((((((w9.setCell ⟨gA, 0, none⟩ (.int .i64 0)).setCell ⟨gA, 1, none⟩ (.int .i64 X)).setCell ⟨gA, 2, none⟩ (.int .i64 Y)).setCell ⟨gA, 3, none⟩ (.int .i64 0)).setCell ⟨gA, 4, none⟩ (.int .i64 0)).setCell ⟨gA, 5, none⟩ (.int .i64 A)).setCell ⟨gA, 6, none⟩ (.int .i64 0)).setCell ⟨gA, 7, none⟩ (.int .i64 0)).setCell ⟨gA, 8, none⟩ (.int .i64 K)).setCell ⟨gA, 9, none⟩ (.int .i64 R)).setCell ⟨gA, 10, none⟩ (.slice (ao pA) sn (ac eA))).setCell ⟨gB, 0, none⟩ (.int .i64 0)).setCell ⟨gB, 1, none⟩ (.int .i64 X2)).setCell ⟨gB, 2, none⟩ (.int .i64 Y2)).setCell ⟨gB, 3, none⟩ (.int .i64 0)).setCell ⟨gB, 4, none⟩ (.int .i64 0)).setCell ⟨gB, 5, none⟩ (.int .i64 A2)).setCell ⟨gB, 6, none⟩ (.int .i64 0)).setCell ⟨gB, 7, none⟩ (.int .i64 0)).setCell ⟨gB, 8, none⟩ (.int .i64 K2)).setCell ⟨gB, 9, none⟩ (.int .i64 R2)).setCell ⟨gB, 10, none⟩ (.slice (ao2 pB) sn2 (ac2 eB))) := ⟨_, rfl⟩
  have HA : Has We gA 34 #[.int .i64 0, .int .i64 X, .int .i64 Y, .int .i64 0, .int .i64 0, .int .i64 A, .int .i64 0, .int .i64 0, .int .i64 K, .int .i64 R, .slice (ao pA) sn (ac eA)] := by rw [eW]; exact has_put11 (zA.put11 _ _ _ _ _ _ _ _ _ _ _) n45 _ _ _ _ _ _ _ _ _ _ _
  have HB : Has We gB 34 #[.int .i64 0, .int .i64 X2, .int .i64 Y2, .int .i64 0, .int .i64 0, .int .i64 A2, .int .i64 0, .int .i64 0, .int .i64 K2, .int .i64 R2, .slice (ao2 pB) sn2 (ac2 eB)] := by rw [eW]; exact (has_put11 zB n54 _ _ _ _ _ _ _ _ _ _ _).put11 _ _ _ _ _ _ _ _ _ _ _
  have Me : Hid (Made w.heap.size w We) := by unfold Hid; rw [eW]; exact (M9.out.put11 lwA _ _ _ _ _ _ _ _ _ _ _).put11 lwB _ _ _ _ _ _ _ _ _ _ _
  have HBa : Hid (BodyAt We X Y A K R (.slice (ao pA) sn (ac eA)) bd) := b1.away (HW1.out.ao_ pA) (fun i => by rw [eW, cell_put11 _ _ _ _ n15, cell_put11 _ _ _ _ n14])
  have HBb : Hid (BodyAt We X2 Y2 A2 K2 R2 (.slice (ao2 pB) sn2 (ac2 eB)) bd2) := b3.away (HW2.out.ao_ pB) (fun i => by rw [eW, cell_put11 _ _ _ _ n35, cell_put11 _ _ _ _ n34])
  rw [← eW]
  clear eW zA zB za0 zb0 za1 zb1 za2 zb2 za3 zb3 za4 zb4 za5 zb5 za6 zb6 za7 zb7 za8 zb8 za9 zb9 za10 zb10 zfA zfB b1 b3 M9
  refine NoPanic.normal ?_
  have c0 := HA.at_ 0
  have c1 := HA.at_ 1
  have c2 := HA.at_ 2
  have c3 := HA.at_ 3
  have c4 := HA.at_ 4
  have c5 := HA.at_ 5
  have c6 := HA.at_ 6
  have c7 := HA.at_ 7
  have c8 := HA.at_ 8
  have c9 := HA.at_ 9
  have c10 := HA.at_ 10
  have d0 := HB.at_ 0
  have d1 := HB.at_ 1
  have d2 := HB.at_ 2
  have d3 := HB.at_ 3
  have d4 := HB.at_ 4
  have d5 := HB.at_ 5
  have d6 := HB.at_ 6
  have d7 := HB.at_ 7
  have d8 := HB.at_ 8
  have d9 := HB.at_ 9
  have d10 := HB.at_ 10
  simp at c0 d0 c1 d1 c2 d2 c3 d3 c4 d4 c5 d5 c6 d6 c7 d7 c8 d8 c9 d9 c10 d10
  have lgA := HA.here
  have lgB := HB.here
  have HHA := hid HA; have HHB := hid HB
  clear HA HB
  go_wp2_with fail
  refine (HOf.out _ _ _ HBa.out HBb.out).mono ?_
  rintro e w10 ⟨po, cp, rfl, hpt, hfr, kf⟩
  have c0 := kf.reads (c0)
  have c1 := kf.reads (c1)
  have c2 := kf.reads (c2)
  have c3 := kf.reads (c3)
  have c4 := kf.reads (c4)
  have c5 := kf.reads (c5)
  have c6 := kf.reads (c6)
  have c7 := kf.reads (c7)
  have c8 := kf.reads (c8)
  have c9 := kf.reads (c9)
  have c10 := kf.reads (c10)
  have d0 := kf.reads (d0)
  have d1 := kf.reads (d1)
  have d2 := kf.reads (d2)
  have d3 := kf.reads (d3)
  have d4 := kf.reads (d4)
  have d5 := kf.reads (d5)
  have d6 := kf.reads (d6)
  have d7 := kf.reads (d7)
  have d8 := kf.reads (d8)
  have d9 := kf.reads (d9)
  have d10 := kf.reads (d10)
  have HPt := hid hpt
  have HNb : Hid (0 < l.length → ∀ g off, po = some ⟨g, off, none⟩ → g ≠ w10.heap.size) := fun hl g off e => Nat.ne_of_lt (hpt.low hl g off e)
  have HBa : Hid (BodyAt w10 X Y A K R (.slice (ao pA) sn (ac eA)) bd) := HBa.out.kept kf
  have HBb : Hid (BodyAt w10 X2 Y2 A2 K2 R2 (.slice (ao2 pB) sn2 (ac2 eB)) bd2) := HBb.out.kept kf
  have Mw10 : Hid (Made w.heap.size w w10) := Me.out.then_ (kf.low Me.out.1.size)
  have lgA : gA < w10.heap.size := World.block_lt_of_cell? _ _ c0
  have lgB : gB < w10.heap.size := World.block_lt_of_cell? _ _ d0
  clear kf hpt hfr
  go_wp2_with fail
  refine (HOg.out _ _ _ (HBb.out.kept ((Made.rfl_ _ _).cells (Nat.le_refl _) _ _)) (HBa.out.kept ((Made.rfl_ _ _).cells (Nat.le_refl _) _ _))).mono ?_
  rintro e w11 ⟨po2, cp2, rfl, hpt, hfr, kf⟩
  have t0 := kf.reads (p := ⟨w10.heap.size, 0, none⟩) (x := .int .i64 nx) (by go_simp)
  have t1 := kf.reads (p := ⟨w10.heap.size, 1, none⟩) (x := .int .i64 ny) (by go_simp)
  have t2 := kf.reads (p := ⟨w10.heap.size, 2, none⟩) (x := .slice po l.length cp) (by go_simp)
  have tf : ∀ i, w11.frozen? ⟨w10.heap.size, i, none⟩ = false := fun i => (kf.2 _).trans (by go_simp)
  have c0 := kf.reads (cell_more c0)
  have c1 := kf.reads (cell_more c1)
  have c2 := kf.reads (cell_more c2)
  have c3 := kf.reads (cell_more c3)
  have c4 := kf.reads (cell_more c4)
  have c5 := kf.reads (cell_more c5)
  have c6 := kf.reads (cell_more c6)
  have c7 := kf.reads (cell_more c7)
  have c8 := kf.reads (cell_more c8)
  have c9 := kf.reads (cell_more c9)
  have c10 := kf.reads (cell_more c10)
  have d0 := kf.reads (cell_more d0)
  have d1 := kf.reads (cell_more d1)
  have d2 := kf.reads (cell_more d2)
  have d3 := kf.reads (cell_more d3)
  have d4 := kf.reads (cell_more d4)
  have d5 := kf.reads (cell_more d5)
  have d6 := kf.reads (cell_more d6)
  have d7 := kf.reads (cell_more d7)
  have d8 := kf.reads (cell_more d8)
  have d9 := kf.reads (cell_more d9)
  have d10 := kf.reads (cell_more d10)
  have HPt1 : Hid (PtsT w11 po l) := (HPt.out.kept ((Made.rfl_ _ _).cells (Nat.le_refl _) _ _)).kept kf
  have HPt2 := hid hpt
  have HNb2 : Hid (0 < l2.length → ∀ g off, po2 = some ⟨g, off, none⟩ → g ≠ w10.heap.size) := fun hl g off e => by
    have := hfr g off e
    simp at this
    omega
  have HBa : Hid (BodyAt w11 X Y A K R (.slice (ao pA) sn (ac eA)) bd) := (HBa.out.kept ((Made.rfl_ _ _).cells (Nat.le_refl _) _ _)).kept kf
  have HBb : Hid (BodyAt w11 X2 Y2 A2 K2 R2 (.slice (ao2 pB) sn2 (ac2 eB)) bd2) := (HBb.out.kept ((Made.rfl_ _ _).cells (Nat.le_refl _) _ _)).kept kf
  have M11 : Hid (Made w.heap.size w w11) := Mw10.out.then_ ((made_box kf).low Mw10.out.1.size)
  have lt11 : w10.heap.size < w11.heap.size := World.block_lt_of_cell? _ _ t0
  have lgA : gA < w11.heap.size := World.block_lt_of_cell? _ _ c0
  have lgB : gB < w11.heap.size := World.block_lt_of_cell? _ _ d0
  have lww : w.heap.size ≤ w10.heap.size := Mw10.out.1.size
  clear kf hpt hfr
  go_wp2_with fail
  go_ret
  exact ⟨rfl, M11.out.cells M11.out.1.size _ _⟩
end Go.Proofs.Ytckgpkbdckpcmaa.Fx
