/- TouchGaps: the walk. -/
import Derived.Test.YtckgpkbdckpcmaaTuB
import Derived.Test.YtckgpkbdckpcmaaTuA
import Derived.Test.YtckgpkbdckpcmaaTouchY
namespace Go.Proofs.Ytckgpkbdckpcmaa.Fx
open Go.ChangeShapes Go.WideShapes Go.ChangeAt Go.RowKit
set_option linter.unusedVariables false

set_option maxRecDepth 100000 in
set_option maxHeartbeats 1000000 in
theorem lcorners_circle (X Y A R : Int) (w : World) (iX : I64 X) (iY : I64 Y) (iA : I64 A) :
    Calls Try.prog 21 #[bodyV 0 X Y 0 0 A 0 0 1 R (.slice none 0 0)] w fun e w' => e = .returned (.slice none 0 0) ∧ w.heap.size < w'.heap.size ∧ Made w.heap.size w w' := by
  go_enter Try.func21, Try.ntmps21
  go_wp2_with fail
  refine (corners_circle _ _ _ _ _ _).mono ?_
  rintro e w1 ⟨rfl, k1⟩
  have M1 := hid (made_box k1)
  have hs : w.heap.size < w1.heap.size := by have := k1.1.size; simp at this; omega
  clear k1
  go_wp2_with fail
  go_ret
  exact ⟨rfl, hs, M1.out⟩
theorem lcorners_any {X Y A K R : Int} {ao : Nat → Option Addr} {sn : Nat} {ac : Nat → Nat} {bd : Bdy} (hW : PlaceW X Y A K R ao sn ac bd) : ∃ (co : Nat → Option Addr) (cn : Nat) (P : Cs),
    ((cn = 0 ∧ (∀ g, co g = none)) ∨ (3 ≤ cn ∧ cn ≤ 8 ∧ (∀ g, co g = some ⟨g, 0, none⟩) ∧ bd = .poly P cn ∧ Cin P cn)) ∧ ∀ w g0 e0, BodyAt w X Y A K R (.slice (ao g0) sn (ac e0)) bd →
    Calls Try.prog 21 #[bodyV 0 X Y 0 0 A 0 0 K R (.slice (ao g0) sn (ac e0))] w fun e w' => ∃ g, e = .returned (.slice (co g) cn cn) ∧ w.heap.size ≤ g ∧ g < w'.heap.size ∧ (0 < cn → Row w' g 26 cn P) ∧ Made w.heap.size w w' := by
  obtain ⟨iX, iY, iA, iR⟩ := hW.i64
  rcases hW.kind with ⟨rfl, h1, rfl, h2, _, rfl⟩ | ⟨rfl, rfl, h1, h3, h8, gx, gy, gk, hg, har, rfl⟩
  · refine ⟨fun _ => none, 0, fun _ => (0, 0), .inl ⟨rfl, fun _ => rfl⟩, fun w g0 e0 hb => ?_⟩
    rw [h1, h2]
    refine (lcorners_circle X Y A R w iX iY iA).mono ?_
    rintro e w' ⟨rfl, hs, k⟩
    exact ⟨w.heap.size, rfl, Nat.le_refl _, hs, fun h => absurd h (by omega), k⟩
  · refine ⟨fun g => some ⟨g, 0, none⟩, sn, _, .inr ⟨h3, h8, fun _ => rfl, rfl, fun i _ => ⟨i64_add _ _, i64_add _ _⟩⟩, fun w g0 e0 hb => ?_⟩
    rw [h1]
    obtain ⟨_, _, _, _, hb⟩ := hb
    rcases hb with ⟨h, _⟩ | ⟨_, _, b, off, n, cap, f, hs, n3, n8, hp, hi, hbd⟩
    · omega
    · rw [h1] at hs
      simp at hs
      obtain ⟨⟨rfl, rfl⟩, rfl, rfl⟩ := hs
      injection hbd with hbd _
      refine (lcorners_is X Y A g0 0 sn (ac e0) f w iX iY iA h3 h8 hp hi _ hbd.symm).mono ?_
      rintro e w' ⟨g, rfl, hr, hg, k⟩
      exact ⟨g, rfl, hg, hr.here, fun _ => hr, k⟩
/-- two bodies made and their corners -/
def alC (f1 : World → Nat → Nat → Prop) (n : Nat) (P : Cs) (f2 : World → Nat → Nat → Prop) (m : Nat) (Q : Cs) (i : Nat) (v : World) (g e : Nat) : Prop :=
  if i = 1 then f1 v g e else if i = 4 then f2 v g e else if i = 2 then (0 < n → Row v g 26 n P) else (0 < m → Row v g 26 m Q)
def valC (v1 : Nat → Nat → Value) (co : Nat → Option Addr) (n : Nat) (v2 : Nat → Nat → Value) (co2 : Nat → Option Addr) (m : Nat) (i g e : Nat) : Value :=
  if i = 1 then v1 g e else if i = 4 then v2 g e else if i = 2 then .slice (co g) n n else .slice (co2 g) m m
theorem alC_lasts {f1 f2 : World → Nat → Nat → Prop} {n m : Nat} {P Q : Cs} (h1 : ∀ u v g e, f1 u g e → Made u.heap.size u v → f1 v g e) (h2 : ∀ u v g e, f2 u g e → Made u.heap.size u v → f2 v g e) : MK.Lasts (alC f1 n P f2 m Q) := fun i u v g e h hg k => by
  unfold alC at h ⊢
  split
  · rename_i e1; rw [if_pos e1] at h; exact h1 _ _ _ _ h k
  · rename_i e1; rw [if_neg e1] at h
    split
    · rename_i e2; rw [if_pos e2] at h; exact h2 _ _ _ _ h k
    · rename_i e2; rw [if_neg e2] at h
      split
      · rename_i e3; rw [if_pos e3] at h; exact fun hn => (h hn).kept k
      · rename_i e3; rw [if_neg e3] at h; exact fun hn => (h hn).kept k

theorem lgaps_any (b n b2 m : Nat) (P Q : Cs) (w : World) (hn : 3 ≤ n) (h8 : n ≤ 8) (hm : 3 ≤ m) (hm8 : m ≤ 8) (hp : Pts w b 0 n P) (hq : Pts w b2 0 m Q) (iP : Cin P n) (iQ : Cin Q m) :
    Calls Try.prog 22 #[.slice (some ⟨b, 0, none⟩) n n, .slice (some ⟨b2, 0, none⟩) m m] w fun e w' => ∃ g c, e = .returned (.slice (some ⟨g, 0, none⟩) n c) ∧ Ints w' g n (gapF P n Q m) ∧ Made w.heap.size w w' :=
  gaps_many b 0 n n b2 0 m P Q w (by omega) h8 (by omega) hm8 hp hq iP iQ

set_option maxRecDepth 100000 in
set_option maxHeartbeats 8000000 in
theorem tgaps_walk (TS : TouchSays) (a b c d x y an a2 b2 c2 d2 x2 y2 an2 : Int) (w : World) (ix : I64 x) (iy : I64 y) (ix2 : I64 x2) (iy2 : I64 y2) :
    Calls Try.prog 6 #[placeV a b c d x y an, placeV a2 b2 c2 d2 x2 y2 an2] w fun e w' => e = .returned (.bool true) ∧ Made w.heap.size w w' := by
  obtain ⟨X, Y, A, K, R, ao, sn, ac, bd, hW1, hB1⟩ := place_is a b c d x y an ix iy
  obtain ⟨X2, Y2, A2, K2, R2, ao2, sn2, ac2, bd2, hW2, hB2⟩ := place_is a2 b2 c2 d2 x2 y2 an2 ix2 iy2
  have HB1 := hid hB1; have HB2 := hid hB2; have HW1 := hid hW1; have HW2 := hid hW2
  have HFit := hid (tfit_is TS)
  clear hB1 hB2 hW1 hW2
  obtain ⟨co, cn, P, hk1, hC1⟩ := lcorners_any HW1.out
  obtain ⟨co2, cn2, Q, hk2, hC2⟩ := lcorners_any HW2.out
  have HC1 := hid hC1; have HC2 := hid hC2; have HK1 := hid hk1; have HK2 := hid hk2
  have HGap := hid TS.gap
  clear hC1 hC2 hk1 hk2 TS
  go_enter Try.func6, Try.ntmps6
  go_wp2_with fail
  refine (HFit.out _).mono ?_
  rintro e w1 ⟨rfl, k1⟩
  have p0 := k1.reads (p := ⟨w.heap.size, 0, none⟩) (x := .int .i64 a) (by go_simp)
  have p1 := k1.reads (p := ⟨w.heap.size, 1, none⟩) (x := .int .i64 b) (by go_simp)
  have p2 := k1.reads (p := ⟨w.heap.size, 2, none⟩) (x := .int .i64 c) (by go_simp)
  have p3 := k1.reads (p := ⟨w.heap.size, 3, none⟩) (x := .int .i64 d) (by go_simp)
  have p4 := k1.reads (p := ⟨w.heap.size, 4, none⟩) (x := .int .i64 x) (by go_simp)
  have p5 := k1.reads (p := ⟨w.heap.size, 5, none⟩) (x := .int .i64 y) (by go_simp)
  have p6 := k1.reads (p := ⟨w.heap.size, 6, none⟩) (x := .int .i64 an) (by go_simp)
  have q0 := k1.reads (p := ⟨w.heap.size + 1, 0, none⟩) (x := .int .i64 a2) (by go_simp)
  have q1 := k1.reads (p := ⟨w.heap.size + 1, 1, none⟩) (x := .int .i64 b2) (by go_simp)
  have q2 := k1.reads (p := ⟨w.heap.size + 1, 2, none⟩) (x := .int .i64 c2) (by go_simp)
  have q3 := k1.reads (p := ⟨w.heap.size + 1, 3, none⟩) (x := .int .i64 d2) (by go_simp)
  have q4 := k1.reads (p := ⟨w.heap.size + 1, 4, none⟩) (x := .int .i64 x2) (by go_simp)
  have q5 := k1.reads (p := ⟨w.heap.size + 1, 5, none⟩) (x := .int .i64 y2) (by go_simp)
  have q6 := k1.reads (p := ⟨w.heap.size + 1, 6, none⟩) (x := .int .i64 an2) (by go_simp)
  have M1 : Hid (Made w.heap.size w w1) := (made_box (made_box k1))
  clear k1 HFit
  go_upto_region 3 with fail
  have mk1 : Hid (∀ (G : Nat → Option (Nat × Nat)) (u : World), MK.Cm w1 (alC (fun v g e => BodyAt v X Y A K R (.slice (ao g) sn (ac e)) bd) cn P (fun v g e => BodyAt v X2 Y2 A2 K2 R2 (.slice (ao2 g) sn2 (ac2 e)) bd2) cn2 Q) G u → MK.MkUpon Try.prog w1 (alC (fun v g e => BodyAt v X Y A K R (.slice (ao g) sn (ac e)) bd) cn P (fun v g e => BodyAt v X2 Y2 A2 K2 R2 (.slice (ao2 g) sn2 (ac2 e)) bd2) cn2 Q) (valC (fun g e => bodyV 0 X Y 0 0 A 0 0 K R (.slice (ao g) sn (ac e))) co cn (fun g e => bodyV 0 X2 Y2 0 0 A2 0 0 K2 R2 (.slice (ao2 g) sn2 (ac2 e))) co2 cn2) 1 G (.ok (.enter 10 #[placeV a b c d x y an]) u)) := by
    intro G u hu
    refine (HB1.out u).mono ?_
    rintro e u' ⟨p, e', rfl, hp1, hp2, ho, kk⟩
    exact ⟨p, e', rfl, hu.next (alC_lasts (fun _ _ _ _ h k => h.kept k) (fun _ _ _ _ h k => h.kept k)) kk hp1 hp2 ho⟩
  have mk4 : Hid (∀ (G : Nat → Option (Nat × Nat)) (u : World), MK.Cm w1 (alC (fun v g e => BodyAt v X Y A K R (.slice (ao g) sn (ac e)) bd) cn P (fun v g e => BodyAt v X2 Y2 A2 K2 R2 (.slice (ao2 g) sn2 (ac2 e)) bd2) cn2 Q) G u → MK.MkUpon Try.prog w1 (alC (fun v g e => BodyAt v X Y A K R (.slice (ao g) sn (ac e)) bd) cn P (fun v g e => BodyAt v X2 Y2 A2 K2 R2 (.slice (ao2 g) sn2 (ac2 e)) bd2) cn2 Q) (valC (fun g e => bodyV 0 X Y 0 0 A 0 0 K R (.slice (ao g) sn (ac e))) co cn (fun g e => bodyV 0 X2 Y2 0 0 A2 0 0 K2 R2 (.slice (ao2 g) sn2 (ac2 e))) co2 cn2) 4 G (.ok (.enter 10 #[placeV a2 b2 c2 d2 x2 y2 an2]) u)) := by
    intro G u hu
    refine (HB2.out u).mono ?_
    rintro e u' ⟨p, e', rfl, hp1, hp2, ho, kk⟩
    exact ⟨p, e', rfl, hu.next (alC_lasts (fun _ _ _ _ h k => h.kept k) (fun _ _ _ _ h k => h.kept k)) kk hp1 hp2 ho⟩
  have mk2 : Hid (∀ (pA eA : Nat) (G : Nat → Option (Nat × Nat)) (u : World), G 1 = some (pA, eA) → MK.Cm w1 (alC (fun v g e => BodyAt v X Y A K R (.slice (ao g) sn (ac e)) bd) cn P (fun v g e => BodyAt v X2 Y2 A2 K2 R2 (.slice (ao2 g) sn2 (ac2 e)) bd2) cn2 Q) G u → MK.MkUpon Try.prog w1 (alC (fun v g e => BodyAt v X Y A K R (.slice (ao g) sn (ac e)) bd) cn P (fun v g e => BodyAt v X2 Y2 A2 K2 R2 (.slice (ao2 g) sn2 (ac2 e)) bd2) cn2 Q) (valC (fun g e => bodyV 0 X Y 0 0 A 0 0 K R (.slice (ao g) sn (ac e))) co cn (fun g e => bodyV 0 X2 Y2 0 0 A2 0 0 K2 R2 (.slice (ao2 g) sn2 (ac2 e))) co2 cn2) 2 G (.ok (.enter 21 #[bodyV 0 X Y 0 0 A 0 0 K R (.slice (ao pA) sn (ac eA))]) u)) := by
    intro pA eA G u e1 hu
    have hb : BodyAt u X Y A K R (.slice (ao pA) sn (ac eA)) bd := (hu.2.1 1 _ e1).2.2
    refine (HC1.out u _ _ hb).mono ?_
    rintro e u' ⟨g, rfl, hg1, hg2, hr, kk⟩
    exact ⟨g, 0, rfl, hu.next (alC_lasts (fun _ _ _ _ h k => h.kept k) (fun _ _ _ _ h k => h.kept k)) kk hg1 hg2 hr⟩
  have mk5 : Hid (∀ (pB eB : Nat) (G : Nat → Option (Nat × Nat)) (u : World), G 4 = some (pB, eB) → MK.Cm w1 (alC (fun v g e => BodyAt v X Y A K R (.slice (ao g) sn (ac e)) bd) cn P (fun v g e => BodyAt v X2 Y2 A2 K2 R2 (.slice (ao2 g) sn2 (ac2 e)) bd2) cn2 Q) G u → MK.MkUpon Try.prog w1 (alC (fun v g e => BodyAt v X Y A K R (.slice (ao g) sn (ac e)) bd) cn P (fun v g e => BodyAt v X2 Y2 A2 K2 R2 (.slice (ao2 g) sn2 (ac2 e)) bd2) cn2 Q) (valC (fun g e => bodyV 0 X Y 0 0 A 0 0 K R (.slice (ao g) sn (ac e))) co cn (fun g e => bodyV 0 X2 Y2 0 0 A2 0 0 K2 R2 (.slice (ao2 g) sn2 (ac2 e))) co2 cn2) 5 G (.ok (.enter 21 #[bodyV 0 X2 Y2 0 0 A2 0 0 K2 R2 (.slice (ao2 pB) sn2 (ac2 eB))]) u)) := by
    intro pB eB G u e1 hu
    have hb : BodyAt u X2 Y2 A2 K2 R2 (.slice (ao2 pB) sn2 (ac2 eB)) bd2 := (hu.2.1 4 _ e1).2.2
    refine (HC2.out u _ _ hb).mono ?_
    rintro e u' ⟨g, rfl, hg1, hg2, hr, kk⟩
    exact ⟨g, 0, rfl, hu.next (alC_lasts (fun _ _ _ _ h k => h.kept k) (fun _ _ _ _ h k => h.kept k)) kk hg1 hg2 hr⟩
  refine MK.reg_mk (alC (fun v g e => BodyAt v X Y A K R (.slice (ao g) sn (ac e)) bd) cn P (fun v g e => BodyAt v X2 Y2 A2 K2 R2 (.slice (ao2 g) sn2 (ac2 e)) bd2) cn2 Q) 6 [0, 3, 1, 2, 4, 5] [0, 3] [1, 2, 4, 5] [] (fun i => if i = 2 then [1] else if i = 5 then [4] else []) (val := (valC (fun g e => bodyV 0 X Y 0 0 A 0 0 K R (.slice (ao g) sn (ac e))) co cn (fun g e => bodyV 0 X2 Y2 0 0 A2 0 0 K2 R2 (.slice (ao2 g) sn2 (ac2 e))) co2 cn2)) (by kernel_rfl) (by kernel_rfl) (fun p hp => absurd hp (by simp)) ?_
  refine MK.can_class (rest := [1, 2, 4, 5]) [0, 3] [] 49 (alC_lasts (fun _ _ _ _ h k => h.kept k) (fun _ _ _ _ h k => h.kept k)) (MK.any_class _) (by kernel_rfl) rfl (by kernel_rfl) (by kernel_rfl) ?_
  apply Exists.intro
  refine ⟨?q1, ?q2⟩
  case q1 =>
    intro Ty hT fw hf _
    have p0 := Class.reads hf p0
    have p1 := Class.reads hf p1
    have p2 := Class.reads hf p2
    have p3 := Class.reads hf p3
    have p4 := Class.reads hf p4
    have p5 := Class.reads hf p5
    have p6 := Class.reads hf p6
    have q0 := Class.reads hf q0
    have q1 := Class.reads hf q1
    have q2 := Class.reads hf q2
    have q3 := Class.reads hf q3
    have q4 := Class.reads hf q4
    have q5 := Class.reads hf q5
    have q6 := Class.reads hf q6
    change wpQuiet _ _ _ _ [_, _] _
    repeat (go_big_quiet_step (fail))
    exact wpQuiet_nil rfl
  refine MK.can_mk 1 14 _ rfl rfl rfl rfl ?m1 fun pA eA => ?n1
  case m1 =>
    intro G' u ha hu
    rw [show (execOp _ _).run Try.prog u = .ok (.enter 10 #[placeV a b c d x y an]) u by kernel_rfl]
    exact mk1.out G' u hu
  rw [show (valC (fun g e => bodyV 0 X Y 0 0 A 0 0 K R (.slice (ao g) sn (ac e))) co cn (fun g e => bodyV 0 X2 Y2 0 0 A2 0 0 K2 R2 (.slice (ao2 g) sn2 (ac2 e))) co2 cn2) 1 pA eA = bodyV 0 X Y 0 0 A 0 0 K R (.slice (ao pA) sn (ac eA)) from rfl]
  simp only [Act.put, List.setIfInBounds_toArray, List.set_cons_succ, List.set_cons_zero]
  refine MK.can_mk 2 15 _ rfl rfl rfl rfl ?m2 fun gP hP => ?n2
  case m2 =>
    intro G' u ha hu
    rw [show (execOp _ _).run Try.prog u = .ok (.enter 21 #[bodyV 0 X Y 0 0 A 0 0 K R (.slice (ao pA) sn (ac eA))]) u by kernel_rfl]
    have e1 : G' 1 = some (pA, eA) := (ha 1 (by simp)).trans (by unfold MK.upd; simp)
    exact mk2.out pA eA G' u e1 hu
  rw [show (valC (fun g e => bodyV 0 X Y 0 0 A 0 0 K R (.slice (ao g) sn (ac e))) co cn (fun g e => bodyV 0 X2 Y2 0 0 A2 0 0 K2 R2 (.slice (ao2 g) sn2 (ac2 e))) co2 cn2) 2 gP hP = .slice (co gP) cn cn from rfl]
  simp only [Act.put, List.setIfInBounds_toArray, List.set_cons_succ, List.set_cons_zero]
  refine MK.can_mk 4 17 _ rfl rfl rfl rfl ?m4 fun pB eB => ?n4
  case m4 =>
    intro G' u ha hu
    rw [show (execOp _ _).run Try.prog u = .ok (.enter 10 #[placeV a2 b2 c2 d2 x2 y2 an2]) u by kernel_rfl]
    exact mk4.out G' u hu
  rw [show (valC (fun g e => bodyV 0 X Y 0 0 A 0 0 K R (.slice (ao g) sn (ac e))) co cn (fun g e => bodyV 0 X2 Y2 0 0 A2 0 0 K2 R2 (.slice (ao2 g) sn2 (ac2 e))) co2 cn2) 4 pB eB = bodyV 0 X2 Y2 0 0 A2 0 0 K2 R2 (.slice (ao2 pB) sn2 (ac2 eB)) from rfl]
  simp only [Act.put, List.setIfInBounds_toArray, List.set_cons_succ, List.set_cons_zero]
  refine MK.can_mk 5 18 _ rfl rfl rfl rfl ?m5 fun gQ hQ => ?n5
  case m5 =>
    intro G' u ha hu
    rw [show (execOp _ _).run Try.prog u = .ok (.enter 21 #[bodyV 0 X2 Y2 0 0 A2 0 0 K2 R2 (.slice (ao2 pB) sn2 (ac2 eB))]) u by kernel_rfl]
    have e1 : G' 4 = some (pB, eB) := (ha 4 (by simp)).trans (by unfold MK.upd; simp)
    exact mk5.out pB eB G' u e1 hu
  rw [show (valC (fun g e => bodyV 0 X Y 0 0 A 0 0 K R (.slice (ao g) sn (ac e))) co cn (fun g e => bodyV 0 X2 Y2 0 0 A2 0 0 K2 R2 (.slice (ao2 g) sn2 (ac2 e))) co2 cn2) 5 gQ hQ = .slice (co2 gQ) cn2 cn2 from rfl]
  simp only [Act.put, List.setIfInBounds_toArray, List.set_cons_succ, List.set_cons_zero]
  intro w9 hu
  have u2 : (MK.upd (MK.upd (MK.upd (MK.upd (fun _ => none) 1 (pA, eA)) 2 (gP, hP)) 4 (pB, eB)) 5 (gQ, hQ)) 2 = some (gP, hP) := by unfold MK.upd; simp
  have u5 : (MK.upd (MK.upd (MK.upd (MK.upd (fun _ => none) 1 (pA, eA)) 2 (gP, hP)) 4 (pB, eB)) 5 (gQ, hQ)) 5 = some (gQ, hQ) := by unfold MK.upd; simp
  have b2 : Hid (0 < cn → Row w9 gP 26 cn P) := (hu.2.1 2 _ u2).2.2
  have b5 : Hid (0 < cn2 → Row w9 gQ 26 cn2 Q) := (hu.2.1 5 _ u5).2.2
  have M9 : Hid (Made w.heap.size w w9) := M1.out.then_ (hu.1.low M1.out.1.size)
  clear hu u2 u5 mk1 mk2 mk4 mk5 p0 p1 p2 p3 p4 p5 p6 q0 q1 q2 q3 q4 q5 q6 M1
  simp only [List.drop_succ_cons, List.drop_zero]
  go_upto_region 4 with fail
  refine NoPanic.normal ?_
  rcases HK1.out with ⟨z1, _⟩ | ⟨n3, n8, hco, hbd, iP⟩
  · subst z1
    go_wp2_with fail
    go_ret
    exact ⟨rfl, M9.out⟩
  have n0 : ((cn : Int) == 0) = false := by simp; omega
  rcases HK2.out with ⟨z1, _⟩ | ⟨m3, m8, hco2, hbd2, iQ⟩
  · subst z1
    go_wp2_with fail
    go_ret
    exact ⟨rfl, M9.out⟩
  have m0 : ((cn2 : Int) == 0) = false := by simp; omega
  have hPt : Hid (Pts w9 gP 0 cn P) := (b2.out (by omega)).pts
  have hQt : Hid (Pts w9 gQ 0 cn2 Q) := (b5.out (by omega)).pts
  have IP := hid iP
  have IQ := hid iQ
  have cP := hco gP
  have cQ := hco2 gQ
  rw [cP, cQ]
  obtain ⟨i, ei⟩ : ∃ i, sideF P cn Q cn2 = i := ⟨_, rfl⟩
  obtain ⟨g, eg⟩ : ∃ g, gapF P cn Q cn2 i = g := ⟨_, rfl⟩
  have hin : i < cn := by
    rw [← ei]; have := firstF_le (gapF P cn Q cn2) (cn - 1); unfold sideF; omega
  have EI : Hid (firstF (gapF P cn Q cn2) (cn - 1) = i) := ei
  have EG := hid eg
  have hGp := hid (fun w hp hq => HGap.out gP 0 cn cn gQ 0 cn2 cn2 P Q w n3 n8 m3 m8 hp hq iP iQ)
  rw [ei, eg] at hGp
  clear ei eg hbd hbd2 iP iQ cP cQ HGap hco hco2 b2 b5
  go_wp2_with fail
  refine (lgaps_any _ _ _ _ P Q _ n3 n8 m3 m8 hPt.out hQt.out IP.out IQ.out).mono ?_
  rintro e wa ⟨gl, cl_, rfl, hI, ka⟩
  have HI := hid hI
  have hPa : Hid (Pts wa gP 0 cn P) := hPt.out.kept ka
  have hQa : Hid (Pts wa gQ 0 cn2 Q) := hQt.out.kept ka
  have Ma : Hid (Made w.heap.size w wa) := M9.out.then_ (ka.low M9.out.1.size)
  clear ka hI
  go_wp2_with fail
  refine (hGp.out _ hPa.out hQa.out).mono ?_
  rintro e wb ⟨rfl, kb⟩
  have HIb : Hid (Ints wb gl cn (gapF P cn Q cn2)) := HI.out.kept kb
  have Mb : Hid (Made w.heap.size w wb) := Ma.out.then_ (kb.low Ma.out.1.size)
  clear kb
  go_wp2_with fail
  refine (first_is gl cn cl_ (gapF P cn Q cn2) _ (by omega) n8 HIb.out).mono ?_
  rintro e wc ⟨rfl, kc⟩
  rw [EI.out]
  have HIc : Hid (Ints wc gl cn (gapF P cn Q cn2)) := HIb.out.kept kc
  have Mc : Hid (Made w.heap.size w wc) := Mb.out.then_ (kc.low Mb.out.1.size)
  have ci := HIc.out i hin
  rw [EG.out] at ci
  clear kc
  go_wp2_with fail
  go_ret
  exact ⟨rfl, Mc.out⟩
end Go.Proofs.Ytckgpkbdckpcmaa.Fx
