/- CoL3 CoL CoN CoF -/
import Derived.Test.YtgdcphmmehedoaaGreatCb19
import Derived.Test.YtgdcphmmehedoaaGreatCb21
import Derived.Test.YtgdcphmmehedoaaGreatCb22
set_option maxRecDepth 100000
set_option maxHeartbeats 64000000
/- Package codec: an order is read. -/
namespace Go.Proofs.YtgdcphmmehedoaaGreat.Fx
open Go.ChangeShapes Go.WideShapes Go.ChangeAt Go.RowKit
set_option linter.unusedVariables false
theorem rorder3_c {pb B : Nat} {s : Rs} {w : World} (h : Rd w pb B s) (hs : RsOk s) (hB : B ≤ w.heap.size) (ek : (dN 1 s).1 = 3) :
  Calls Tryz.prog 30 #[rdV pb] w fun e w' => ∃ x, e = .returned x ∧ OrAt w w' x (dO s).1 ∧ Rd w' pb B (dO s).2 ∧ But (fun b => b = pb) w w' := by
 have HB := hid hB
 have HP := hid h.1
 have HS := hid hs
 obtain ⟨s1, es1⟩ : ∃ z, (dN 1 s).2 = z := ⟨_, rfl⟩
 have HS1 := hid (dN_ok (m := 1) hs)
 rw [es1] at HS1
 have ES1 := hid es1
 have EK := hid ek
 obtain ⟨W, eW⟩ : ∃ W, W = (w.alloc (.cells #[.pointer (some ⟨pb, 0, none⟩)] 88)).alloc (.cells #[.int .i64 0, .int .i64 0, .int .i64 0, .int .i64 0, .int .i64 0, .int .i64 0, .int .i64 0, .int .i64 0, .int .i64 0, .int .i64 0, .int .i64 0, .int .i64 0, .int .i64 0, .int .i64 0, .slice none 0 0] 49) := ⟨_, rfl⟩
 have KA : Hid (Made w.heap.size w W) := by unfold Hid; rw [eW]; exact ((Made.rfl_ _ _).cells (Nat.le_refl _) _ _).cells (by simp) _ _
 obtain ⟨g1, eg1⟩ : ∃ g, w.heap.size = g := ⟨_, rfl⟩
 obtain ⟨g2, eg2⟩ : ∃ g, (w.alloc (.cells #[.pointer (some ⟨pb, 0, none⟩)] 88)).heap.size = g := ⟨_, rfl⟩
 have HG1 := hid eg1
 have HG2 : Hid (g2 = g1 + 1) := by unfold Hid; rw [← eg2, ← eg1]; simp
 have HH1 : Hid (Has W g1 88 #[.pointer (some ⟨pb, 0, none⟩)]) := by unfold Hid; rw [eW, ← eg1]; exact (has_new _ _ _).more _
 have HH2 : Hid (Has W g2 49 #[.int .i64 0, .int .i64 0, .int .i64 0, .int .i64 0, .int .i64 0, .int .i64 0, .int .i64 0, .int .i64 0, .int .i64 0, .int .i64 0, .int .i64 0, .int .i64 0, .int .i64 0, .int .i64 0, .slice none 0 0]) := by unfold Hid; rw [eW, ← eg2]; exact has_new _ _ _
 have H1 := hid (rN_c (m := 1) (h.kept KA.out) hs (by omega) (by omega))
 rw [ek, es1] at H1
 have p0 : W.cell? ⟨g1, 0, none⟩ = some (.pointer (some ⟨pb, 0, none⟩)) := HH1.out.at_ 0
 clear h hs hB ek es1
 go_enter Tryz.func30, Tryz.ntmps30
 go_upto_region 1 with fail
 first | rw [← eW] | (rw [eg1] at *; rw [← eW])
 clear eW
 try rw [eg2]
 clear eg2
 try rw [eg1]
 clear eg1
 go_wp2_with fail
 refine H1.out.mono ?_
 rintro e w1 ⟨rfl, hR1, hM1⟩
 have hp1 : ¬ g1 = pb := by have := HP.out; have := HB.out; have := HG1.out; omega
 have hp2 : ¬ g2 = pb := by have := HP.out; have := HB.out; have := HG1.out; have := HG2.out; omega
 have KB := hid ((Made.but KA.out : But (fun b => b = pb) w W).then_ hM1)
 have HHa := hid (HH1.out.but hM1 hp1)
 have HHb := hid (HH2.out.but hM1 hp2)
 have HR1 := hid hR1
 clear hR1 hM1 p0 HH1 HH2
 obtain ⟨W2, eW2⟩ : ∃ V, V = w1.alloc (.cells #[.int .i64 3, .int .i64 0, .int .i64 0, .int .i64 0, .int .i64 0, .int .i64 0, .int .i64 0, .int .i64 0, .int .i64 0, .int .i64 0, .int .i64 0, .int .i64 0, .int .i64 0, .int .i64 0, .slice none 0 0] 49) := ⟨_, rfl⟩
 have K2 : Hid (Made w1.heap.size w1 W2) := by unfold Hid; rw [eW2]; exact (Made.rfl_ _ _).cells (Nat.le_refl _) _ _
 obtain ⟨g3, eg3⟩ : ∃ g, w1.heap.size = g := ⟨_, rfl⟩
 have hl1 := HHa.out.here
 have hl2 := HHb.out.here
 have HH3 : Hid (Has W2 g3 49 #[.int .i64 3, .int .i64 0, .int .i64 0, .int .i64 0, .int .i64 0, .int .i64 0, .int .i64 0, .int .i64 0, .int .i64 0, .int .i64 0, .int .i64 0, .int .i64 0, .int .i64 0, .int .i64 0, .slice none 0 0]) := by unfold Hid; rw [eW2, ← eg3]; exact has_new _ _ _
 have HH1 : Hid (Has W2 g1 88 #[.pointer (some ⟨pb, 0, none⟩)]) := HHa.out.stays K2.out hl1
 have HH2 : Hid (Has W2 g2 49 #[.int .i64 0, .int .i64 0, .int .i64 0, .int .i64 0, .int .i64 0, .int .i64 0, .int .i64 0, .int .i64 0, .int .i64 0, .int .i64 0, .int .i64 0, .int .i64 0, .int .i64 0, .int .i64 0, .slice none 0 0]) := HHb.out.stays K2.out hl2
 have HR2 := hid (HR1.out.kept K2.out)
 have KC := hid (KB.out.via K2.out)
 have HLT : Hid (g1 < g3 ∧ g2 < g3) := by unfold Hid; omega
 have p0 : W2.cell? ⟨g1, 0, none⟩ = some (.pointer (some ⟨pb, 0, none⟩)) := HH1.out.at_ 0
 have d0 : W2.cell? ⟨g3, 0, none⟩ = some (.int .i64 3) := HH3.out.at_ 0
 have hp3 : ¬ g3 = pb := by have := HP.out; have := HB.out; have := HG1.out; have := HLT.out.1; omega
 have HBW : Hid (B ≤ W2.heap.size) := by unfold Hid; have := KC.out.size; have := HB.out; omega
 clear HHa HHb hl1 hl2 HR1
 go_upto_region 2 with fail
 rw [← eW2]
 clear eW2
 try rw [eg3]
 clear eg3
 have HC0 := hid (rNq_c (m := 8) (pb := pb) (B := B) HS1.out (by omega) (by omega))
 obtain ⟨y0, ey0⟩ : ∃ r, (dN 8 s1).1 = r := ⟨_, rfl⟩
 obtain ⟨s2, es0⟩ : ∃ r, (dN 8 s1).2 = r := ⟨_, rfl⟩
 have HS2 := hid (dN_ok (m := 8) HS1.out)
 rw [es0] at HS2
 rw [ey0, es0] at HC0
 have EY0 := hid ey0
 have EZ0 := hid es0
 clear ey0 es0
 have HC1 := hid (rNq_c (m := 8) (pb := pb) (B := B) HS2.out (by omega) (by omega))
 obtain ⟨y1, ey1⟩ : ∃ r, (dN 8 s2).1 = r := ⟨_, rfl⟩
 obtain ⟨s3, es1⟩ : ∃ r, (dN 8 s2).2 = r := ⟨_, rfl⟩
 have HS3 := hid (dN_ok (m := 8) HS2.out)
 rw [es1] at HS3
 rw [ey1, es1] at HC1
 have EY1 := hid ey1
 have EZ1 := hid es1
 clear ey1 es1
 have HC2 := hid (rVq_c (pb := pb) (B := B) HS3.out)
 obtain ⟨y2, ey2⟩ : ∃ r, (dV s3).1 = r := ⟨_, rfl⟩
 obtain ⟨s4, es2⟩ : ∃ r, (dV s3).2 = r := ⟨_, rfl⟩
 have HS4 := hid (dV_ok HS3.out)
 rw [es2] at HS4
 rw [ey2, es2] at HC2
 have EY2 := hid ey2
 have EZ2 := hid es2
 clear ey2 es2
 obtain ⟨x, y⟩ := y2
 have HC3 := hid (rVq_c (pb := pb) (B := B) HS4.out)
 obtain ⟨y3, ey3⟩ : ∃ r, (dV s4).1 = r := ⟨_, rfl⟩
 obtain ⟨s5, es3⟩ : ∃ r, (dV s4).2 = r := ⟨_, rfl⟩
 have HS5 := hid (dV_ok HS4.out)
 rw [es3] at HS5
 rw [ey3, es3] at HC3
 have EY3 := hid ey3
 have EZ3 := hid es3
 clear ey3 es3
 obtain ⟨vx, vy⟩ := y3
 have HC4 := hid (rFq_c (pb := pb) (B := B) HS5.out)
 obtain ⟨y4, ey4⟩ : ∃ r, (dN 8 s5).1 = r := ⟨_, rfl⟩
 obtain ⟨s6, es4⟩ : ∃ r, (dN 8 s5).2 = r := ⟨_, rfl⟩
 have HS6 := hid (dN_ok (m := 8) HS5.out)
 rw [es4] at HS6
 rw [ey4, es4] at HC4
 have EY4 := hid ey4
 have EZ4 := hid es4
 clear ey4 es4
 go_upto_region 9 with fail
 refine RF.reg_flow (fun s G u => Rd u pb B ([s1, s2, s3, s4, s5, s6].getD (s 0) none) ∧ But (fun b => b = pb ∨ b = g3) W2 u ∧ Has u g3 49 (([#[.int .i64 3, .int .i64 0, .int .i64 0, .int .i64 0, .int .i64 0, .int .i64 0, .int .i64 0, .int .i64 0, .int .i64 0, .int .i64 0, .int .i64 0, .int .i64 0, .int .i64 0, .int .i64 0, .slice none 0 0], (#[.int .i64 3, .int .i64 0, .int .i64 0, .int .i64 0, .int .i64 0, .int .i64 0, .int .i64 0, .int .i64 0, .int .i64 0, .int .i64 0, .int .i64 0, .int .i64 0, .int .i64 0, .int .i64 0, .slice none 0 0].setIfInBounds 2 (.int .i64 y0)), ((#[.int .i64 3, .int .i64 0, .int .i64 0, .int .i64 0, .int .i64 0, .int .i64 0, .int .i64 0, .int .i64 0, .int .i64 0, .int .i64 0, .int .i64 0, .int .i64 0, .int .i64 0, .int .i64 0, .slice none 0 0].setIfInBounds 2 (.int .i64 y0)).setIfInBounds 3 (.int .i64 y1)), ((((#[.int .i64 3, .int .i64 0, .int .i64 0, .int .i64 0, .int .i64 0, .int .i64 0, .int .i64 0, .int .i64 0, .int .i64 0, .int .i64 0, .int .i64 0, .int .i64 0, .int .i64 0, .int .i64 0, .slice none 0 0].setIfInBounds 2 (.int .i64 y0)).setIfInBounds 3 (.int .i64 y1)).setIfInBounds 4 (.int .i64 x)).setIfInBounds 5 (.int .i64 y)), ((((((#[.int .i64 3, .int .i64 0, .int .i64 0, .int .i64 0, .int .i64 0, .int .i64 0, .int .i64 0, .int .i64 0, .int .i64 0, .int .i64 0, .int .i64 0, .int .i64 0, .int .i64 0, .int .i64 0, .slice none 0 0].setIfInBounds 2 (.int .i64 y0)).setIfInBounds 3 (.int .i64 y1)).setIfInBounds 4 (.int .i64 x)).setIfInBounds 5 (.int .i64 y)).setIfInBounds 6 (.int .i64 vx)).setIfInBounds 7 (.int .i64 vy)), (((((((#[.int .i64 3, .int .i64 0, .int .i64 0, .int .i64 0, .int .i64 0, .int .i64 0, .int .i64 0, .int .i64 0, .int .i64 0, .int .i64 0, .int .i64 0, .int .i64 0, .int .i64 0, .int .i64 0, .slice none 0 0].setIfInBounds 2 (.int .i64 y0)).setIfInBounds 3 (.int .i64 y1)).setIfInBounds 4 (.int .i64 x)).setIfInBounds 5 (.int .i64 y)).setIfInBounds 6 (.int .i64 vx)).setIfInBounds 7 (.int .i64 vy)).setIfInBounds 11 (.int .i64 y4))] : List (Array Value)).getD (s 1) #[])) [[2, 5, 8, 11, 14], [16, 18, 20, 22, 24]] [] [0, 1, 3, 4, 6, 7, 9, 10, 12, 13, 15, 17, 19, 21, 23] [(46, .int .i64 y0), (49, .int .i64 y1), (52, paV (x, y)), (55, paV (vx, vy)), (58, .int .i64 y4)] 85 (by kernel_rfl) ⟨HR2.out.kept (made_draw _), Made.but (made_draw _), HH3.out⟩ (by kernel_rfl) rfl (by kernel_rfl) (by kernel_rfl) ?_
 apply Exists.intro
 refine ⟨?qa, ?qb, ?qc⟩
 case qa =>
  intro s G Ty hT f hf
  have z0 : ∀ x, (f x).cell? ⟨g1, 0, none⟩ = some (.pointer (some ⟨pb, 0, none⟩)) := fun x => ((hf (f x)).2 ⟨x, rfl⟩).2.1.cell p0 (fun e => by have := HLT.out.1; have := HP.out; have := HB.out; have := HG1.out; have e : g1 = pb ∨ g1 = g3 := e; rcases e with e | e <;> omega)
  clear hf
  simp only [RF.putF, Act.put, List.setIfInBounds_toArray, List.set_cons_succ, List.set_cons_zero]
  change wpQuiet _ _ _ _ [_, _, _, _, _, _, _, _, _, _, _, _, _, _, _] _
  repeat (go_big_quiet_step (fail))
  exact wpQuiet_nil rfl
 case qb =>
  refine ⟨⟨?_, ?_, ?_, ?_, ?_, trivial⟩, ⟨?_, ?_, ?_, ?_, ?_, trivial⟩, trivial⟩
  ·intro s G u hC hk hw
   rw [show (execOp _ _).run Tryz.prog u = .ok (.enter 60 #[.pointer (some ⟨pb, 0, none⟩), .int .i64 8]) u by kernel_rfl]
   obtain ⟨hR, hM, hH⟩ := hC
   rw [hk] at hR
   refine (HC0.out u hR (Nat.le_trans HBW.out hM.size)).mono ?_
   rintro e u' ⟨rfl, h1, h2⟩
   refine ⟨_, rfl, ⟨?_, hM.then_ (h2.up fun b _ e => .inl e), ?_⟩, .inr fun d e => by cases e; rfl⟩
   ·rw [RF.upd_same]; exact h1
   ·rw [RF.upd_else _ _ (show (1 : Nat) ≠ 0 by decide)]; exact hH.but h2 hp3
  ·intro s G u hC hk hw
   rw [show (execOp _ _).run Tryz.prog u = .ok (.enter 60 #[.pointer (some ⟨pb, 0, none⟩), .int .i64 8]) u by kernel_rfl]
   obtain ⟨hR, hM, hH⟩ := hC
   rw [hk] at hR
   refine (HC1.out u hR (Nat.le_trans HBW.out hM.size)).mono ?_
   rintro e u' ⟨rfl, h1, h2⟩
   refine ⟨_, rfl, ⟨?_, hM.then_ (h2.up fun b _ e => .inl e), ?_⟩, .inr fun d e => by cases e; rfl⟩
   ·rw [RF.upd_same]; exact h1
   ·rw [RF.upd_else _ _ (show (1 : Nat) ≠ 0 by decide)]; exact hH.but h2 hp3
  ·intro s G u hC hk hw
   rw [show (execOp _ _).run Tryz.prog u = .ok (.enter 61 #[.pointer (some ⟨pb, 0, none⟩)]) u by kernel_rfl]
   obtain ⟨hR, hM, hH⟩ := hC
   rw [hk] at hR
   refine (HC2.out u hR (Nat.le_trans HBW.out hM.size)).mono ?_
   rintro e u' ⟨rfl, h1, h2⟩
   refine ⟨_, rfl, ⟨?_, hM.then_ (h2.up fun b _ e => .inl e), ?_⟩, .inr fun d e => by cases e; rfl⟩
   ·rw [RF.upd_same]; exact h1
   ·rw [RF.upd_else _ _ (show (1 : Nat) ≠ 0 by decide)]; exact hH.but h2 hp3
  ·intro s G u hC hk hw
   rw [show (execOp _ _).run Tryz.prog u = .ok (.enter 61 #[.pointer (some ⟨pb, 0, none⟩)]) u by kernel_rfl]
   obtain ⟨hR, hM, hH⟩ := hC
   rw [hk] at hR
   refine (HC3.out u hR (Nat.le_trans HBW.out hM.size)).mono ?_
   rintro e u' ⟨rfl, h1, h2⟩
   refine ⟨_, rfl, ⟨?_, hM.then_ (h2.up fun b _ e => .inl e), ?_⟩, .inr fun d e => by cases e; rfl⟩
   ·rw [RF.upd_same]; exact h1
   ·rw [RF.upd_else _ _ (show (1 : Nat) ≠ 0 by decide)]; exact hH.but h2 hp3
  ·intro s G u hC hk hw
   rw [show (execOp _ _).run Tryz.prog u = .ok (.enter 73 #[.pointer (some ⟨pb, 0, none⟩)]) u by kernel_rfl]
   obtain ⟨hR, hM, hH⟩ := hC
   rw [hk] at hR
   refine (HC4.out u hR (Nat.le_trans HBW.out hM.size)).mono ?_
   rintro e u' ⟨rfl, h1, h2⟩
   refine ⟨_, rfl, ⟨?_, hM.then_ (h2.up fun b _ e => .inl e), ?_⟩, .inr fun d e => by cases e; rfl⟩
   ·rw [RF.upd_same]; exact h1
   ·rw [RF.upd_else _ _ (show (1 : Nat) ≠ 0 by decide)]; exact hH.but h2 hp3
  ·intro s G u hC hk hw
   obtain ⟨hR, hM, hH⟩ := hC
   have hH' := hH
   rw [hk] at hH'
   have lu := hH'.here
   have q2 : u.cell? ⟨g3, 2, none⟩ = some (.int .i64 0) := (hH'.at_ 2).trans (by rfl)
   have zz2 := hH'.free 2
   rw [show (execOp _ _).run Tryz.prog u = .ok .skip (u.setCell ⟨g3, 2, none⟩ (.int .i64 y0)) by
    simp only [RF.AG]
    go_simp]
   have kr : But (fun b => b = g3) u (u.setCell ⟨g3, 2, none⟩ (.int .i64 y0)) := ((But.rfl_ (fun b => b = g3) _).put (p := ⟨g3, 2, none⟩) (.inl rfl) _)
   refine ⟨rfl, ⟨?_, (hM.put (p := ⟨g3, 2, none⟩) (.inl (.inr rfl)) _), ?_⟩⟩
   ·rw [RF.upd_else _ _ (show (0 : Nat) ≠ 1 by decide)]
    exact hR.but kr (fun b e => by have : b = g3 := e; have := HB.out; have := HG1.out; have := HLT.out.1; omega)
   ·rw [RF.upd_same]
    exact (hH'.put 2 _)
  ·intro s G u hC hk hw
   obtain ⟨hR, hM, hH⟩ := hC
   have hH' := hH
   rw [hk] at hH'
   have lu := hH'.here
   have q3 : u.cell? ⟨g3, 3, none⟩ = some (.int .i64 0) := (hH'.at_ 3).trans (by rfl)
   have zz3 := hH'.free 3
   rw [show (execOp _ _).run Tryz.prog u = .ok .skip (u.setCell ⟨g3, 3, none⟩ (.int .i64 y1)) by
    simp only [RF.AG]
    go_simp]
   have kr : But (fun b => b = g3) u (u.setCell ⟨g3, 3, none⟩ (.int .i64 y1)) := ((But.rfl_ (fun b => b = g3) _).put (p := ⟨g3, 3, none⟩) (.inl rfl) _)
   refine ⟨rfl, ⟨?_, (hM.put (p := ⟨g3, 3, none⟩) (.inl (.inr rfl)) _), ?_⟩⟩
   ·rw [RF.upd_else _ _ (show (0 : Nat) ≠ 1 by decide)]
    exact hR.but kr (fun b e => by have : b = g3 := e; have := HB.out; have := HG1.out; have := HLT.out.1; omega)
   ·rw [RF.upd_same]
    exact (hH'.put 3 _)
  ·intro s G u hC hk hw
   obtain ⟨hR, hM, hH⟩ := hC
   have hH' := hH
   rw [hk] at hH'
   have lu := hH'.here
   have q4 : u.cell? ⟨g3, 4, none⟩ = some (.int .i64 0) := (hH'.at_ 4).trans (by rfl)
   have zz4 := hH'.free 4
   have q5 : u.cell? ⟨g3, 5, none⟩ = some (.int .i64 0) := (hH'.at_ 5).trans (by rfl)
   have zz5 := hH'.free 5
   rw [show (execOp _ _).run Tryz.prog u = .ok .skip ((u.setCell ⟨g3, 4, none⟩ (.int .i64 x)).setCell ⟨g3, 5, none⟩ (.int .i64 y)) by
    simp only [RF.AG]
    go_simp]
   have kr : But (fun b => b = g3) u ((u.setCell ⟨g3, 4, none⟩ (.int .i64 x)).setCell ⟨g3, 5, none⟩ (.int .i64 y)) := (((But.rfl_ (fun b => b = g3) _).put (p := ⟨g3, 4, none⟩) (.inl rfl) _).put (p := ⟨g3, 5, none⟩) (.inl rfl) _)
   refine ⟨rfl, ⟨?_, ((hM.put (p := ⟨g3, 4, none⟩) (.inl (.inr rfl)) _).put (p := ⟨g3, 5, none⟩) (.inl (.inr rfl)) _), ?_⟩⟩
   ·rw [RF.upd_else _ _ (show (0 : Nat) ≠ 1 by decide)]
    exact hR.but kr (fun b e => by have : b = g3 := e; have := HB.out; have := HG1.out; have := HLT.out.1; omega)
   ·rw [RF.upd_same]
    exact ((hH'.put 4 _).put 5 _)
  ·intro s G u hC hk hw
   obtain ⟨hR, hM, hH⟩ := hC
   have hH' := hH
   rw [hk] at hH'
   have lu := hH'.here
   have q6 : u.cell? ⟨g3, 6, none⟩ = some (.int .i64 0) := (hH'.at_ 6).trans (by rfl)
   have zz6 := hH'.free 6
   have q7 : u.cell? ⟨g3, 7, none⟩ = some (.int .i64 0) := (hH'.at_ 7).trans (by rfl)
   have zz7 := hH'.free 7
   rw [show (execOp _ _).run Tryz.prog u = .ok .skip ((u.setCell ⟨g3, 6, none⟩ (.int .i64 vx)).setCell ⟨g3, 7, none⟩ (.int .i64 vy)) by
    simp only [RF.AG]
    go_simp]
   have kr : But (fun b => b = g3) u ((u.setCell ⟨g3, 6, none⟩ (.int .i64 vx)).setCell ⟨g3, 7, none⟩ (.int .i64 vy)) := (((But.rfl_ (fun b => b = g3) _).put (p := ⟨g3, 6, none⟩) (.inl rfl) _).put (p := ⟨g3, 7, none⟩) (.inl rfl) _)
   refine ⟨rfl, ⟨?_, ((hM.put (p := ⟨g3, 6, none⟩) (.inl (.inr rfl)) _).put (p := ⟨g3, 7, none⟩) (.inl (.inr rfl)) _), ?_⟩⟩
   ·rw [RF.upd_else _ _ (show (0 : Nat) ≠ 1 by decide)]
    exact hR.but kr (fun b e => by have : b = g3 := e; have := HB.out; have := HG1.out; have := HLT.out.1; omega)
   ·rw [RF.upd_same]
    exact ((hH'.put 6 _).put 7 _)
  ·intro s G u hC hk hw
   obtain ⟨hR, hM, hH⟩ := hC
   have hH' := hH
   rw [hk] at hH'
   have lu := hH'.here
   have q11 : u.cell? ⟨g3, 11, none⟩ = some (.int .i64 0) := (hH'.at_ 11).trans (by rfl)
   have zz11 := hH'.free 11
   rw [show (execOp _ _).run Tryz.prog u = .ok .skip (u.setCell ⟨g3, 11, none⟩ (.int .i64 y4)) by
    simp only [RF.AG]
    go_simp]
   have kr : But (fun b => b = g3) u (u.setCell ⟨g3, 11, none⟩ (.int .i64 y4)) := ((But.rfl_ (fun b => b = g3) _).put (p := ⟨g3, 11, none⟩) (.inl rfl) _)
   refine ⟨rfl, ⟨?_, (hM.put (p := ⟨g3, 11, none⟩) (.inl (.inr rfl)) _), ?_⟩⟩
   ·rw [RF.upd_else _ _ (show (0 : Nat) ≠ 1 by decide)]
    exact hR.but kr (fun b e => by have : b = g3 := e; have := HB.out; have := HG1.out; have := HLT.out.1; omega)
   ·rw [RF.upd_same]
    exact (hH'.put 11 _)
 case qc =>
  intro G u hu
  obtain ⟨hR, hM, hH⟩ := hu
  have HR3 : Hid (Rd u pb B s6) := hR
  have hH : Has u g3 49 (((((((#[.int .i64 3, .int .i64 0, .int .i64 0, .int .i64 0, .int .i64 0, .int .i64 0, .int .i64 0, .int .i64 0, .int .i64 0, .int .i64 0, .int .i64 0, .int .i64 0, .int .i64 0, .int .i64 0, .slice none 0 0].setIfInBounds 2 (.int .i64 y0)).setIfInBounds 3 (.int .i64 y1)).setIfInBounds 4 (.int .i64 x)).setIfInBounds 5 (.int .i64 y)).setIfInBounds 6 (.int .i64 vx)).setIfInBounds 7 (.int .i64 vy)).setIfInBounds 11 (.int .i64 y4)) := hH
  simp only [List.setIfInBounds_toArray, List.set_cons_succ, List.set_cons_zero] at hH
  have HHs : Hid (Has u g3 49 #[.int .i64 3, .int .i64 0, .int .i64 y0, .int .i64 y1, .int .i64 x, .int .i64 y, .int .i64 vx, .int .i64 vy, .int .i64 0, .int .i64 0, .int .i64 0, .int .i64 y4, .int .i64 0, .int .i64 0, .slice none 0 0]) := hH
  have HD : Hid (dO s = ((⟨3, 0, y0, y1, x, y, vx, vy, 0, 0, 0, y4, 0, 0, none, 0, 0, fun _ => (0, 0)⟩ : Or), s6)) := by
   unfold Hid dO
   rw [EK.out, ES1.out, if_neg (show ¬ (3 : Int) = 1 by decide), if_neg (show ¬ ((3 : Int) = 2 ∨ (3 : Int) = 4) by decide), if_pos rfl]
   unfold dO3
   simp only []
   rw [EY0.out, EZ0.out, EY1.out, EZ1.out, EY2.out, EZ2.out, EY3.out, EZ3.out, EY4.out, EZ4.out]
   rfl
  have HHr : Hid (Has u g2 49 #[.int .i64 0, .int .i64 0, .int .i64 0, .int .i64 0, .int .i64 0, .int .i64 0, .int .i64 0, .int .i64 0, .int .i64 0, .int .i64 0, .int .i64 0, .int .i64 0, .int .i64 0, .int .i64 0, .slice none 0 0]) := HH2.out.but hM (fun e => by have := HLT.out.2; have e : g2 = pb ∨ g2 = g3 := e; rcases e with e | e <;> omega)
  have K4 : Hid (But (fun b => b = pb) w u) := KC.out.then_' hM (fun b e => by have e : b = pb ∨ b = g3 := e; rcases e with e | e; exact .inl e; exact .inr (by have := HG1.out; have := HLT.out.1; omega))
  simp only [RF.AG]
  clear hR hM hH p0 d0
  go_wp2_with (first
   | refine wpList_load_row rfl 49 (.tmp 3) rfl g3 rfl 49 _ (0, 0) _ HHs.out Tryz.underlying49 rfl (by kernel_rfl) ?_
   | refine wpList_store_row rfl 49 (.tmp 2) (.tmp 84) rfl g2 #[.int .i64 3, .int .i64 0, .int .i64 y0, .int .i64 y1, .int .i64 x, .int .i64 y, .int .i64 vx, .int .i64 vy, .int .i64 0, .int .i64 0, .int .i64 0, .int .i64 y4, .int .i64 0, .int .i64 0, .slice none 0 0] rfl rfl 49 _ HHr.out (by kernel_rfl) rfl (by simp [Value.oneCell']) ?_)
  have hr := setRow_heap u g2 #[.int .i64 0, .int .i64 0, .int .i64 0, .int .i64 0, .int .i64 0, .int .i64 0, .int .i64 0, .int .i64 0, .int .i64 0, .int .i64 0, .int .i64 0, .int .i64 0, .int .i64 0, .int .i64 0, .slice none 0 0] #[.int .i64 3, .int .i64 0, .int .i64 y0, .int .i64 y1, .int .i64 x, .int .i64 y, .int .i64 vx, .int .i64 vy, .int .i64 0, .int .i64 0, .int .i64 0, .int .i64 y4, .int .i64 0, .int .i64 0, .slice none 0 0] 49 (0, 0) HHr.out
  have kk : But (fun b => b = g2) u (u.setRow g2 #[.int .i64 3, .int .i64 0, .int .i64 y0, .int .i64 y1, .int .i64 x, .int .i64 y, .int .i64 vx, .int .i64 vy, .int .i64 0, .int .i64 0, .int .i64 0, .int .i64 y4, .int .i64 0, .int .i64 0, .slice none 0 0]) := But.row _ _ _
  refine bodyPost_ret (v := .agg #[.int .i64 3, .int .i64 0, .int .i64 y0, .int .i64 y1, .int .i64 x, .int .i64 y, .int .i64 vx, .int .i64 vy, .int .i64 0, .int .i64 0, .int .i64 0, .int .i64 y4, .int .i64 0, .int .i64 0, .slice none 0 0]) (results_cell_row (p := 2) (ty := 49) rfl _ _ g2 49 _ (0, 0) _ rfl hr Tryz.underlying49 rfl (by kernel_rfl)) rfl ⟨_, rfl, ?_, ?_, ?_⟩
  ·rw [HD.out]
   exact OrAt.bare _ _ (⟨3, 0, y0, y1, x, y, vx, vy, 0, 0, 0, y4, 0, 0, none, 0, 0, fun _ => (0, 0)⟩ : Or) rfl rfl rfl
  ·rw [HD.out]
   exact HR3.out.but kk (fun b e => by have : b = g2 := e; have := HB.out; have := HG1.out; have := HG2.out; omega)
  ·exact K4.out.then_' kk (fun b e => .inr (by have : b = g2 := e; have := HG1.out; have := HG2.out; omega))
end Go.Proofs.YtgdcphmmehedoaaGreat.Fx
/- Package codec: an order is read. -/
namespace Go.Proofs.YtgdcphmmehedoaaGreat.Fx
open Go.ChangeShapes Go.WideShapes Go.ChangeAt Go.RowKit
set_option linter.unusedVariables false
theorem rorder_c {pb B : Nat} {s : Rs} {w : World} (h : Rd w pb B s) (hs : RsOk s) (hB : B ≤ w.heap.size) :
  Calls Tryz.prog 30 #[rdV pb] w fun e w' => ∃ x, e = .returned x ∧ OrAt w w' x (dO s).1 ∧ Rd w' pb B (dO s).2 ∧ But (fun b => b = pb) w w' := by
 by_cases h1 : (dN 1 s).1 = 1
 ·exact rorder1_c h hs hB h1
 by_cases h2 : (dN 1 s).1 = 2
 ·exact rorder2_c h hs hB h2
 by_cases h3 : (dN 1 s).1 = 3
 ·exact rorder3_c h hs hB h3
 by_cases h4 : (dN 1 s).1 = 4
 ·exact rorder4_c h hs hB h4
 by_cases h5 : (dN 1 s).1 = 5
 ·exact rorder5_c h hs hB h5
 by_cases h6 : (dN 1 s).1 = 6
 ·exact rorder6_c h hs hB h6
 ·exact rorder0_c h hs hB rfl h1 h2 h3 h4 h5 h6
end Go.Proofs.YtgdcphmmehedoaaGreat.Fx
/- Package codec: codec.ReadBatch. -/
namespace Go.Proofs.YtgdcphmmehedoaaGreat.Fx
open Go.ChangeShapes Go.WideShapes Go.ChangeAt Go.RowKit
set_option linter.unusedVariables false
theorem oneOrder (pb B : Nat) : OneOrder pb B := fun s w h hs hB => rorder_c h hs hB
def OkB (bs : List Nat) : Prop := (dBat (some bs)).2 = some [] ∧ ∀ o ∈ (dBat (some bs)).1, OrderP o
theorem OrI.of_bare {o : Or} (h : OrI (bare o)) : OrI o := ⟨h.kd, h.id, h.a, h.b, h.x, h.y, h.vx, h.vy, h.an, h.sp, h.de, h.ln, h.k, h.r, h.f⟩
theorem bodyP_bare {o : Or} : BodyP (bodyOr (bare o)) ↔ BodyP (bodyOr o) :=
 ⟨fun h => ⟨h.shape, h.x, h.y, h.vx, h.vy, h.sp, h.an, h.de, h.still⟩, fun h => ⟨h.shape, h.x, h.y, h.vx, h.vy, h.sp, h.an, h.de, h.still⟩⟩
theorem orderP_bare {o : Or} : OrderP (bare o) ↔ OrderP o := by
 unfold OrderP
 rw [bodyP_bare]
 exact Iff.rfl
theorem isDone_iff (s : Rs) : isDone s = true ↔ s = some [] := by
 cases s with
 | none => exact ⟨fun h => (by cases h), fun h => (by cases h)⟩
 | some l =>
  unfold isDone
  simp
theorem rs_of {bs : List Nat} (h : ∀ b ∈ bs, b < 256) : RsOk (some bs) := fun l e => by cases e; exact h
def RowO (g : Nat) (x : Value) (w : World) (D : List Or) : Prop := ∃ L, w.ownsRow g 49 15 x L.length (flatE encO L) ∧ (∀ o ∈ L, OrIn g x w o) ∧ L.map bare = D
theorem creadbatch_c {c n : Nat} {ao : Option Addr} {bs : List Nat} {w : World} (hA : By w ao n (gl bs)) (hn : bs.length = n) (hb : ∀ b ∈ bs, b < 256) (hl : n ≤ 1099511627776) :
  Calls Tryz.prog 10 #[.slice ao n c] w fun e w' => ∃ x er, e = .returned (.tuple #[x, .int .i64 er]) ∧ Made w.heap.size w w' ∧
   ((OkB bs ∧ er = 0 ∧ ∃ ao' c' L, x = .slice ao' (List.length L) c' ∧ OrsAt w' ao' L ∧ L.map bare = (dBat (some bs)).1) ∨ (¬ OkB bs ∧ er = 1 ∧ x = .slice none 0 0)) := by
 have HNew := hid (pnew_c (c := c) hA hl)
 have HN := hid hn
 have HS0 := hid (rs_of hb)
 obtain ⟨s1, es1⟩ : ∃ z, (dC 64 (some bs)).2 = z := ⟨_, rfl⟩
 obtain ⟨q, eq⟩ : ∃ z, (dC 64 (some bs)).1 = z := ⟨_, rfl⟩
 have hq : 0 ≤ q ∧ q ≤ 65535 := by
  have h := dN_lt (m := 2) (rs_of hb) (by omega)
  rw [← eq]
  unfold dC
  split
  ·exact ⟨by show (0 : Int) ≤ 0; omega, by show (0 : Int) ≤ 65535; omega⟩
  ·exact ⟨h.1, by have := h.2; omega⟩
 obtain ⟨N, eN⟩ : ∃ N : Nat, q = (N : Int) := ⟨q.toNat, by omega⟩
 subst eN
 have hN : N ≤ 1000000 := by omega
 have HS1 := hid (dC_ok (most := 64) (rs_of hb))
 rw [es1] at HS1
 obtain ⟨D, eD⟩ : ∃ z, (dRead dO N s1).1 = z := ⟨_, rfl⟩
 obtain ⟨s2, es2⟩ : ∃ z, (dRead dO N s1).2 = z := ⟨_, rfl⟩
 have HBat : Hid (dBat (some bs) = (D, s2)) := by unfold Hid dBat; rw [es1, eq, Int.toNat_natCast]; exact Prod.ext eD es2
 have HDi : Hid (∀ d ∈ D, OrI d ∧ d.n ≤ 255 ∧ d.ao = none ∧ d.c = 0) := by
  unfold Hid; rw [← eD]
  exact dRead_all (fun _ => dO_ok) (fun _ => dO_i) _ _ HS1.out
 have HDl : Hid (D.length ≤ N) := by unfold Hid; rw [← eD]; exact dRead_len _ _ _
 have HCnt : Hid (∀ u pb B, Rd u pb B (some bs) → Calls Tryz.prog 29 #[.pointer (some ⟨pb, 0, none⟩), .int .i64 64] u fun e u' => e = .returned (.int .i64 (N : Nat)) ∧ Rd u' pb B s1 ∧ But (fun b => b = pb) u u') := fun u pb B h => by
  have h := rC_c (most := 64) h HS0.out
  rw [es1, eq] at h
  exact h
 have HRead : Hid (∀ u pb B, Rd u pb B s1 → B ≤ u.heap.size → Calls Tryz.prog 28 #[rdV pb, .int .i64 (N : Nat), .func (.func 30) #[] #[]] u fun e u' => ∃ x, e = .returned x ∧ RowO u.heap.size x u' D ∧ Rd u' pb B s2 ∧ But (fun b => b = pb) u u') := fun u pb B h hB => by
  have h := rreadO_c (N := N) (oneOrder pb B) h HS1.out hB hN
  rw [eD, es2] at h
  refine h.mono ?_
  rintro e u' ⟨x, L, rfl, h1, h2, h3, h4, h5⟩
  exact ⟨x, rfl, ⟨L, h1, h2, h3⟩, h4, h5⟩
 clear hA hn hb hl es1 eq hq eD es2
 go_enter Tryz.func10, Tryz.ntmps10
 go_wp2_with fail
 refine HNew.out.mono ?_
 rintro e w1 ⟨pb, ao1, c1, rfl, hpb, hRe, hM1⟩
 have hpl : pb < w1.heap.size := hRe.here
 have HP := hid hpb
 have HR1 : Hid (Rd w1 pb w1.heap.size (some bs)) := by
  refine ⟨hpl, ao1, c1, by rw [HN.out]; exact hRe, fun h0 b off e => ?_⟩
  obtain ⟨b', off', e', hc⟩ := hRe.by_ (by rw [← HN.out]; exact h0)
  rw [e] at e'
  cases e'
  exact World.block_lt_of_cell? (a := ⟨b, off + 0, none⟩) w1 (hc 0 (by rw [← HN.out]; exact h0))
 have HM1 := hid hM1
 obtain ⟨B, eB⟩ : ∃ B, w1.heap.size = B := ⟨_, rfl⟩
 obtain ⟨W, eW⟩ : ∃ W, W = w1.alloc (.cells #[.pointer (some ⟨pb, 0, none⟩)] 88) := ⟨_, rfl⟩
 have KW : Hid (Made w1.heap.size w1 W) := by unfold Hid; rw [eW]; exact (Made.rfl_ _ _).cells (Nat.le_refl _) _ _
 have HH : Hid (Has W B 88 #[.pointer (some ⟨pb, 0, none⟩)]) := by unfold Hid; rw [eW, ← eB]; exact has_new _ _ _
 have HRW := hid (HR1.out.kept KW.out)
 have HMW : Hid (Made w.heap.size w W) := HM1.out.then_ (KW.out.low HM1.out.1.size)
 rw [eB] at HRW hpl
 have HBl : Hid (B ≤ W.heap.size ∧ w.heap.size ≤ B) := by unfold Hid; rw [← eB]; exact ⟨KW.out.1.size, HM1.out.1.size⟩
 have HPB := hid hpl
 have p0 : W.cell? ⟨B, 0, none⟩ = some (.pointer (some ⟨pb, 0, none⟩)) := HH.out.at_ 0
 clear hRe hM1 hpb KW HR1 hpl
 go_upto_region 2 with fail
 rw [← eW]
 clear eW
 try rw [eB]
 clear eB HNew
 refine RF.reg_flow (fun s G u => Rd u pb B (if s 0 = 0 then some bs else if s 0 = 1 then s1 else s2) ∧ But (fun b => b = pb) W u ∧ (2 ≤ s 0 → RowO W.heap.size (G 4) u D) ∧ (3 ≤ s 0 → G 5 = G 4)) [[3, 4, 5]] [(4, 13), (5, 5)] [0, 1, 2] [(12, .int .i64 (N : Nat))] 23 (by kernel_rfl) ⟨HRW.out.kept (made_draw _), Made.but (made_draw _), fun h => absurd h (by decide), fun h => absurd h (by decide)⟩ (by kernel_rfl) rfl (by kernel_rfl) (by kernel_rfl) ?_
 apply Exists.intro
 refine ⟨?qa, ?qb, ?qc⟩
 case qa =>
  intro s G Ty hT f hf
  have z0 : ∀ x, (f x).cell? ⟨B, 0, none⟩ = some (.pointer (some ⟨pb, 0, none⟩)) := fun x => ((hf (f x)).2 ⟨x, rfl⟩).2.1.cell p0 (fun e => by have := HPB.out; have e : B = pb := e; omega)
  clear hf
  simp only [RF.putF, Act.put, List.setIfInBounds_toArray, List.set_cons_succ, List.set_cons_zero]
  change wpQuiet _ _ _ _ [_, _, _] _
  repeat (go_big_quiet_step (fail))
  exact wpQuiet_nil rfl
 case qb =>
  refine ⟨⟨?_, ?_, ?_, trivial⟩, trivial⟩
  ·intro s G u hC hk hw
   rw [show (execOp _ _).run Tryz.prog u = .ok (.enter 29 #[.pointer (some ⟨pb, 0, none⟩), .int .i64 64]) u by kernel_rfl]
   obtain ⟨hR, hM, _, _⟩ := hC
   rw [hk, if_pos rfl] at hR
   refine (HCnt.out u pb B hR).mono ?_
   rintro e u' ⟨rfl, h1, h2⟩
   refine ⟨_, rfl, ⟨?_, hM.then_ h2, fun h => ?_, fun h => ?_⟩, .inr fun d e => by cases e; rfl⟩
   ·rw [RF.upd_same]; exact h1
   ·rw [RF.upd_same] at h; exact absurd h (by decide)
   ·rw [RF.upd_same] at h; exact absurd h (by decide)
  ·intro s G u hC hk hw
   rw [show (execOp _ _).run Tryz.prog u = .ok (.enter 28 #[rdV pb, .int .i64 (N : Nat), .func (.func 30) #[] #[]]) u by kernel_rfl]
   obtain ⟨hR, hM, _, _⟩ := hC
   rw [hk, if_neg (show ¬ 1 = 0 by decide), if_pos rfl] at hR
   refine (HRead.out u pb B hR (Nat.le_trans HBl.out.1 hM.size)).mono ?_
   rintro e u' ⟨x, rfl, h0, h1, h2⟩
   refine ⟨x, rfl, ⟨?_, hM.then_ h2, fun h => ?_, fun h => ?_⟩, .inl rfl⟩
   ·rw [RF.upd_same]; exact h1
   ·show RowO W.heap.size (RF.upd G 4 x 4) u' D
    rw [RF.upd_same]
    obtain ⟨L, e1, e2, e3⟩ := h0
    refine ⟨L, ⟨e1.1, e1.2.imp id ?_⟩, fun o ho => ⟨(e2 o ho).1, (e2 o ho).2.1, fun b off q e => ⟨Nat.le_trans hM.size ((e2 o ho).2.2 b off q e).1, ((e2 o ho).2.2 b off q e).2⟩⟩, e3⟩
    rintro ⟨g, cap, cur, e, hb, r⟩
    exact ⟨g, cap, cur, e, Nat.le_trans hM.size hb, r⟩
   ·rw [RF.upd_same] at h; exact absurd h (by decide)
  ·intro s G u hC hk hw
   rw [show (execOp _ _).run Tryz.prog u = .ok (.value (G 4)) u by kernel_rfl]
   obtain ⟨hR, hM, hX, _⟩ := hC
   rw [hk, if_neg (show ¬ 2 = 0 by decide), if_neg (show ¬ 2 = 1 by decide)] at hR
   refine ⟨⟨?_, hM, fun h => ?_, fun h => ?_⟩, .inl rfl⟩
   ·rw [RF.upd_same]; exact hR
   ·exact hX (by rw [hk]; exact Nat.le_refl _)
   ·rfl
 case qc =>
  intro G u hu
  obtain ⟨hR, hM, hX, hE⟩ := hu
  have hE : G 5 = G 4 := hE (Nat.le_refl _)
  obtain ⟨L, hown, hin, hmap⟩ := hX (show 2 ≤ 3 by decide)
  obtain ⟨ao2, c2, e7, _, hls, _⟩ := LsT.of_own (enc := encO) (k := 15) (l := L) (fun _ => rfl) hown
  have hmem : ∀ o ∈ L, bare o ∈ D := fun o ho => by rw [← hmap]; exact List.mem_map_of_mem ho
  have HOrs : Hid (OrsAt u ao2 L) := ⟨hls, fun o ho => ⟨(HDi.out _ (hmem o ho)).1.of_bare, Nat.le_trans (HDi.out _ (hmem o ho)).2.1 (by omega), (hin o ho).1⟩⟩
  have HRz : Hid (Rd u pb B s2) := hR
  have HMz : Hid (Made w.heap.size w u) := But.made_ HMW.out hM (by have := HBl.out; omega) (fun b e => by have : b = pb := e; have := HP.out; omega)
  have HMap := hid hmap
  have c4 : u.cell? ⟨B, 0, none⟩ = some (.pointer (some ⟨pb, 0, none⟩)) := hM.cell p0 (fun e => by have := HPB.out; have e : B = pb := e; omega)
  have hlen : L.length ≤ 1000000 := by have h := congrArg List.length hmap; rw [List.length_map] at h; have := HDl.out; omega
  simp only [RF.AG, Act.put, List.setIfInBounds_toArray, List.set_cons_succ, List.set_cons_zero]
  rw [hE, e7]
  obtain ⟨k, ek⟩ : ∃ k, L.length = k := ⟨_, rfl⟩
  rw [ek]
  have EK := hid ek
  have HAny := hid (ranyWrong_c (c := c2) ek (by omega) HOrs.out)
  have HDo := hid (rD_c HRz.out)
  clear hR hM hX hE hown hin hmap e7 hls hmem p0 ek hlen
  have hPm : Hid ((∃ o ∈ L, ¬ OrderP o) ↔ ∃ o ∈ D, ¬ OrderP o) := by
   unfold Hid
   rw [← HMap.out]
   constructor
   ·rintro ⟨o, ho, hn⟩
    exact ⟨bare o, List.mem_map_of_mem ho, fun h => hn (orderP_bare.1 h)⟩
   ·rintro ⟨o, ho, hn⟩
    obtain ⟨o', ho', rfl⟩ := List.mem_map.1 ho
    exact ⟨o', ho', fun h => hn (orderP_bare.2 h)⟩
  cases hd : isDone s2 with
  | false =>
   rw [hd] at HDo
   have HNo : Hid (¬ OkB bs) := fun h => by
    have h1 := h.1
    rw [HBat.out] at h1
    have := (isDone_iff s2).2 h1
    rw [hd] at this
    cases this
   clear hd
   go_wp2_with fail
   refine HDo.out.mono ?_
   rintro e w4 ⟨rfl, rfl⟩
   go_wp2_with fail
   exact bodyPost_ret (v := .tuple #[.slice none 0 0, .int .i64 1]) (by simp [results, Tryz.results10, go_sem]) rfl ⟨_, _, rfl, HMz.out, .inr ⟨HNo.out, rfl, rfl⟩⟩
  | true =>
   rw [hd] at HDo
   have HDn : Hid (s2 = some []) := (isDone_iff s2).1 hd
   clear hd
   go_wp2_with fail
   refine HDo.out.mono ?_
   rintro e w4 ⟨rfl, rfl⟩
   go_wp2_with fail
   refine HAny.out.mono ?_
   rintro e w5 ⟨r, rfl, hM5, hr⟩
   have HM5 : Hid (Made w.heap.size w w5) := HMz.out.then_ (hM5.low HMz.out.1.size)
   have HOrs5 := hid (HOrs.out.kept hM5)
   have HRr := hid hr
   clear hM5 hr
   cases r with
   | true =>
    go_wp2_with fail
    refine bodyPost_ret (v := .tuple #[.slice none 0 0, .int .i64 1]) (by simp [results, Tryz.results10, go_sem]) rfl ⟨_, _, rfl, HM5.out, .inr ⟨fun h => ?_, rfl, rfl⟩⟩
    obtain ⟨o, ho, hn⟩ := hPm.out.1 (HRr.out.1 trivial)
    have h2 := h.2
    rw [HBat.out] at h2
    exact hn (h2 o ho)
   | false =>
    go_wp2_with fail
    refine bodyPost_ret (v := .tuple #[.slice ao2 k c2, .int .i64 0]) (by simp [results, Tryz.results10, go_sem]) rfl ⟨_, _, rfl, HM5.out, .inl ⟨⟨?_, fun o ho => ?_⟩, rfl, ao2, c2, L, by rw [EK.out], HOrs5.out, ?_⟩⟩
    ·rw [HBat.out]; exact HDn.out
    ·rw [HBat.out] at ho
     refine Classical.byContradiction fun hn => ?_
     have := HRr.out.2 (hPm.out.2 ⟨o, ho, hn⟩)
     cases this
    ·rw [HBat.out]; exact HMap.out
end Go.Proofs.YtgdcphmmehedoaaGreat.Fx
/- Package codec: bodies, joints and contacts are written. -/
namespace Go.Proofs.YtgdcphmmehedoaaGreat.Fx
open Go.ChangeShapes Go.WideShapes Go.ChangeAt Go.RowKit
set_option linter.unusedVariables false
def bdB (b : Bd) : List Nat := nb 8 b.id ++ (nb 8 b.x ++ nb 8 b.y ++ (nb 8 b.vx ++ nb 8 b.vy)) ++ (nb 8 b.an ++ nb 8 b.sp ++ nb 8 b.de) ++ shB b.k b.r b.n b.f
def jtB (j : Jt) : List Nat := nb 8 j.id ++ nb 8 j.a ++ nb 8 j.b ++ (nb 8 j.ax ++ nb 8 j.ay ++ (nb 8 j.tx ++ nb 8 j.ty)) ++ nb 8 j.ln
def ctB (c : Ct) : List Nat := nb 8 c.a ++ nb 8 c.b ++ nb 8 c.key ++ (nb 8 c.n ++ nb 8 c.t)
theorem fB2 (x y : Int) : fB (fun i => if i = 0 then x else y) 2 = nb 8 x ++ nb 8 y := by rw [fB_next, fB_next]; rfl
theorem i64_f2 {x y : Int} (hx : I64 x) (hy : I64 y) : ∀ i, i < 2 → I64 (if i = 0 then x else y) := fun i _ => by
 split
 ·exact hx
 ·exact hy
theorem cwbody_c1 {pb : Nat} {v : Value} {l : List Nat} {id x y vx vy an sp de k r : Int} {n c : Nat} {ao : Option Addr} {f : Cs} {w : World} (hW : Wv w pb v l) (hI : BdI (⟨id, x, y, vx, vy, an, sp, de, k, r, ao, n, c, f⟩ : Bd)) (hs : Sl w ao n f) (hX : 0 < n → Offs (OwnW pb v) ao) (hn : l.length + 16 * n + 200 ≤ 549755813888) :
  Calls Tryz.prog 50 #[.pointer (some ⟨pb, 0, none⟩), .agg #[.int .i64 id, .int .i64 x, .int .i64 y, .int .i64 vx, .int .i64 vy, .int .i64 an, .int .i64 sp, .int .i64 de, .int .i64 k, .int .i64 r, .slice ao n c]] w fun e w' => e = .returned (.tuple #[]) ∧ ∃ v', Wv w' pb v' (l ++ bdB (⟨id, x, y, vx, vy, an, sp, de, k, r, ao, n, c, f⟩ : Bd)) ∧ Wc pb w w' v v' := by
 have HW := hid hW
 have HI := hid hI
 have HS := hid hs
 have HX := hid hX
 obtain ⟨W, eW⟩ : ∃ W, W = w.alloc (.cells #[.int .i64 id, .int .i64 x, .int .i64 y, .int .i64 vx, .int .i64 vy, .int .i64 an, .int .i64 sp, .int .i64 de, .int .i64 k, .int .i64 r, .slice ao n c] 35) := ⟨_, rfl⟩
 have KW : Hid (Made w.heap.size w W) := by unfold Hid; rw [eW]; exact (Made.rfl_ _ _).cells (Nat.le_refl _) _ _
 obtain ⟨g1, eg1⟩ : ∃ g, w.heap.size = g := ⟨_, rfl⟩
 have HB : Hid (Has W g1 35 #[.int .i64 id, .int .i64 x, .int .i64 y, .int .i64 vx, .int .i64 vy, .int .i64 an, .int .i64 sp, .int .i64 de, .int .i64 k, .int .i64 r, .slice ao n c]) := by unfold Hid; rw [eW, ← eg1]; exact has_new _ _ _
 have HG : Hid (¬ OwnW pb v g1) := HW.out.off (.inr (Nat.le_of_eq eg1))
 have HW1 := hid (HW.out.kept KW.out)
 have e0 : W.cell? ⟨g1, 0, none⟩ = some (.int .i64 id) := HB.out.at_ 0
 have e1 : W.cell? ⟨g1, 1, none⟩ = some (.int .i64 x) := HB.out.at_ 1
 have e2 : W.cell? ⟨g1, 2, none⟩ = some (.int .i64 y) := HB.out.at_ 2
 have e3 : W.cell? ⟨g1, 3, none⟩ = some (.int .i64 vx) := HB.out.at_ 3
 have e4 : W.cell? ⟨g1, 4, none⟩ = some (.int .i64 vy) := HB.out.at_ 4
 have e5 : W.cell? ⟨g1, 5, none⟩ = some (.int .i64 an) := HB.out.at_ 5
 have e6 : W.cell? ⟨g1, 6, none⟩ = some (.int .i64 sp) := HB.out.at_ 6
 have e7 : W.cell? ⟨g1, 7, none⟩ = some (.int .i64 de) := HB.out.at_ 7
 clear hW hI hs hX
 go_enter Tryz.func50, Tryz.ntmps50
 go_upto_region 1 with fail
 rw [← eW]
 clear eW
 try rw [eg1]
 clear eg1
 refine RF.reg_flow (CW W pb v [l, l ++ nb 8 id, l ++ nb 8 id ++ vB (c2 x y vx vy) 2, l ++ nb 8 id ++ vB (c2 x y vx vy) 2 ++ fB (f3 an sp de) 3] [⟨10, 28, 2, #[.int .i64 x, .int .i64 y, .int .i64 vx, .int .i64 vy]⟩, ⟨18, 26, 3, #[.int .i64 an, .int .i64 sp, .int .i64 de]⟩]) [[5, 11, 19], [10], [18]] [(10, 14), (18, 22)] [0, 1, 2, 3, 4, 6, 7, 8, 9, 12, 13, 14, 15, 16, 17] [(9, .pointer (some ⟨pb, 0, none⟩)), (15, .pointer (some ⟨pb, 0, none⟩)), (23, .pointer (some ⟨pb, 0, none⟩))] 28 (by kernel_rfl) (CW.start HW1.out) (by kernel_rfl) rfl (by kernel_rfl) (by kernel_rfl) ?_
 apply Exists.intro
 refine ⟨?q1a, ?q1b, ?q1c⟩
 case q1a =>
  intro s G Ty hT f hf
  have z0 := CW.reads hf e0 HG.out
  have z1 := CW.reads hf e1 HG.out
  have z2 := CW.reads hf e2 HG.out
  have z3 := CW.reads hf e3 HG.out
  have z4 := CW.reads hf e4 HG.out
  have z5 := CW.reads hf e5 HG.out
  have z6 := CW.reads hf e6 HG.out
  have z7 := CW.reads hf e7 HG.out
  clear hf
  simp only [RF.putF, Act.put, List.setIfInBounds_toArray, List.set_cons_succ, List.set_cons_zero]
  change wpQuiet _ _ _ _ [_, _, _, _, _, _, _, _, _, _, _, _, _, _, _] _
  repeat (go_big_quiet_step (fail))
  exact wpQuiet_nil rfl
 case q1b =>
  refine ⟨⟨?_, ?_, ?_, trivial⟩, ⟨?_, trivial⟩, ⟨?_, trivial⟩, trivial⟩
  ·intro s G u hC hk hw
   rw [show (execOp _ _).run Tryz.prog u = .ok (.enter 19 #[.pointer (some ⟨pb, 0, none⟩), .int .i64 8, .int .i64 id]) u by kernel_rfl]
   refine CW.call hC hk rfl (fun d e => by cases e; rfl) fun v hv hc ha => ?_
   refine (wnum_c (m := 8) hv (by omega) (by show List.length (l)  ≤ _; omega) (HI.out.id.1) (HI.out.id.2)).mono ?_
   rintro e u' ⟨rfl, v', h1, h2⟩
   exact ⟨rfl, v', h1, h2⟩
  ·intro s G u hC hk hw
   rw [show (execOp _ _).run Tryz.prog u = .ok (.enter 20 #[.pointer (some ⟨pb, 0, none⟩), G 10]) u by kernel_rfl]
   refine CW.call hC hk rfl (fun d e => by cases e; rfl) fun v hv hc ha => ?_
   obtain ⟨g, eg, hg, og⟩ := ha 0 _ rfl (hw 1 0 10 rfl (by kernel_rfl))
   rw [show G 10 = _ from eg]
   refine (wv_c (n := 2) (c := 2) hv (sl2 hg) (fun _ => offs_of og (by omega)) (cin_c2 HI.out.x HI.out.y HI.out.vx HI.out.vy) (by show List.length (l ++ nb 8 id) + 16 * 2 ≤ _; simp only [List.length_append, nb_len]; omega)).mono ?_
   rintro e u' ⟨rfl, v', h1, h2⟩
   exact ⟨rfl, v', h1, h2⟩
  ·intro s G u hC hk hw
   rw [show (execOp _ _).run Tryz.prog u = .ok (.enter 34 #[.pointer (some ⟨pb, 0, none⟩), G 18]) u by kernel_rfl]
   refine CW.call hC hk rfl (fun d e => by cases e; rfl) fun v hv hc ha => ?_
   obtain ⟨g, eg, hg, og⟩ := ha 1 _ rfl (hw 2 0 18 rfl (by kernel_rfl))
   rw [show G 18 = _ from eg]
   refine (wf_c (n := 3) (c := 3) hv (ns3 hg) (fun _ => offs_of og (by omega)) (i64_f3 HI.out.an HI.out.sp HI.out.de) (by show List.length (l ++ nb 8 id ++ vB (c2 x y vx vy) 2) + 8 * 3 ≤ _; simp only [List.length_append, nb_len, vB_len]; omega)).mono ?_
   rintro e u' ⟨rfl, v', h1, h2⟩
   exact ⟨rfl, v', h1, h2⟩
  ·intro s G u hC hk hw
   rw [show (execOp _ _).run Tryz.prog u = .ok (.value (.slice (some ⟨u.heap.size, 0, none⟩) 2 2)) (u.alloc (.cells #[.int .i64 x, .int .i64 y, .int .i64 vx, .int .i64 vy] 28)) by kernel_rfl]
   exact CW.make (i := 0) hC _ rfl rfl (fun i' a' h hne => by
    match i', h with
    | 0, h => exact absurd rfl hne
    | 1, h => cases h; exact Nat.ne_of_beq_eq_false rfl
    | n + 2, h => simp at h)
  ·intro s G u hC hk hw
   rw [show (execOp _ _).run Tryz.prog u = .ok (.value (.slice (some ⟨u.heap.size, 0, none⟩) 3 3)) (u.alloc (.cells #[.int .i64 an, .int .i64 sp, .int .i64 de] 26)) by kernel_rfl]
   exact CW.make (i := 1) hC _ rfl rfl (fun i' a' h hne => by
    match i', h with
    | 0, h => cases h; exact Nat.ne_of_beq_eq_false rfl
    | 1, h => exact absurd rfl hne
    | n + 2, h => simp at h)
 case q1c =>
  intro G u2 hu
  obtain ⟨v2, hv2, hc2, _⟩ := hu
  have HV2 : Hid (Wv u2 pb v2 (l ++ nb 8 id ++ vB (c2 x y vx vy) 2 ++ fB (f3 an sp de) 3)) := hv2
  have HC2 := hid hc2
  have y8 := hc2.but.cell (HB.out.at_ 8) HG.out
  have y9 := hc2.but.cell (HB.out.at_ 9) HG.out
  have y10 := hc2.but.cell (HB.out.at_ 10) HG.out
  simp at y8 y9 y10
  have hl2 : Hid ((l ++ nb 8 id ++ vB (c2 x y vx vy) 2 ++ fB (f3 an sp de) 3).length + 16 * n + 32 ≤ 549755813888) := by unfold Hid; simp only [List.length_append, nb_len, vB_len, fB_len]; omega
  have HS2 : Sl W ao n f := Sl.kept HS.out KW.out
  have HCC := hid (wshape_c (c := c) HV2.out HI.out.k HI.out.r (fun h => by obtain ⟨b, off, e, hp⟩ := HS2 h; exact ⟨b, off, e, hp.but HC2.out.but (HX.out h b off none e)⟩) (fun h b off s e => by obtain ⟨b', off', e', hp⟩ := HS2 h; rw [e] at e'; cases e'; exact HC2.out.offs (World.block_lt_of_cell? _ _ (hp 0 h).1) (HX.out h b off none e)) HI.out.f hl2.out)
  clear hv2 hc2 e0 e1 e2 e3 e4 e5 e6 e7 HS2
  simp only [RF.AG, Act.put, List.setIfInBounds_toArray, List.set_cons_succ, List.set_cons_zero]
  go_wp2_with fail
  refine HCC.out.mono ?_
  rintro e u3 ⟨rfl, v3, hv3, hc3⟩
  have HV3 := hid hv3
  have HC3 := hid hc3
  clear hv3 hc3 y8 y9 y10
  go_wp2_with fail
  refine cvoid_end rfl rfl ⟨rfl, v3, ?_, ((Wc.rfl_ _ _ _).made KW.out).then_ (HC2.out.then_ HC3.out)⟩
  have h := HV3.out
  unfold bdB
  rw [vB2, fB3] at h
  simpa only [List.append_assoc] using h
theorem cwbody_c {pb : Nat} {v : Value} {l : List Nat} (x : Bd) {w : World} (hW : Wv w pb v l) (hI : BdI x) (hs : Sl w x.ao x.n x.f) (hX : 0 < x.n → Offs (OwnW pb v) x.ao) (hn : l.length + 16 * x.n + 200 ≤ 549755813888) :
  Calls Tryz.prog 50 #[.pointer (some ⟨pb, 0, none⟩), bdV x] w fun e w' => e = .returned (.tuple #[]) ∧ ∃ v', Wv w' pb v' (l ++ bdB x) ∧ Wc pb w w' v v' := by
 obtain ⟨id, x, y, vx, vy, an, sp, de, k, r, ao, n, c, f⟩ := x
 exact cwbody_c1 hW hI hs hX hn
theorem cwjoint_c1 {pb : Nat} {v : Value} {l : List Nat} {id a b ax ay tx ty ln : Int} {w : World} (hW : Wv w pb v l) (hI : JtI (⟨id, a, b, ax, ay, tx, ty, ln⟩ : Jt)) (hn : l.length + 200 ≤ 549755813888) :
  Calls Tryz.prog 52 #[.pointer (some ⟨pb, 0, none⟩), .agg #[.int .i64 id, .int .i64 a, .int .i64 b, .int .i64 ax, .int .i64 ay, .int .i64 tx, .int .i64 ty, .int .i64 ln]] w fun e w' => e = .returned (.tuple #[]) ∧ ∃ v', Wv w' pb v' (l ++ jtB (⟨id, a, b, ax, ay, tx, ty, ln⟩ : Jt)) ∧ Wc pb w w' v v' := by
 have HW := hid hW
 have HI := hid hI
 obtain ⟨W, eW⟩ : ∃ W, W = w.alloc (.cells #[.int .i64 id, .int .i64 a, .int .i64 b, .int .i64 ax, .int .i64 ay, .int .i64 tx, .int .i64 ty, .int .i64 ln] 102) := ⟨_, rfl⟩
 have KW : Hid (Made w.heap.size w W) := by unfold Hid; rw [eW]; exact (Made.rfl_ _ _).cells (Nat.le_refl _) _ _
 obtain ⟨g1, eg1⟩ : ∃ g, w.heap.size = g := ⟨_, rfl⟩
 have HB : Hid (Has W g1 102 #[.int .i64 id, .int .i64 a, .int .i64 b, .int .i64 ax, .int .i64 ay, .int .i64 tx, .int .i64 ty, .int .i64 ln]) := by unfold Hid; rw [eW, ← eg1]; exact has_new _ _ _
 have HG : Hid (¬ OwnW pb v g1) := HW.out.off (.inr (Nat.le_of_eq eg1))
 have HW1 := hid (HW.out.kept KW.out)
 have e0 : W.cell? ⟨g1, 0, none⟩ = some (.int .i64 id) := HB.out.at_ 0
 have e1 : W.cell? ⟨g1, 1, none⟩ = some (.int .i64 a) := HB.out.at_ 1
 have e2 : W.cell? ⟨g1, 2, none⟩ = some (.int .i64 b) := HB.out.at_ 2
 have e3 : W.cell? ⟨g1, 3, none⟩ = some (.int .i64 ax) := HB.out.at_ 3
 have e4 : W.cell? ⟨g1, 4, none⟩ = some (.int .i64 ay) := HB.out.at_ 4
 have e5 : W.cell? ⟨g1, 5, none⟩ = some (.int .i64 tx) := HB.out.at_ 5
 have e6 : W.cell? ⟨g1, 6, none⟩ = some (.int .i64 ty) := HB.out.at_ 6
 have e7 : W.cell? ⟨g1, 7, none⟩ = some (.int .i64 ln) := HB.out.at_ 7
 clear hW hI
 go_enter Tryz.func52, Tryz.ntmps52
 go_upto_region 1 with fail
 rw [← eW]
 clear eW
 try rw [eg1]
 clear eg1
 refine RF.reg_flow (CW W pb v [l, l ++ nb 8 id, l ++ nb 8 id ++ nb 8 a, l ++ nb 8 id ++ nb 8 a ++ nb 8 b, l ++ nb 8 id ++ nb 8 a ++ nb 8 b ++ vB (c2 ax ay tx ty) 2, l ++ nb 8 id ++ nb 8 a ++ nb 8 b ++ vB (c2 ax ay tx ty) 2 ++ fB (fun _ => ln) 1] [⟨16, 28, 2, #[.int .i64 ax, .int .i64 ay, .int .i64 tx, .int .i64 ty]⟩, ⟨20, 26, 1, #[.int .i64 ln]⟩]) [[5, 8, 11, 17, 21], [16], [20]] [(16, 20), (20, 24)] [0, 1, 2, 3, 4, 6, 7, 9, 10, 12, 13, 14, 15, 18, 19] [(9, .pointer (some ⟨pb, 0, none⟩)), (12, .pointer (some ⟨pb, 0, none⟩)), (15, .pointer (some ⟨pb, 0, none⟩)), (21, .pointer (some ⟨pb, 0, none⟩)), (25, .pointer (some ⟨pb, 0, none⟩))] 26 (by kernel_rfl) (CW.start HW1.out) (by kernel_rfl) rfl (by kernel_rfl) (by kernel_rfl) ?_
 apply Exists.intro
 refine ⟨?q2a, ?q2b, ?q2c⟩
 case q2a =>
  intro s G Ty hT f hf
  have z0 := CW.reads hf e0 HG.out
  have z1 := CW.reads hf e1 HG.out
  have z2 := CW.reads hf e2 HG.out
  have z3 := CW.reads hf e3 HG.out
  have z4 := CW.reads hf e4 HG.out
  have z5 := CW.reads hf e5 HG.out
  have z6 := CW.reads hf e6 HG.out
  have z7 := CW.reads hf e7 HG.out
  clear hf
  simp only [RF.putF, Act.put, List.setIfInBounds_toArray, List.set_cons_succ, List.set_cons_zero]
  change wpQuiet _ _ _ _ [_, _, _, _, _, _, _, _, _, _, _, _, _, _, _] _
  repeat (go_big_quiet_step (fail))
  exact wpQuiet_nil rfl
 case q2b =>
  refine ⟨⟨?_, ?_, ?_, ?_, ?_, trivial⟩, ⟨?_, trivial⟩, ⟨?_, trivial⟩, trivial⟩
  ·intro s G u hC hk hw
   rw [show (execOp _ _).run Tryz.prog u = .ok (.enter 19 #[.pointer (some ⟨pb, 0, none⟩), .int .i64 8, .int .i64 id]) u by kernel_rfl]
   refine CW.call hC hk rfl (fun d e => by cases e; rfl) fun v hv hc ha => ?_
   refine (wnum_c (m := 8) hv (by omega) (by show List.length (l)  ≤ _; omega) (HI.out.1.1) (HI.out.1.2)).mono ?_
   rintro e u' ⟨rfl, v', h1, h2⟩
   exact ⟨rfl, v', h1, h2⟩
  ·intro s G u hC hk hw
   rw [show (execOp _ _).run Tryz.prog u = .ok (.enter 19 #[.pointer (some ⟨pb, 0, none⟩), .int .i64 8, .int .i64 a]) u by kernel_rfl]
   refine CW.call hC hk rfl (fun d e => by cases e; rfl) fun v hv hc ha => ?_
   refine (wnum_c (m := 8) hv (by omega) (by show List.length (l ++ nb 8 id)  ≤ _; simp only [List.length_append, nb_len]; omega) (HI.out.2.1.1) (HI.out.2.1.2)).mono ?_
   rintro e u' ⟨rfl, v', h1, h2⟩
   exact ⟨rfl, v', h1, h2⟩
  ·intro s G u hC hk hw
   rw [show (execOp _ _).run Tryz.prog u = .ok (.enter 19 #[.pointer (some ⟨pb, 0, none⟩), .int .i64 8, .int .i64 b]) u by kernel_rfl]
   refine CW.call hC hk rfl (fun d e => by cases e; rfl) fun v hv hc ha => ?_
   refine (wnum_c (m := 8) hv (by omega) (by show List.length (l ++ nb 8 id ++ nb 8 a)  ≤ _; simp only [List.length_append, nb_len]; omega) (HI.out.2.2.1.1) (HI.out.2.2.1.2)).mono ?_
   rintro e u' ⟨rfl, v', h1, h2⟩
   exact ⟨rfl, v', h1, h2⟩
  ·intro s G u hC hk hw
   rw [show (execOp _ _).run Tryz.prog u = .ok (.enter 20 #[.pointer (some ⟨pb, 0, none⟩), G 16]) u by kernel_rfl]
   refine CW.call hC hk rfl (fun d e => by cases e; rfl) fun v hv hc ha => ?_
   obtain ⟨g, eg, hg, og⟩ := ha 0 _ rfl (hw 1 0 16 rfl (by kernel_rfl))
   rw [show G 16 = _ from eg]
   refine (wv_c (n := 2) (c := 2) hv (sl2 hg) (fun _ => offs_of og (by omega)) (cin_c2 HI.out.2.2.2.1 HI.out.2.2.2.2.1 HI.out.2.2.2.2.2.1 HI.out.2.2.2.2.2.2.1) (by show List.length (l ++ nb 8 id ++ nb 8 a ++ nb 8 b) + 16 * 2 ≤ _; simp only [List.length_append, nb_len]; omega)).mono ?_
   rintro e u' ⟨rfl, v', h1, h2⟩
   exact ⟨rfl, v', h1, h2⟩
  ·intro s G u hC hk hw
   rw [show (execOp _ _).run Tryz.prog u = .ok (.enter 34 #[.pointer (some ⟨pb, 0, none⟩), G 20]) u by kernel_rfl]
   refine CW.call hC hk rfl (fun d e => by cases e; rfl) fun v hv hc ha => ?_
   obtain ⟨g, eg, hg, og⟩ := ha 1 _ rfl (hw 2 0 20 rfl (by kernel_rfl))
   rw [show G 20 = _ from eg]
   refine (wf_c (n := 1) (c := 1) hv (ns1 hg) (fun _ => offs_of og (by omega)) (fun _ _ => HI.out.2.2.2.2.2.2.2) (by show List.length (l ++ nb 8 id ++ nb 8 a ++ nb 8 b ++ vB (c2 ax ay tx ty) 2) + 8 * 1 ≤ _; simp only [List.length_append, nb_len, vB_len]; omega)).mono ?_
   rintro e u' ⟨rfl, v', h1, h2⟩
   exact ⟨rfl, v', h1, h2⟩
  ·intro s G u hC hk hw
   rw [show (execOp _ _).run Tryz.prog u = .ok (.value (.slice (some ⟨u.heap.size, 0, none⟩) 2 2)) (u.alloc (.cells #[.int .i64 ax, .int .i64 ay, .int .i64 tx, .int .i64 ty] 28)) by kernel_rfl]
   exact CW.make (i := 0) hC _ rfl rfl (fun i' a' h hne => by
    match i', h with
    | 0, h => exact absurd rfl hne
    | 1, h => cases h; exact Nat.ne_of_beq_eq_false rfl
    | n + 2, h => simp at h)
  ·intro s G u hC hk hw
   rw [show (execOp _ _).run Tryz.prog u = .ok (.value (.slice (some ⟨u.heap.size, 0, none⟩) 1 1)) (u.alloc (.cells #[.int .i64 ln] 26)) by kernel_rfl]
   exact CW.make (i := 1) hC _ rfl rfl (fun i' a' h hne => by
    match i', h with
    | 0, h => cases h; exact Nat.ne_of_beq_eq_false rfl
    | 1, h => exact absurd rfl hne
    | n + 2, h => simp at h)
 case q2c =>
  intro G u2 hu
  obtain ⟨v2, hv2, hc2, _⟩ := hu
  have HV2 : Hid (Wv u2 pb v2 (l ++ nb 8 id ++ nb 8 a ++ nb 8 b ++ vB (c2 ax ay tx ty) 2 ++ fB (fun _ => ln) 1)) := hv2
  have HC2 := hid hc2
  clear hv2 hc2 e0 e1 e2 e3 e4 e5 e6 e7
  simp only [RF.AG, Act.put, List.setIfInBounds_toArray, List.set_cons_succ, List.set_cons_zero]
  go_wp2_with fail
  refine cvoid_end rfl rfl ⟨rfl, v2, ?_, ((Wc.rfl_ _ _ _).made KW.out).then_ HC2.out⟩
  have h := HV2.out
  unfold jtB
  rw [vB2, fB1] at h
  simpa only [List.append_assoc] using h
theorem cwjoint_c {pb : Nat} {v : Value} {l : List Nat} (x : Jt) {w : World} (hW : Wv w pb v l) (hI : JtI x) (hn : l.length + 200 ≤ 549755813888) :
  Calls Tryz.prog 52 #[.pointer (some ⟨pb, 0, none⟩), jtV x] w fun e w' => e = .returned (.tuple #[]) ∧ ∃ v', Wv w' pb v' (l ++ jtB x) ∧ Wc pb w w' v v' := by
 obtain ⟨id, a, b, ax, ay, tx, ty, ln⟩ := x
 exact cwjoint_c1 hW hI hn
theorem cwcontact_c1 {pb : Nat} {v : Value} {l : List Nat} {a b key n t : Int} {w : World} (hW : Wv w pb v l) (hI : CtI (⟨a, b, key, n, t⟩ : Ct)) (hn : l.length + 200 ≤ 549755813888) :
  Calls Tryz.prog 54 #[.pointer (some ⟨pb, 0, none⟩), .agg #[.int .i64 a, .int .i64 b, .int .i64 key, .int .i64 n, .int .i64 t]] w fun e w' => e = .returned (.tuple #[]) ∧ ∃ v', Wv w' pb v' (l ++ ctB (⟨a, b, key, n, t⟩ : Ct)) ∧ Wc pb w w' v v' := by
 have HW := hid hW
 have HI := hid hI
 obtain ⟨W, eW⟩ : ∃ W, W = w.alloc (.cells #[.int .i64 a, .int .i64 b, .int .i64 key, .int .i64 n, .int .i64 t] 105) := ⟨_, rfl⟩
 have KW : Hid (Made w.heap.size w W) := by unfold Hid; rw [eW]; exact (Made.rfl_ _ _).cells (Nat.le_refl _) _ _
 obtain ⟨g1, eg1⟩ : ∃ g, w.heap.size = g := ⟨_, rfl⟩
 have HB : Hid (Has W g1 105 #[.int .i64 a, .int .i64 b, .int .i64 key, .int .i64 n, .int .i64 t]) := by unfold Hid; rw [eW, ← eg1]; exact has_new _ _ _
 have HG : Hid (¬ OwnW pb v g1) := HW.out.off (.inr (Nat.le_of_eq eg1))
 have HW1 := hid (HW.out.kept KW.out)
 have e0 : W.cell? ⟨g1, 0, none⟩ = some (.int .i64 a) := HB.out.at_ 0
 have e1 : W.cell? ⟨g1, 1, none⟩ = some (.int .i64 b) := HB.out.at_ 1
 have e2 : W.cell? ⟨g1, 2, none⟩ = some (.int .i64 key) := HB.out.at_ 2
 have e3 : W.cell? ⟨g1, 3, none⟩ = some (.int .i64 n) := HB.out.at_ 3
 have e4 : W.cell? ⟨g1, 4, none⟩ = some (.int .i64 t) := HB.out.at_ 4
 clear hW hI
 go_enter Tryz.func54, Tryz.ntmps54
 go_upto_region 1 with fail
 rw [← eW]
 clear eW
 try rw [eg1]
 clear eg1
 refine RF.reg_flow (CW W pb v [l, l ++ nb 8 a, l ++ nb 8 a ++ nb 8 b, l ++ nb 8 a ++ nb 8 b ++ nb 8 key, l ++ nb 8 a ++ nb 8 b ++ nb 8 key ++ fB (fun i => if i = 0 then n else t) 2] [⟨16, 26, 2, #[.int .i64 n, .int .i64 t]⟩]) [[5, 8, 11, 17], [16]] [(16, 20)] [0, 1, 2, 3, 4, 6, 7, 9, 10, 12, 13, 14, 15] [(9, .pointer (some ⟨pb, 0, none⟩)), (12, .pointer (some ⟨pb, 0, none⟩)), (15, .pointer (some ⟨pb, 0, none⟩)), (21, .pointer (some ⟨pb, 0, none⟩))] 22 (by kernel_rfl) (CW.start HW1.out) (by kernel_rfl) rfl (by kernel_rfl) (by kernel_rfl) ?_
 apply Exists.intro
 refine ⟨?q3a, ?q3b, ?q3c⟩
 case q3a =>
  intro s G Ty hT f hf
  have z0 := CW.reads hf e0 HG.out
  have z1 := CW.reads hf e1 HG.out
  have z2 := CW.reads hf e2 HG.out
  have z3 := CW.reads hf e3 HG.out
  have z4 := CW.reads hf e4 HG.out
  clear hf
  simp only [RF.putF, Act.put, List.setIfInBounds_toArray, List.set_cons_succ, List.set_cons_zero]
  change wpQuiet _ _ _ _ [_, _, _, _, _, _, _, _, _, _, _, _, _] _
  repeat (go_big_quiet_step (fail))
  exact wpQuiet_nil rfl
 case q3b =>
  refine ⟨⟨?_, ?_, ?_, ?_, trivial⟩, ⟨?_, trivial⟩, trivial⟩
  ·intro s G u hC hk hw
   rw [show (execOp _ _).run Tryz.prog u = .ok (.enter 19 #[.pointer (some ⟨pb, 0, none⟩), .int .i64 8, .int .i64 a]) u by kernel_rfl]
   refine CW.call hC hk rfl (fun d e => by cases e; rfl) fun v hv hc ha => ?_
   refine (wnum_c (m := 8) hv (by omega) (by show List.length (l)  ≤ _; omega) (HI.out.1.1) (HI.out.1.2)).mono ?_
   rintro e u' ⟨rfl, v', h1, h2⟩
   exact ⟨rfl, v', h1, h2⟩
  ·intro s G u hC hk hw
   rw [show (execOp _ _).run Tryz.prog u = .ok (.enter 19 #[.pointer (some ⟨pb, 0, none⟩), .int .i64 8, .int .i64 b]) u by kernel_rfl]
   refine CW.call hC hk rfl (fun d e => by cases e; rfl) fun v hv hc ha => ?_
   refine (wnum_c (m := 8) hv (by omega) (by show List.length (l ++ nb 8 a)  ≤ _; simp only [List.length_append, nb_len]; omega) (HI.out.2.1.1) (HI.out.2.1.2)).mono ?_
   rintro e u' ⟨rfl, v', h1, h2⟩
   exact ⟨rfl, v', h1, h2⟩
  ·intro s G u hC hk hw
   rw [show (execOp _ _).run Tryz.prog u = .ok (.enter 19 #[.pointer (some ⟨pb, 0, none⟩), .int .i64 8, .int .i64 key]) u by kernel_rfl]
   refine CW.call hC hk rfl (fun d e => by cases e; rfl) fun v hv hc ha => ?_
   refine (wnum_c (m := 8) hv (by omega) (by show List.length (l ++ nb 8 a ++ nb 8 b)  ≤ _; simp only [List.length_append, nb_len]; omega) (HI.out.2.2.1.1) (HI.out.2.2.1.2)).mono ?_
   rintro e u' ⟨rfl, v', h1, h2⟩
   exact ⟨rfl, v', h1, h2⟩
  ·intro s G u hC hk hw
   rw [show (execOp _ _).run Tryz.prog u = .ok (.enter 34 #[.pointer (some ⟨pb, 0, none⟩), G 16]) u by kernel_rfl]
   refine CW.call hC hk rfl (fun d e => by cases e; rfl) fun v hv hc ha => ?_
   obtain ⟨g, eg, hg, og⟩ := ha 0 _ rfl (hw 1 0 16 rfl (by kernel_rfl))
   rw [show G 16 = _ from eg]
   refine (wf_c (n := 2) (c := 2) hv (ns2 hg) (fun _ => offs_of og (by omega)) (i64_f2 HI.out.2.2.2.1 HI.out.2.2.2.2) (by show List.length (l ++ nb 8 a ++ nb 8 b ++ nb 8 key) + 8 * 2 ≤ _; simp only [List.length_append, nb_len]; omega)).mono ?_
   rintro e u' ⟨rfl, v', h1, h2⟩
   exact ⟨rfl, v', h1, h2⟩
  ·intro s G u hC hk hw
   rw [show (execOp _ _).run Tryz.prog u = .ok (.value (.slice (some ⟨u.heap.size, 0, none⟩) 2 2)) (u.alloc (.cells #[.int .i64 n, .int .i64 t] 26)) by kernel_rfl]
   exact CW.make (i := 0) hC _ rfl rfl (fun i' a' h hne => by
    match i', h with
    | 0, h => exact absurd rfl hne
    | n + 1, h => simp at h)
 case q3c =>
  intro G u2 hu
  obtain ⟨v2, hv2, hc2, _⟩ := hu
  have HV2 : Hid (Wv u2 pb v2 (l ++ nb 8 a ++ nb 8 b ++ nb 8 key ++ fB (fun i => if i = 0 then n else t) 2)) := hv2
  have HC2 := hid hc2
  clear hv2 hc2 e0 e1 e2 e3 e4
  simp only [RF.AG, Act.put, List.setIfInBounds_toArray, List.set_cons_succ, List.set_cons_zero]
  go_wp2_with fail
  refine cvoid_end rfl rfl ⟨rfl, v2, ?_, ((Wc.rfl_ _ _ _).made KW.out).then_ HC2.out⟩
  have h := HV2.out
  unfold ctB
  rw [fB2] at h
  simpa only [List.append_assoc] using h
theorem cwcontact_c {pb : Nat} {v : Value} {l : List Nat} (x : Ct) {w : World} (hW : Wv w pb v l) (hI : CtI x) (hn : l.length + 200 ≤ 549755813888) :
  Calls Tryz.prog 54 #[.pointer (some ⟨pb, 0, none⟩), ctV x] w fun e w' => e = .returned (.tuple #[]) ∧ ∃ v', Wv w' pb v' (l ++ ctB x) ∧ Wc pb w w' v v' := by
 obtain ⟨a, b, key, n, t⟩ := x
 exact cwcontact_c1 hW hI hn
end Go.Proofs.YtgdcphmmehedoaaGreat.Fx