/- What package box is to answer, as one premise; the statements' own circle; BoxGrows. -/
import Derived.Test.YtpladcnckhpjmaaPlace
import Derived.Test.YtpladcnckhpjmaaBoxP
namespace Go.Proofs.Ytpladcnckhpjmaa.Fx
open Go.ChangeShapes Go.WideShapes Go.ChangeAt Go.RowKit
set_option linter.unusedVariables false

abbrev rectV (lx ly hx hy : Int) : Value := .agg #[.int .i64 lx, .int .i64 ly, .int .i64 hx, .int .i64 hy]
structure BoxSays : Prop where
  disc : ∀ (X Y A R : Int) (w : World), I64 X → I64 Y → I64 R → Calls Try.prog 9 #[bodyV 0 X Y 0 0 A 0 0 1 R (.slice none 0 0)] w fun e w' => e = .returned (rectV (subF X R) (subF Y R) (addF X R) (addF Y R)) ∧ Made w.heap.size w w'
  poly : ∀ (X Y A : Int) (b off n cap : Nat) (f : Cs) (lx hx ly hy : Int) (w : World), I64 X → I64 Y → I64 A → 3 ≤ n → n ≤ 8 → Pts w b off n f → Cin f n →
    Ext (fun i => (placeF f (cs (stepF A)) (sn (stepF A)) X Y i).1) n lx hx → Ext (fun i => (placeF f (cs (stepF A)) (sn (stepF A)) X Y i).2) n ly hy →
    Calls Try.prog 9 #[bodyV 0 X Y 0 0 A 0 0 2 0 (.slice (some ⟨b, off, none⟩) n cap)] w fun e w' => e = .returned (rectV lx ly hx hy) ∧ Made w.heap.size w w'
  grow : ∀ (lx ly hx hy d : Int) (w : World), I64 lx → I64 ly → I64 hx → I64 hy → I64 d → Calls Try.prog 14 #[rectV lx ly hx hy, .int .i64 d] w fun e w' => e = .returned (rectV (subF lx d) (subF ly d) (addF hx d) (addF hy d)) ∧ Made w.heap.size w w'
  holds : ∀ (lx ly hx hy x y : Int) (r : Bool) (w : World), Rg lx → Rg ly → Rg hx → Rg hy → Rg x → Rg y → (r = true ↔ (lx ≤ x ∧ x ≤ hx) ∧ (ly ≤ y ∧ y ≤ hy)) →
    Calls Try.prog 13 #[rectV lx ly hx hy, vecV x y] w fun e w' => e = .returned (.bool r) ∧ Made w.heap.size w w'
  meet : ∀ (lx ly hx hy x y u v : Int) (r : Bool) (w : World), Rg lx → Rg ly → Rg hx → Rg hy → Rg x → Rg y → Rg u → Rg v → (r = true ↔ (lx ≤ u ∧ x ≤ hx) ∧ (ly ≤ v ∧ y ≤ hy)) →
    Calls Try.prog 17 #[rectV lx ly hx hy, rectV x y u v] w fun e w' => e = .returned (.bool r) ∧ Made w.heap.size w w'

set_option maxRecDepth 100000 in
set_option maxHeartbeats 1000000 in
theorem bfit_is (BS : BoxSays) (w : World) : Calls Try.prog 7 #[] w fun e w' => e = .returned (.bool true) ∧ Made w.heap.size w w' := by
  have i3 : I64 12884901888 := by unfold I64; omega
  have i0 : I64 0 := by unfold I64; omega
  have i1 : I64 4294967296 := by unfold I64; omega
  have e1 : subF 12884901888 4294967296 = 8589934592 := by kernel_rfl
  have e2 : subF 0 4294967296 = -4294967296 := by kernel_rfl
  have e3 : addF 12884901888 4294967296 = 17179869184 := by kernel_rfl
  have e4 : addF 0 4294967296 = 4294967296 := by kernel_rfl
  have h1 := BS.disc 12884901888 0 0 4294967296
  rw [e1, e2, e3, e4] at h1
  have H1 := hid h1
  have H2 := hid (fun w => BS.holds 8589934592 (-4294967296) 17179869184 4294967296 12884901888 0 true w (by unfold Rg; omega) (by unfold Rg; omega) (by unfold Rg; omega) (by unfold Rg; omega) (by unfold Rg; omega) (by unfold Rg; omega) (yes_iff (by omega)))
  have H3 := hid (fun w => BS.holds 8589934592 (-4294967296) 17179869184 4294967296 0 0 false w (by unfold Rg; omega) (by unfold Rg; omega) (by unfold Rg; omega) (by unfold Rg; omega) (by unfold Rg; omega) (by unfold Rg; omega) (no_iff (by omega)))
  clear h1 e1 e2 e3 e4 BS
  go_enter Try.func7, Try.ntmps7
  go_wp2_with fail
  refine (H1.out w i3 i0 i1).mono ?_
  rintro e w1 ⟨rfl, k1⟩
  have K1 := hid k1
  clear k1
  go_wp2_with fail
  refine (H2.out _).mono ?_
  rintro e w2 ⟨rfl, k2⟩
  have r0 := k2.reads (p := ⟨w1.heap.size, 0, none⟩) (x := .int .i64 8589934592) (by go_simp)
  have r1 := k2.reads (p := ⟨w1.heap.size, 1, none⟩) (x := .int .i64 (-4294967296)) (by go_simp)
  have r2 := k2.reads (p := ⟨w1.heap.size, 2, none⟩) (x := .int .i64 17179869184) (by go_simp)
  have r3 := k2.reads (p := ⟨w1.heap.size, 3, none⟩) (x := .int .i64 4294967296) (by go_simp)
  have K2 : Hid (Made w.heap.size w w2) := K1.out.then_ ((made_box k2).low K1.out.1.size)
  clear k2
  go_wp2_with fail
  refine (H3.out _).mono ?_
  rintro e w3 ⟨rfl, k3⟩
  have K3 : Hid (Made w.heap.size w w3) := K2.out.then_ (k3.low K2.out.1.size)
  clear k3
  go_wp2_with fail
  go_ret
  exact ⟨rfl, K3.out⟩

set_option maxRecDepth 100000 in
set_option maxHeartbeats 4000000 in
theorem bgrows_walk (BS : BoxSays) (lx ly hx hy d : Int) (w : World) (i0 : I64 lx) (i1 : I64 ly) (i2 : I64 hx) (i3 : I64 hy) (id_ : I64 d) :
    Calls Try.prog 4 #[rectV lx ly hx hy, .int .i64 d] w fun e w' => e = .returned (.bool true) ∧ Made w.heap.size w w' := by
  have HB := hid BS
  obtain ⟨a, ea⟩ : ∃ a, subF lx d = a := ⟨_, rfl⟩
  obtain ⟨b, eb⟩ : ∃ a, subF ly d = a := ⟨_, rfl⟩
  obtain ⟨p, ep⟩ : ∃ a, addF hx d = a := ⟨_, rfl⟩
  obtain ⟨q, eq⟩ : ∃ a, addF hy d = a := ⟨_, rfl⟩
  have EA := hid ea
  have EB := hid eb
  have EP := hid ep
  have EQ := hid eq
  have HG := hid (BS.grow lx ly hx hy d)
  rw [ea, eb, ep, eq] at HG
  clear BS ea eb ep eq
  go_enter Try.func4, Try.ntmps4
  go_wp2_with fail
  refine (bfit_is HB.out _).mono ?_
  rintro e w1 ⟨rfl, k1⟩
  have r0 := k1.reads (p := ⟨w.heap.size, 0, none⟩) (x := .int .i64 lx) (by go_simp)
  have r1 := k1.reads (p := ⟨w.heap.size, 1, none⟩) (x := .int .i64 ly) (by go_simp)
  have r2 := k1.reads (p := ⟨w.heap.size, 2, none⟩) (x := .int .i64 hx) (by go_simp)
  have r3 := k1.reads (p := ⟨w.heap.size, 3, none⟩) (x := .int .i64 hy) (by go_simp)
  have M1 := hid (made_box k1)
  clear k1
  go_wp2_with fail
  refine (HG.out w1 i0 i1 i2 i3 id_).mono ?_
  rintro e w2 ⟨rfl, k2⟩
  have r0 := k2.reads r0
  have r1 := k2.reads r1
  have r2 := k2.reads r2
  have r3 := k2.reads r3
  have M2 : Hid (Made w.heap.size w w2) := M1.out.then_ (k2.low M1.out.1.size)
  clear k2
  go_wp2_with fail
  obtain ⟨W, eW⟩ : ∃ W, W = w2.alloc (.cells #[.int .i64 a, .int .i64 b, .int .i64 p, .int .i64 q] 37) := ⟨_, rfl⟩
  have hT : Has W w2.heap.size 37 #[.int .i64 a, .int .i64 b, .int .i64 p, .int .i64 q] := by rw [eW]; exact has_new _ _ _
  have MW : Hid (Made w.heap.size w W) := by unfold Hid; rw [eW]; exact M2.out.cells M2.out.1.size _ _
  have r0 : W.cell? ⟨w.heap.size, 0, none⟩ = some (.int .i64 lx) := by rw [eW]; exact cell_more r0
  have r1 : W.cell? ⟨w.heap.size, 1, none⟩ = some (.int .i64 ly) := by rw [eW]; exact cell_more r1
  have r2 : W.cell? ⟨w.heap.size, 2, none⟩ = some (.int .i64 hx) := by rw [eW]; exact cell_more r2
  have r3 : W.cell? ⟨w.heap.size, 3, none⟩ = some (.int .i64 hy) := by rw [eW]; exact cell_more r3
  rw [← eW]
  clear eW
  have q0 := hT.at_ 0
  have q1 := hT.at_ 1
  have q2 := hT.at_ 2
  have q3 := hT.at_ 3
  simp at q0 q1 q2 q3
  clear hT
  refine reg_made (by kernel_rfl) (by kernel_rfl) ?_
  intro Ty hT fw hf
  have x0 := Class.reads hf r0
  have x1 := Class.reads hf r1
  have x2 := Class.reads hf r2
  have x3 := Class.reads hf r3
  have y0 := Class.reads hf q0
  have y1 := Class.reads hf q1
  have y2 := Class.reads hf q2
  have y3 := Class.reads hf q3
  repeat (go_big_quiet_step ((first | (go_at_call 15; with_reducible first | exact hf.same (sub_is _ _ _ _ i0 id_ EA.out) | exact hf.same (sub_is _ _ _ _ i1 id_ EB.out)) | (go_at_call 16; with_reducible first | exact hf.same (add_is _ _ _ _ i2 id_ EP.out) | exact hf.same (add_is _ _ _ _ i3 id_ EQ.out)))))
  refine wpQuiet_nil ?_
  intro w4 h4
  have k4 := hf.here h4
  go_wp2_with fail
  go_ret
  exact ⟨rfl, MW.out.then_ (k4.low MW.out.1.size)⟩
end Go.Proofs.Ytpladcnckhpjmaa.Fx
