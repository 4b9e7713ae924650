/- The statements' own cut: two ends, by a corner and a way. -/
import Derived.Test.YtckgpkbdckpcmaaTouchA
import Derived.Test.YtckgpkbdckpcmaaMex
import Derived.Deep.DeepCutAuto
namespace Go.Proofs.Ytckgpkbdckpcmaa.Fx
open Go.ChangeShapes Go.WideShapes Go.ChangeAt Go.RowKit
set_option linter.unusedVariables false

set_option maxRecDepth 100000 in
set_option maxHeartbeats 1000000 in
theorem lcut_none (px py qx qy vx vy tx ty x y : Int) (w : World) (i0 : I64 px) (i1 : I64 py) (i2 : I64 qx) (i3 : I64 qy) (i4 : I64 vx) (i5 : I64 vy) (i6 : I64 tx) (i7 : I64 ty) (ex : dotV (tx, ty) (subV (px, py) (vx, vy)) = x) (ey : dotV (tx, ty) (subV (qx, qy) (vx, vy)) = y) (hx : x < 0) (hy : y < 0) :
    Calls Try.prog 59 #[vecV px py, vecV qx qy, vecV vx vy, vecV tx ty] w fun e w' => e = .returned (.tuple #[vecV px py, vecV qx qy, .bool false]) ∧ Made w.heap.size w w' := by
  obtain ⟨ux, eux⟩ : ∃ z, subF px vx = z := ⟨_, rfl⟩
  obtain ⟨uy, euy⟩ : ∃ z, subF py vy = z := ⟨_, rfl⟩
  obtain ⟨zx, ezx⟩ : ∃ z, subF qx vx = z := ⟨_, rfl⟩
  obtain ⟨zy, ezy⟩ : ∃ z, subF qy vy = z := ⟨_, rfl⟩
  have iux : I64 ux := by rw [← eux]; exact i64_sub _ _
  have iuy : I64 uy := by rw [← euy]; exact i64_sub _ _
  have izx : I64 zx := by rw [← ezx]; exact i64_sub _ _
  have izy : I64 zy := by rw [← ezy]; exact i64_sub _ _
  have ix : I64 x := by rw [← ex]; exact i64_add _ _
  have iy : I64 y := by rw [← ey]; exact i64_add _ _
  have EX : Hid (addF (mulF tx ux) (mulF ty uy) = x) := by unfold Hid; rw [← eux, ← euy]; exact ex
  have EY : Hid (addF (mulF tx zx) (mulF ty zy) = y) := by unfold Hid; rw [← ezx, ← ezy]; exact ey
  have EUX := hid eux; have EUY := hid euy; have EZX := hid ezx; have EZY := hid ezy
  clear eux euy ezx ezy ex ey
  have gx : decide (x < 0) = true := by exact decide_eq_true hx
  have gy : decide (y < 0) = true := by exact decide_eq_true hy
  clear hx hy
  go_enter Try.func59, Try.ntmps59
  go_upto_region 1 with fail
  obtain ⟨W0, eW⟩ : ∃ W, W = (((((w.alloc (.cells #[.int .i64 px, .int .i64 py] 26)).alloc (.cells #[.int .i64 qx, .int .i64 qy] 26)).alloc (.cells #[.int .i64 vx, .int .i64 vy] 26)).alloc (.cells #[.int .i64 tx, .int .i64 ty] 26)).alloc (.cells #[.int .i64 0, .int .i64 0] 26)).alloc (.cells #[.int .i64 0, .int .i64 0] 26) := ⟨_, rfl⟩
  have p0 : W0.cell? ⟨w.heap.size, 0, none⟩ = some (.int .i64 px) := by rw [eW]; go_simp
  have p1 : W0.cell? ⟨w.heap.size, 1, none⟩ = some (.int .i64 py) := by rw [eW]; go_simp
  have q0 : W0.cell? ⟨w.heap.size + 1, 0, none⟩ = some (.int .i64 qx) := by rw [eW]; go_simp
  have q1 : W0.cell? ⟨w.heap.size + 1, 1, none⟩ = some (.int .i64 qy) := by rw [eW]; go_simp
  have v0 : W0.cell? ⟨w.heap.size + 1 + 1, 0, none⟩ = some (.int .i64 vx) := by rw [eW]; go_simp
  have v1 : W0.cell? ⟨w.heap.size + 1 + 1, 1, none⟩ = some (.int .i64 vy) := by rw [eW]; go_simp
  have t0 : W0.cell? ⟨w.heap.size + 1 + 1 + 1, 0, none⟩ = some (.int .i64 tx) := by rw [eW]; go_simp
  have t1 : W0.cell? ⟨w.heap.size + 1 + 1 + 1, 1, none⟩ = some (.int .i64 ty) := by rw [eW]; go_simp
  have o0 : W0.cell? ⟨w.heap.size + 1 + 1 + 1 + 1, 0, none⟩ = some (.int .i64 0) := by rw [eW]; go_simp
  have o1 : W0.cell? ⟨w.heap.size + 1 + 1 + 1 + 1, 1, none⟩ = some (.int .i64 0) := by rw [eW]; go_simp
  have s0 : W0.cell? ⟨w.heap.size + 1 + 1 + 1 + 1 + 1, 0, none⟩ = some (.int .i64 0) := by rw [eW]; go_simp
  have s1 : W0.cell? ⟨w.heap.size + 1 + 1 + 1 + 1 + 1, 1, none⟩ = some (.int .i64 0) := by rw [eW]; go_simp
  have of_ : ∀ i, W0.frozen? ⟨w.heap.size + 1 + 1 + 1 + 1, i, none⟩ = false := fun i => by rw [eW]; go_simp
  have sf : ∀ i, W0.frozen? ⟨w.heap.size + 1 + 1 + 1 + 1 + 1, i, none⟩ = false := fun i => by rw [eW]; go_simp
  have M0 : Hid (Made w.heap.size w W0) := by unfold Hid; rw [eW]; exact ((((((Made.rfl_ _ _).cells (Nat.le_refl _) _ _).cells (by simp) _ _).cells (by simp; omega) _ _).cells (by simp; omega) _ _).cells (by simp; omega) _ _).cells (by simp; omega) _ _
  rw [← eW]
  clear eW
  refine reg_made (by kernel_rfl) (by kernel_rfl) ?_
  intro T hT f hf
  have p0' := Class.reads hf p0
  have p1' := Class.reads hf p1
  have q0' := Class.reads hf q0
  have q1' := Class.reads hf q1
  have v0' := Class.reads hf v0
  have v1' := Class.reads hf v1
  have t0' := Class.reads hf t0
  have t1' := Class.reads hf t1
  repeat (go_big_quiet_step ((first
    | (go_at_call 19; with_reducible first | exact hf.made (vsub_is _ _ _ _ _ _ _ i0 i1 i4 i5 EUX.out EUY.out) | exact hf.made (vsub_is _ _ _ _ _ _ _ i2 i3 i4 i5 EZX.out EZY.out))
    | (go_at_call 43; with_reducible first | exact hf.made (vdot_is _ _ _ _ _ _ i6 i7 iux iuy EX.out) | exact hf.made (vdot_is _ _ _ _ _ _ i6 i7 izx izy EY.out)))))
  refine wpQuiet_nil ?_
  intro w1 h1
  have k1 := hf.here h1
  have p0 := k1.reads p0
  have p1 := k1.reads p1
  have q0 := k1.reads q0
  have q1 := k1.reads q1
  have o0 := k1.reads o0
  have o1 := k1.reads o1
  have s0 := k1.reads s0
  have s1 := k1.reads s1
  have of_ : ∀ i, w1.frozen? ⟨w.heap.size + 1 + 1 + 1 + 1, i, none⟩ = false := fun i => (k1.2 _).trans (of_ i)
  have sf : ∀ i, w1.frozen? ⟨w.heap.size + 1 + 1 + 1 + 1 + 1, i, none⟩ = false := fun i => (k1.2 _).trans (sf i)
  have M1 : Hid (Made w.heap.size w w1) := M0.out.then_ (k1.low M0.out.1.size)
  clear k1 h1 hf p0' p1' q0' q1' v0' v1' t0' t1' v0 v1 t0 t1 M0
  go_upto_region 3 with fail
  go_region
  all_goals (go_wp2_with fail)
  all_goals (refine bodyPost_ret (v := .tuple #[vecV px py, vecV qx qy, .bool false]) (by simp [results, Try.results59, go_sem, o0, o1, s0, s1]) rfl ⟨rfl, ?_⟩)
  all_goals (exact ((((M1.out.draws 1).put (by simp; try omega) _).put (by simp; try omega) _).put (by simp; try omega) _).put (by simp; try omega) _)

set_option maxRecDepth 100000 in
set_option maxHeartbeats 1000000 in
theorem lcut_p (px py qx qy vx vy tx ty x y : Int) (w : World) (i0 : I64 px) (i1 : I64 py) (i2 : I64 qx) (i3 : I64 qy) (i4 : I64 vx) (i5 : I64 vy) (i6 : I64 tx) (i7 : I64 ty) (ex : dotV (tx, ty) (subV (px, py) (vx, vy)) = x) (ey : dotV (tx, ty) (subV (qx, qy) (vx, vy)) = y) (hx : x < 0) (hy : ¬ y < 0) (ax ay : Int) (ea : moveV (px, py) (qx, qy) x y = (ax, ay)) :
    Calls Try.prog 59 #[vecV px py, vecV qx qy, vecV vx vy, vecV tx ty] w fun e w' => e = .returned (.tuple #[vecV ax ay, vecV qx qy, .bool true]) ∧ Made w.heap.size w w' := by
  obtain ⟨ux, eux⟩ : ∃ z, subF px vx = z := ⟨_, rfl⟩
  obtain ⟨uy, euy⟩ : ∃ z, subF py vy = z := ⟨_, rfl⟩
  obtain ⟨zx, ezx⟩ : ∃ z, subF qx vx = z := ⟨_, rfl⟩
  obtain ⟨zy, ezy⟩ : ∃ z, subF qy vy = z := ⟨_, rfl⟩
  have iux : I64 ux := by rw [← eux]; exact i64_sub _ _
  have iuy : I64 uy := by rw [← euy]; exact i64_sub _ _
  have izx : I64 zx := by rw [← ezx]; exact i64_sub _ _
  have izy : I64 zy := by rw [← ezy]; exact i64_sub _ _
  have ix : I64 x := by rw [← ex]; exact i64_add _ _
  have iy : I64 y := by rw [← ey]; exact i64_add _ _
  have EX : Hid (addF (mulF tx ux) (mulF ty uy) = x) := by unfold Hid; rw [← eux, ← euy]; exact ex
  have EY : Hid (addF (mulF tx zx) (mulF ty zy) = y) := by unfold Hid; rw [← ezx, ← ezy]; exact ey
  have EUX := hid eux; have EUY := hid euy; have EZX := hid ezx; have EZY := hid ezy
  obtain ⟨dx, edx⟩ : ∃ z, subF qx px = z := ⟨_, rfl⟩
  obtain ⟨dy, edy⟩ : ∃ z, subF qy py = z := ⟨_, rfl⟩
  obtain ⟨d, ed⟩ : ∃ z, subF x y = z := ⟨_, rfl⟩
  obtain ⟨r, er⟩ : ∃ z, divF x d = z := ⟨_, rfl⟩
  obtain ⟨sx, esx⟩ : ∃ z, mulF dx r = z := ⟨_, rfl⟩
  obtain ⟨sy, esy⟩ : ∃ z, mulF dy r = z := ⟨_, rfl⟩
  have idx : I64 dx := by rw [← edx]; exact i64_sub _ _
  have idy : I64 dy := by rw [← edy]; exact i64_sub _ _
  have id_ : I64 d := by rw [← ed]; exact i64_sub _ _
  have ir : I64 r := by rw [← er]; exact i64_div _ _
  have isx : I64 sx := by rw [← esx]; exact i64_mul _ _
  have isy : I64 sy := by rw [← esy]; exact i64_mul _ _
  have ea' : (addF px sx, addF py sy) = (ax, ay) := by
    rw [← ea]; unfold moveV; rw [if_pos hx]; unfold addV scaV subV; simp only []; rw [edx, edy, ed, er, esx, esy]
  have EAX : Hid (addF px sx = ax) := (Prod.mk.inj ea').1
  have EAY : Hid (addF py sy = ay) := (Prod.mk.inj ea').2
  have EDX := hid edx; have EDY := hid edy; have ED := hid ed; have ER := hid er; have ESX := hid esx; have ESY := hid esy
  clear edx edy ed er esx esy ea ea'
  clear eux euy ezx ezy ex ey
  have gx : decide (x < 0) = true := by exact decide_eq_true hx
  have gy : decide (y < 0) = false := by exact decide_eq_false hy
  clear hx hy
  go_enter Try.func59, Try.ntmps59
  go_upto_region 1 with fail
  obtain ⟨W0, eW⟩ : ∃ W, W = (((((w.alloc (.cells #[.int .i64 px, .int .i64 py] 26)).alloc (.cells #[.int .i64 qx, .int .i64 qy] 26)).alloc (.cells #[.int .i64 vx, .int .i64 vy] 26)).alloc (.cells #[.int .i64 tx, .int .i64 ty] 26)).alloc (.cells #[.int .i64 0, .int .i64 0] 26)).alloc (.cells #[.int .i64 0, .int .i64 0] 26) := ⟨_, rfl⟩
  have p0 : W0.cell? ⟨w.heap.size, 0, none⟩ = some (.int .i64 px) := by rw [eW]; go_simp
  have p1 : W0.cell? ⟨w.heap.size, 1, none⟩ = some (.int .i64 py) := by rw [eW]; go_simp
  have q0 : W0.cell? ⟨w.heap.size + 1, 0, none⟩ = some (.int .i64 qx) := by rw [eW]; go_simp
  have q1 : W0.cell? ⟨w.heap.size + 1, 1, none⟩ = some (.int .i64 qy) := by rw [eW]; go_simp
  have v0 : W0.cell? ⟨w.heap.size + 1 + 1, 0, none⟩ = some (.int .i64 vx) := by rw [eW]; go_simp
  have v1 : W0.cell? ⟨w.heap.size + 1 + 1, 1, none⟩ = some (.int .i64 vy) := by rw [eW]; go_simp
  have t0 : W0.cell? ⟨w.heap.size + 1 + 1 + 1, 0, none⟩ = some (.int .i64 tx) := by rw [eW]; go_simp
  have t1 : W0.cell? ⟨w.heap.size + 1 + 1 + 1, 1, none⟩ = some (.int .i64 ty) := by rw [eW]; go_simp
  have o0 : W0.cell? ⟨w.heap.size + 1 + 1 + 1 + 1, 0, none⟩ = some (.int .i64 0) := by rw [eW]; go_simp
  have o1 : W0.cell? ⟨w.heap.size + 1 + 1 + 1 + 1, 1, none⟩ = some (.int .i64 0) := by rw [eW]; go_simp
  have s0 : W0.cell? ⟨w.heap.size + 1 + 1 + 1 + 1 + 1, 0, none⟩ = some (.int .i64 0) := by rw [eW]; go_simp
  have s1 : W0.cell? ⟨w.heap.size + 1 + 1 + 1 + 1 + 1, 1, none⟩ = some (.int .i64 0) := by rw [eW]; go_simp
  have of_ : ∀ i, W0.frozen? ⟨w.heap.size + 1 + 1 + 1 + 1, i, none⟩ = false := fun i => by rw [eW]; go_simp
  have sf : ∀ i, W0.frozen? ⟨w.heap.size + 1 + 1 + 1 + 1 + 1, i, none⟩ = false := fun i => by rw [eW]; go_simp
  have M0 : Hid (Made w.heap.size w W0) := by unfold Hid; rw [eW]; exact ((((((Made.rfl_ _ _).cells (Nat.le_refl _) _ _).cells (by simp) _ _).cells (by simp; omega) _ _).cells (by simp; omega) _ _).cells (by simp; omega) _ _).cells (by simp; omega) _ _
  rw [← eW]
  clear eW
  refine reg_made (by kernel_rfl) (by kernel_rfl) ?_
  intro T hT f hf
  have p0' := Class.reads hf p0
  have p1' := Class.reads hf p1
  have q0' := Class.reads hf q0
  have q1' := Class.reads hf q1
  have v0' := Class.reads hf v0
  have v1' := Class.reads hf v1
  have t0' := Class.reads hf t0
  have t1' := Class.reads hf t1
  repeat (go_big_quiet_step ((first
    | (go_at_call 19; with_reducible first | exact hf.made (vsub_is _ _ _ _ _ _ _ i0 i1 i4 i5 EUX.out EUY.out) | exact hf.made (vsub_is _ _ _ _ _ _ _ i2 i3 i4 i5 EZX.out EZY.out))
    | (go_at_call 43; with_reducible first | exact hf.made (vdot_is _ _ _ _ _ _ i6 i7 iux iuy EX.out) | exact hf.made (vdot_is _ _ _ _ _ _ i6 i7 izx izy EY.out)))))
  refine wpQuiet_nil ?_
  intro w1 h1
  have k1 := hf.here h1
  have p0 := k1.reads p0
  have p1 := k1.reads p1
  have q0 := k1.reads q0
  have q1 := k1.reads q1
  have o0 := k1.reads o0
  have o1 := k1.reads o1
  have s0 := k1.reads s0
  have s1 := k1.reads s1
  have of_ : ∀ i, w1.frozen? ⟨w.heap.size + 1 + 1 + 1 + 1, i, none⟩ = false := fun i => (k1.2 _).trans (of_ i)
  have sf : ∀ i, w1.frozen? ⟨w.heap.size + 1 + 1 + 1 + 1 + 1, i, none⟩ = false := fun i => (k1.2 _).trans (sf i)
  have M1 : Hid (Made w.heap.size w w1) := M0.out.then_ (k1.low M0.out.1.size)
  clear k1 h1 hf p0' p1' q0' q1' v0' v1' t0' t1' v0 v1 t0 t1 M0
  have lw : w.heap.size + 1 + 1 + 1 + 1 + 1 < w1.heap.size := World.block_lt_of_cell? _ _ s0
  have lw1 : w.heap.size + 1 < w1.heap.size := by omega
  have lw0 : w.heap.size < w1.heap.size := by omega
  go_upto_region 4 with fail
  go_cut [13, 14] (fun s7 s8 wx => ∃ g7 g8, s7 = .pointer (some ⟨g7, 0, none⟩) ∧ s8 = .pointer (some ⟨g8, 0, none⟩) ∧ g7 ≠ g8 ∧ w1.heap.size ≤ g7 ∧ w1.heap.size ≤ g8 ∧ Hid (Has wx g7 26 #[.int .i64 px, .int .i64 py]) ∧ Hid (Has wx g8 26 #[.int .i64 qx, .int .i64 qy]) ∧ Hid (Made w1.heap.size w1 wx))
  case first =>
    go_region
    all_goals (go_wp2_with fail)
    all_goals go_meet
    all_goals first
      | exact ⟨w1.heap.size, w1.heap.size + 1, rfl, rfl, by omega, by omega, by omega, ((has_new _ _ _).more _).drawn 1, (has_next _ _ _ _).drawn 1, (((Made.rfl_ _ _).cells (Nat.le_refl _) _ _).cells (by simp) _ _).draws 1⟩
      | exact ⟨w1.heap.size + 1, w1.heap.size, rfl, rfl, by omega, by omega, by omega, (has_next _ _ _ _).drawn 1, ((has_new _ _ _).more _).drawn 1, (((Made.rfl_ _ _).cells (Nat.le_refl _) _ _).cells (by simp) _ _).draws 1⟩
  obtain ⟨g7, g8, rfl, rfl, hne, h7, h8, H7, H8, HM⟩ := hcut
  have hne' : g8 ≠ g7 := fun e => hne e.symm
  have p0 := HM.out.reads p0
  have p1 := HM.out.reads p1
  have q0 := HM.out.reads q0
  have q1 := HM.out.reads q1
  have o0 := HM.out.reads o0
  have o1 := HM.out.reads o1
  have s0 := HM.out.reads s0
  have s1 := HM.out.reads s1
  have of_ : ∀ i, wc.frozen? ⟨w.heap.size + 1 + 1 + 1 + 1, i, none⟩ = false := fun i => (HM.out.2 _).trans (of_ i)
  have sf : ∀ i, wc.frozen? ⟨w.heap.size + 1 + 1 + 1 + 1 + 1, i, none⟩ = false := fun i => (HM.out.2 _).trans (sf i)
  have M2 : Hid (Made w.heap.size w wc) := M1.out.then_ (HM.out.low M1.out.1.size)
  have l7 := H7.out.here
  have l8 := H8.out.here
  clear HM
  go_upto_region 6 with fail
  refine reg_made_tail 11 (by kernel_rfl) (by kernel_rfl) ?_
  intro T hT f hf
  have p0' := Class.reads hf p0
  have p1' := Class.reads hf p1
  have q0' := Class.reads hf q0
  have q1' := Class.reads hf q1
  simp only [List.take_succ_cons, List.take_zero, List.drop_succ_cons, List.drop_zero]
  repeat (go_big_quiet_step ((first
    | (go_at_call 19; with_reducible exact hf.made (vsub_is _ _ _ _ _ _ _ i2 i3 i0 i1 EDX.out EDY.out))
    | (go_at_call 44; with_reducible exact hf.same (sub_is _ _ _ _ ix iy ED.out))
    | (go_at_call 52; with_reducible exact hf.drawn (div_is _ _ _ _ ix id_ ER.out))
    | (go_at_call 54; with_reducible exact hf.made (vscale_is _ _ _ _ _ _ idx idy ir ESX.out ESY.out))
    | (go_at_call 25; with_reducible exact hf.made (vadd_is _ _ _ _ _ _ _ i0 i1 isx isy EAX.out EAY.out)))))
  refine wpQuiet_nil ?_
  intro w3 h3
  have k3 := hf.here h3
  have hG := H7.out.stays k3 l7
  have hO := H8.out.stays k3 l8
  have o0 := k3.reads o0
  have o1 := k3.reads o1
  have s0 := k3.reads s0
  have s1 := k3.reads s1
  have of_ : ∀ i, w3.frozen? ⟨w.heap.size + 1 + 1 + 1 + 1, i, none⟩ = false := fun i => (k3.2 _).trans (of_ i)
  have sf : ∀ i, w3.frozen? ⟨w.heap.size + 1 + 1 + 1 + 1 + 1, i, none⟩ = false := fun i => (k3.2 _).trans (sf i)
  have M3 : Hid (Made w.heap.size w w3) := M2.out.then_ (k3.low M2.out.1.size)
  have gf : ∀ i, w3.frozen? ⟨g7, i, none⟩ = false := hG.free
  have c0 := hG.at_ 0
  have c1 := hG.at_ 1
  simp at c0 c1
  clear k3 h3 hf p0' p1' q0' q1' p0 p1 q0 q1
  go_upto_region 7 with fail
  obtain ⟨W4, eW⟩ : ∃ W, W = (w3.setCell ⟨g7, 0, none⟩ (.int .i64 ax)).setCell ⟨g7, 1, none⟩ (.int .i64 ay) := ⟨_, rfl⟩
  have hG4 : Has W4 g7 26 #[.int .i64 ax, .int .i64 ay] := by rw [eW]; simpa using (hG.put 0 (.int .i64 ax)).put 1 (.int .i64 ay)
  have hO4 : Has W4 g8 26 #[.int .i64 qx, .int .i64 qy] := by rw [eW]; exact (hO.other _ (by simp; omega) _).other _ (by simp; omega) _
  have M4 : Hid (Made w.heap.size w W4) := by unfold Hid; rw [eW]; exact (M3.out.put (by simp; omega) _).put (by simp; omega) _
  have ne1 : ∀ j, j ≤ w.heap.size + 1 + 1 + 1 + 1 + 1 → j ≠ g7 := fun j hj => by omega
  have o0 : W4.cell? ⟨w.heap.size + 1 + 1 + 1 + 1, 0, none⟩ = some (.int .i64 0) := by rw [eW]; exact cell_else (ne1 _ (by simp)) (cell_else (ne1 _ (by simp)) o0)
  have o1 : W4.cell? ⟨w.heap.size + 1 + 1 + 1 + 1, 1, none⟩ = some (.int .i64 0) := by rw [eW]; exact cell_else (ne1 _ (by simp)) (cell_else (ne1 _ (by simp)) o1)
  have s0 : W4.cell? ⟨w.heap.size + 1 + 1 + 1 + 1 + 1, 0, none⟩ = some (.int .i64 0) := by rw [eW]; exact cell_else (ne1 _ (by simp)) (cell_else (ne1 _ (by simp)) s0)
  have s1 : W4.cell? ⟨w.heap.size + 1 + 1 + 1 + 1 + 1, 1, none⟩ = some (.int .i64 0) := by rw [eW]; exact cell_else (ne1 _ (by simp)) (cell_else (ne1 _ (by simp)) s1)
  have of_ : ∀ i, W4.frozen? ⟨w.heap.size + 1 + 1 + 1 + 1, i, none⟩ = false := fun i => by rw [eW]; simpa using of_ i
  have sf : ∀ i, W4.frozen? ⟨w.heap.size + 1 + 1 + 1 + 1 + 1, i, none⟩ = false := fun i => by rw [eW]; simpa using sf i
  rw [← eW]
  clear eW c0 c1 gf
  have a0 := hG4.at_ 0
  have a1 := hG4.at_ 1
  have b0 := hO4.at_ 0
  have b1 := hO4.at_ 1
  simp at a0 a1 b0 b1
  go_upto_region 9 with fail
  go_region
  all_goals (go_wp2_with fail)
  all_goals (refine bodyPost_ret (v := .tuple #[vecV ax ay, vecV qx qy, .bool true]) (by simp [results, Try.results59, go_sem, o0, o1, s0, s1]) rfl ⟨rfl, ?_⟩)
  all_goals (exact ((((M4.out.draws 1).put (by simp; try omega) _).put (by simp; try omega) _).put (by simp; try omega) _).put (by simp; try omega) _)

set_option maxRecDepth 100000 in
set_option maxHeartbeats 1000000 in
theorem lcut_q (px py qx qy vx vy tx ty x y : Int) (w : World) (i0 : I64 px) (i1 : I64 py) (i2 : I64 qx) (i3 : I64 qy) (i4 : I64 vx) (i5 : I64 vy) (i6 : I64 tx) (i7 : I64 ty) (ex : dotV (tx, ty) (subV (px, py) (vx, vy)) = x) (ey : dotV (tx, ty) (subV (qx, qy) (vx, vy)) = y) (hx : ¬ x < 0) (hy : y < 0) (ax ay : Int) (ea : moveV (qx, qy) (px, py) y x = (ax, ay)) :
    Calls Try.prog 59 #[vecV px py, vecV qx qy, vecV vx vy, vecV tx ty] w fun e w' => e = .returned (.tuple #[vecV px py, vecV ax ay, .bool true]) ∧ Made w.heap.size w w' := by
  obtain ⟨ux, eux⟩ : ∃ z, subF px vx = z := ⟨_, rfl⟩
  obtain ⟨uy, euy⟩ : ∃ z, subF py vy = z := ⟨_, rfl⟩
  obtain ⟨zx, ezx⟩ : ∃ z, subF qx vx = z := ⟨_, rfl⟩
  obtain ⟨zy, ezy⟩ : ∃ z, subF qy vy = z := ⟨_, rfl⟩
  have iux : I64 ux := by rw [← eux]; exact i64_sub _ _
  have iuy : I64 uy := by rw [← euy]; exact i64_sub _ _
  have izx : I64 zx := by rw [← ezx]; exact i64_sub _ _
  have izy : I64 zy := by rw [← ezy]; exact i64_sub _ _
  have ix : I64 x := by rw [← ex]; exact i64_add _ _
  have iy : I64 y := by rw [← ey]; exact i64_add _ _
  have EX : Hid (addF (mulF tx ux) (mulF ty uy) = x) := by unfold Hid; rw [← eux, ← euy]; exact ex
  have EY : Hid (addF (mulF tx zx) (mulF ty zy) = y) := by unfold Hid; rw [← ezx, ← ezy]; exact ey
  have EUX := hid eux; have EUY := hid euy; have EZX := hid ezx; have EZY := hid ezy
  obtain ⟨dx, edx⟩ : ∃ z, subF px qx = z := ⟨_, rfl⟩
  obtain ⟨dy, edy⟩ : ∃ z, subF py qy = z := ⟨_, rfl⟩
  obtain ⟨d, ed⟩ : ∃ z, subF y x = z := ⟨_, rfl⟩
  obtain ⟨r, er⟩ : ∃ z, divF y d = z := ⟨_, rfl⟩
  obtain ⟨sx, esx⟩ : ∃ z, mulF dx r = z := ⟨_, rfl⟩
  obtain ⟨sy, esy⟩ : ∃ z, mulF dy r = z := ⟨_, rfl⟩
  have idx : I64 dx := by rw [← edx]; exact i64_sub _ _
  have idy : I64 dy := by rw [← edy]; exact i64_sub _ _
  have id_ : I64 d := by rw [← ed]; exact i64_sub _ _
  have ir : I64 r := by rw [← er]; exact i64_div _ _
  have isx : I64 sx := by rw [← esx]; exact i64_mul _ _
  have isy : I64 sy := by rw [← esy]; exact i64_mul _ _
  have ea' : (addF qx sx, addF qy sy) = (ax, ay) := by
    rw [← ea]; unfold moveV; rw [if_pos hy]; unfold addV scaV subV; simp only []; rw [edx, edy, ed, er, esx, esy]
  have EAX : Hid (addF qx sx = ax) := (Prod.mk.inj ea').1
  have EAY : Hid (addF qy sy = ay) := (Prod.mk.inj ea').2
  have EDX := hid edx; have EDY := hid edy; have ED := hid ed; have ER := hid er; have ESX := hid esx; have ESY := hid esy
  clear edx edy ed er esx esy ea ea'
  clear eux euy ezx ezy ex ey
  have gx : decide (x < 0) = false := by exact decide_eq_false hx
  have gy : decide (y < 0) = true := by exact decide_eq_true hy
  clear hx hy
  go_enter Try.func59, Try.ntmps59
  go_upto_region 1 with fail
  obtain ⟨W0, eW⟩ : ∃ W, W = (((((w.alloc (.cells #[.int .i64 px, .int .i64 py] 26)).alloc (.cells #[.int .i64 qx, .int .i64 qy] 26)).alloc (.cells #[.int .i64 vx, .int .i64 vy] 26)).alloc (.cells #[.int .i64 tx, .int .i64 ty] 26)).alloc (.cells #[.int .i64 0, .int .i64 0] 26)).alloc (.cells #[.int .i64 0, .int .i64 0] 26) := ⟨_, rfl⟩
  have p0 : W0.cell? ⟨w.heap.size, 0, none⟩ = some (.int .i64 px) := by rw [eW]; go_simp
  have p1 : W0.cell? ⟨w.heap.size, 1, none⟩ = some (.int .i64 py) := by rw [eW]; go_simp
  have q0 : W0.cell? ⟨w.heap.size + 1, 0, none⟩ = some (.int .i64 qx) := by rw [eW]; go_simp
  have q1 : W0.cell? ⟨w.heap.size + 1, 1, none⟩ = some (.int .i64 qy) := by rw [eW]; go_simp
  have v0 : W0.cell? ⟨w.heap.size + 1 + 1, 0, none⟩ = some (.int .i64 vx) := by rw [eW]; go_simp
  have v1 : W0.cell? ⟨w.heap.size + 1 + 1, 1, none⟩ = some (.int .i64 vy) := by rw [eW]; go_simp
  have t0 : W0.cell? ⟨w.heap.size + 1 + 1 + 1, 0, none⟩ = some (.int .i64 tx) := by rw [eW]; go_simp
  have t1 : W0.cell? ⟨w.heap.size + 1 + 1 + 1, 1, none⟩ = some (.int .i64 ty) := by rw [eW]; go_simp
  have o0 : W0.cell? ⟨w.heap.size + 1 + 1 + 1 + 1, 0, none⟩ = some (.int .i64 0) := by rw [eW]; go_simp
  have o1 : W0.cell? ⟨w.heap.size + 1 + 1 + 1 + 1, 1, none⟩ = some (.int .i64 0) := by rw [eW]; go_simp
  have s0 : W0.cell? ⟨w.heap.size + 1 + 1 + 1 + 1 + 1, 0, none⟩ = some (.int .i64 0) := by rw [eW]; go_simp
  have s1 : W0.cell? ⟨w.heap.size + 1 + 1 + 1 + 1 + 1, 1, none⟩ = some (.int .i64 0) := by rw [eW]; go_simp
  have of_ : ∀ i, W0.frozen? ⟨w.heap.size + 1 + 1 + 1 + 1, i, none⟩ = false := fun i => by rw [eW]; go_simp
  have sf : ∀ i, W0.frozen? ⟨w.heap.size + 1 + 1 + 1 + 1 + 1, i, none⟩ = false := fun i => by rw [eW]; go_simp
  have M0 : Hid (Made w.heap.size w W0) := by unfold Hid; rw [eW]; exact ((((((Made.rfl_ _ _).cells (Nat.le_refl _) _ _).cells (by simp) _ _).cells (by simp; omega) _ _).cells (by simp; omega) _ _).cells (by simp; omega) _ _).cells (by simp; omega) _ _
  rw [← eW]
  clear eW
  refine reg_made (by kernel_rfl) (by kernel_rfl) ?_
  intro T hT f hf
  have p0' := Class.reads hf p0
  have p1' := Class.reads hf p1
  have q0' := Class.reads hf q0
  have q1' := Class.reads hf q1
  have v0' := Class.reads hf v0
  have v1' := Class.reads hf v1
  have t0' := Class.reads hf t0
  have t1' := Class.reads hf t1
  repeat (go_big_quiet_step ((first
    | (go_at_call 19; with_reducible first | exact hf.made (vsub_is _ _ _ _ _ _ _ i0 i1 i4 i5 EUX.out EUY.out) | exact hf.made (vsub_is _ _ _ _ _ _ _ i2 i3 i4 i5 EZX.out EZY.out))
    | (go_at_call 43; with_reducible first | exact hf.made (vdot_is _ _ _ _ _ _ i6 i7 iux iuy EX.out) | exact hf.made (vdot_is _ _ _ _ _ _ i6 i7 izx izy EY.out)))))
  refine wpQuiet_nil ?_
  intro w1 h1
  have k1 := hf.here h1
  have p0 := k1.reads p0
  have p1 := k1.reads p1
  have q0 := k1.reads q0
  have q1 := k1.reads q1
  have o0 := k1.reads o0
  have o1 := k1.reads o1
  have s0 := k1.reads s0
  have s1 := k1.reads s1
  have of_ : ∀ i, w1.frozen? ⟨w.heap.size + 1 + 1 + 1 + 1, i, none⟩ = false := fun i => (k1.2 _).trans (of_ i)
  have sf : ∀ i, w1.frozen? ⟨w.heap.size + 1 + 1 + 1 + 1 + 1, i, none⟩ = false := fun i => (k1.2 _).trans (sf i)
  have M1 : Hid (Made w.heap.size w w1) := M0.out.then_ (k1.low M0.out.1.size)
  clear k1 h1 hf p0' p1' q0' q1' v0' v1' t0' t1' v0 v1 t0 t1 M0
  have lw : w.heap.size + 1 + 1 + 1 + 1 + 1 < w1.heap.size := World.block_lt_of_cell? _ _ s0
  have lw1 : w.heap.size + 1 < w1.heap.size := by omega
  have lw0 : w.heap.size < w1.heap.size := by omega
  go_upto_region 4 with fail
  go_cut [13, 14] (fun s7 s8 wx => ∃ g7 g8, s7 = .pointer (some ⟨g7, 0, none⟩) ∧ s8 = .pointer (some ⟨g8, 0, none⟩) ∧ g7 ≠ g8 ∧ w1.heap.size ≤ g7 ∧ w1.heap.size ≤ g8 ∧ Hid (Has wx g7 26 #[.int .i64 px, .int .i64 py]) ∧ Hid (Has wx g8 26 #[.int .i64 qx, .int .i64 qy]) ∧ Hid (Made w1.heap.size w1 wx))
  case first =>
    go_region
    all_goals (go_wp2_with fail)
    all_goals go_meet
    all_goals first
      | exact ⟨w1.heap.size, w1.heap.size + 1, rfl, rfl, by omega, by omega, by omega, ((has_new _ _ _).more _).drawn 1, (has_next _ _ _ _).drawn 1, (((Made.rfl_ _ _).cells (Nat.le_refl _) _ _).cells (by simp) _ _).draws 1⟩
      | exact ⟨w1.heap.size + 1, w1.heap.size, rfl, rfl, by omega, by omega, by omega, (has_next _ _ _ _).drawn 1, ((has_new _ _ _).more _).drawn 1, (((Made.rfl_ _ _).cells (Nat.le_refl _) _ _).cells (by simp) _ _).draws 1⟩
  obtain ⟨g7, g8, rfl, rfl, hne, h7, h8, H7, H8, HM⟩ := hcut
  have hne' : g8 ≠ g7 := fun e => hne e.symm
  have p0 := HM.out.reads p0
  have p1 := HM.out.reads p1
  have q0 := HM.out.reads q0
  have q1 := HM.out.reads q1
  have o0 := HM.out.reads o0
  have o1 := HM.out.reads o1
  have s0 := HM.out.reads s0
  have s1 := HM.out.reads s1
  have of_ : ∀ i, wc.frozen? ⟨w.heap.size + 1 + 1 + 1 + 1, i, none⟩ = false := fun i => (HM.out.2 _).trans (of_ i)
  have sf : ∀ i, wc.frozen? ⟨w.heap.size + 1 + 1 + 1 + 1 + 1, i, none⟩ = false := fun i => (HM.out.2 _).trans (sf i)
  have M2 : Hid (Made w.heap.size w wc) := M1.out.then_ (HM.out.low M1.out.1.size)
  have l7 := H7.out.here
  have l8 := H8.out.here
  clear HM
  go_upto_region 8 with fail
  refine reg_made_tail 11 (by kernel_rfl) (by kernel_rfl) ?_
  intro T hT f hf
  have p0' := Class.reads hf p0
  have p1' := Class.reads hf p1
  have q0' := Class.reads hf q0
  have q1' := Class.reads hf q1
  simp only [List.take_succ_cons, List.take_zero, List.drop_succ_cons, List.drop_zero]
  repeat (go_big_quiet_step ((first
    | (go_at_call 19; with_reducible exact hf.made (vsub_is _ _ _ _ _ _ _ i0 i1 i2 i3 EDX.out EDY.out))
    | (go_at_call 44; with_reducible exact hf.same (sub_is _ _ _ _ iy ix ED.out))
    | (go_at_call 52; with_reducible exact hf.drawn (div_is _ _ _ _ iy id_ ER.out))
    | (go_at_call 54; with_reducible exact hf.made (vscale_is _ _ _ _ _ _ idx idy ir ESX.out ESY.out))
    | (go_at_call 25; with_reducible exact hf.made (vadd_is _ _ _ _ _ _ _ i2 i3 isx isy EAX.out EAY.out)))))
  refine wpQuiet_nil ?_
  intro w3 h3
  have k3 := hf.here h3
  have hG := H8.out.stays k3 l8
  have hO := H7.out.stays k3 l7
  have o0 := k3.reads o0
  have o1 := k3.reads o1
  have s0 := k3.reads s0
  have s1 := k3.reads s1
  have of_ : ∀ i, w3.frozen? ⟨w.heap.size + 1 + 1 + 1 + 1, i, none⟩ = false := fun i => (k3.2 _).trans (of_ i)
  have sf : ∀ i, w3.frozen? ⟨w.heap.size + 1 + 1 + 1 + 1 + 1, i, none⟩ = false := fun i => (k3.2 _).trans (sf i)
  have M3 : Hid (Made w.heap.size w w3) := M2.out.then_ (k3.low M2.out.1.size)
  have gf : ∀ i, w3.frozen? ⟨g8, i, none⟩ = false := hG.free
  have c0 := hG.at_ 0
  have c1 := hG.at_ 1
  simp at c0 c1
  clear k3 h3 hf p0' p1' q0' q1' p0 p1 q0 q1
  go_upto_region 9 with fail
  obtain ⟨W4, eW⟩ : ∃ W, W = (w3.setCell ⟨g8, 0, none⟩ (.int .i64 ax)).setCell ⟨g8, 1, none⟩ (.int .i64 ay) := ⟨_, rfl⟩
  have hG4 : Has W4 g8 26 #[.int .i64 ax, .int .i64 ay] := by rw [eW]; simpa using (hG.put 0 (.int .i64 ax)).put 1 (.int .i64 ay)
  have hO4 : Has W4 g7 26 #[.int .i64 px, .int .i64 py] := by rw [eW]; exact (hO.other _ (by simp; omega) _).other _ (by simp; omega) _
  have M4 : Hid (Made w.heap.size w W4) := by unfold Hid; rw [eW]; exact (M3.out.put (by simp; omega) _).put (by simp; omega) _
  have ne1 : ∀ j, j ≤ w.heap.size + 1 + 1 + 1 + 1 + 1 → j ≠ g8 := fun j hj => by omega
  have o0 : W4.cell? ⟨w.heap.size + 1 + 1 + 1 + 1, 0, none⟩ = some (.int .i64 0) := by rw [eW]; exact cell_else (ne1 _ (by simp)) (cell_else (ne1 _ (by simp)) o0)
  have o1 : W4.cell? ⟨w.heap.size + 1 + 1 + 1 + 1, 1, none⟩ = some (.int .i64 0) := by rw [eW]; exact cell_else (ne1 _ (by simp)) (cell_else (ne1 _ (by simp)) o1)
  have s0 : W4.cell? ⟨w.heap.size + 1 + 1 + 1 + 1 + 1, 0, none⟩ = some (.int .i64 0) := by rw [eW]; exact cell_else (ne1 _ (by simp)) (cell_else (ne1 _ (by simp)) s0)
  have s1 : W4.cell? ⟨w.heap.size + 1 + 1 + 1 + 1 + 1, 1, none⟩ = some (.int .i64 0) := by rw [eW]; exact cell_else (ne1 _ (by simp)) (cell_else (ne1 _ (by simp)) s1)
  have of_ : ∀ i, W4.frozen? ⟨w.heap.size + 1 + 1 + 1 + 1, i, none⟩ = false := fun i => by rw [eW]; simpa using of_ i
  have sf : ∀ i, W4.frozen? ⟨w.heap.size + 1 + 1 + 1 + 1 + 1, i, none⟩ = false := fun i => by rw [eW]; simpa using sf i
  rw [← eW]
  clear eW c0 c1 gf
  have a0 := hG4.at_ 0
  have a1 := hG4.at_ 1
  have b0 := hO4.at_ 0
  have b1 := hO4.at_ 1
  simp at a0 a1 b0 b1
  go_upto_region 9 with fail
  go_region
  all_goals (go_wp2_with fail)
  all_goals (refine bodyPost_ret (v := .tuple #[vecV px py, vecV ax ay, .bool true]) (by simp [results, Try.results59, go_sem, o0, o1, s0, s1]) rfl ⟨rfl, ?_⟩)
  all_goals (exact ((((M4.out.draws 1).put (by simp; try omega) _).put (by simp; try omega) _).put (by simp; try omega) _).put (by simp; try omega) _)

set_option maxRecDepth 100000 in
set_option maxHeartbeats 1000000 in
theorem lcut_same (px py qx qy vx vy tx ty x y : Int) (w : World) (i0 : I64 px) (i1 : I64 py) (i2 : I64 qx) (i3 : I64 qy) (i4 : I64 vx) (i5 : I64 vy) (i6 : I64 tx) (i7 : I64 ty) (ex : dotV (tx, ty) (subV (px, py) (vx, vy)) = x) (ey : dotV (tx, ty) (subV (qx, qy) (vx, vy)) = y) (hx : ¬ x < 0) (hy : ¬ y < 0) :
    Calls Try.prog 59 #[vecV px py, vecV qx qy, vecV vx vy, vecV tx ty] w fun e w' => e = .returned (.tuple #[vecV px py, vecV qx qy, .bool true]) ∧ Made w.heap.size w w' := by
  obtain ⟨ux, eux⟩ : ∃ z, subF px vx = z := ⟨_, rfl⟩
  obtain ⟨uy, euy⟩ : ∃ z, subF py vy = z := ⟨_, rfl⟩
  obtain ⟨zx, ezx⟩ : ∃ z, subF qx vx = z := ⟨_, rfl⟩
  obtain ⟨zy, ezy⟩ : ∃ z, subF qy vy = z := ⟨_, rfl⟩
  have iux : I64 ux := by rw [← eux]; exact i64_sub _ _
  have iuy : I64 uy := by rw [← euy]; exact i64_sub _ _
  have izx : I64 zx := by rw [← ezx]; exact i64_sub _ _
  have izy : I64 zy := by rw [← ezy]; exact i64_sub _ _
  have ix : I64 x := by rw [← ex]; exact i64_add _ _
  have iy : I64 y := by rw [← ey]; exact i64_add _ _
  have EX : Hid (addF (mulF tx ux) (mulF ty uy) = x) := by unfold Hid; rw [← eux, ← euy]; exact ex
  have EY : Hid (addF (mulF tx zx) (mulF ty zy) = y) := by unfold Hid; rw [← ezx, ← ezy]; exact ey
  have EUX := hid eux; have EUY := hid euy; have EZX := hid ezx; have EZY := hid ezy
  clear eux euy ezx ezy ex ey
  have gx : decide (x < 0) = false := by exact decide_eq_false hx
  have gy : decide (y < 0) = false := by exact decide_eq_false hy
  clear hx hy
  go_enter Try.func59, Try.ntmps59
  go_upto_region 1 with fail
  obtain ⟨W0, eW⟩ : ∃ W, W = (((((w.alloc (.cells #[.int .i64 px, .int .i64 py] 26)).alloc (.cells #[.int .i64 qx, .int .i64 qy] 26)).alloc (.cells #[.int .i64 vx, .int .i64 vy] 26)).alloc (.cells #[.int .i64 tx, .int .i64 ty] 26)).alloc (.cells #[.int .i64 0, .int .i64 0] 26)).alloc (.cells #[.int .i64 0, .int .i64 0] 26) := ⟨_, rfl⟩
  have p0 : W0.cell? ⟨w.heap.size, 0, none⟩ = some (.int .i64 px) := by rw [eW]; go_simp
  have p1 : W0.cell? ⟨w.heap.size, 1, none⟩ = some (.int .i64 py) := by rw [eW]; go_simp
  have q0 : W0.cell? ⟨w.heap.size + 1, 0, none⟩ = some (.int .i64 qx) := by rw [eW]; go_simp
  have q1 : W0.cell? ⟨w.heap.size + 1, 1, none⟩ = some (.int .i64 qy) := by rw [eW]; go_simp
  have v0 : W0.cell? ⟨w.heap.size + 1 + 1, 0, none⟩ = some (.int .i64 vx) := by rw [eW]; go_simp
  have v1 : W0.cell? ⟨w.heap.size + 1 + 1, 1, none⟩ = some (.int .i64 vy) := by rw [eW]; go_simp
  have t0 : W0.cell? ⟨w.heap.size + 1 + 1 + 1, 0, none⟩ = some (.int .i64 tx) := by rw [eW]; go_simp
  have t1 : W0.cell? ⟨w.heap.size + 1 + 1 + 1, 1, none⟩ = some (.int .i64 ty) := by rw [eW]; go_simp
  have o0 : W0.cell? ⟨w.heap.size + 1 + 1 + 1 + 1, 0, none⟩ = some (.int .i64 0) := by rw [eW]; go_simp
  have o1 : W0.cell? ⟨w.heap.size + 1 + 1 + 1 + 1, 1, none⟩ = some (.int .i64 0) := by rw [eW]; go_simp
  have s0 : W0.cell? ⟨w.heap.size + 1 + 1 + 1 + 1 + 1, 0, none⟩ = some (.int .i64 0) := by rw [eW]; go_simp
  have s1 : W0.cell? ⟨w.heap.size + 1 + 1 + 1 + 1 + 1, 1, none⟩ = some (.int .i64 0) := by rw [eW]; go_simp
  have of_ : ∀ i, W0.frozen? ⟨w.heap.size + 1 + 1 + 1 + 1, i, none⟩ = false := fun i => by rw [eW]; go_simp
  have sf : ∀ i, W0.frozen? ⟨w.heap.size + 1 + 1 + 1 + 1 + 1, i, none⟩ = false := fun i => by rw [eW]; go_simp
  have M0 : Hid (Made w.heap.size w W0) := by unfold Hid; rw [eW]; exact ((((((Made.rfl_ _ _).cells (Nat.le_refl _) _ _).cells (by simp) _ _).cells (by simp; omega) _ _).cells (by simp; omega) _ _).cells (by simp; omega) _ _).cells (by simp; omega) _ _
  rw [← eW]
  clear eW
  refine reg_made (by kernel_rfl) (by kernel_rfl) ?_
  intro T hT f hf
  have p0' := Class.reads hf p0
  have p1' := Class.reads hf p1
  have q0' := Class.reads hf q0
  have q1' := Class.reads hf q1
  have v0' := Class.reads hf v0
  have v1' := Class.reads hf v1
  have t0' := Class.reads hf t0
  have t1' := Class.reads hf t1
  repeat (go_big_quiet_step ((first
    | (go_at_call 19; with_reducible first | exact hf.made (vsub_is _ _ _ _ _ _ _ i0 i1 i4 i5 EUX.out EUY.out) | exact hf.made (vsub_is _ _ _ _ _ _ _ i2 i3 i4 i5 EZX.out EZY.out))
    | (go_at_call 43; with_reducible first | exact hf.made (vdot_is _ _ _ _ _ _ i6 i7 iux iuy EX.out) | exact hf.made (vdot_is _ _ _ _ _ _ i6 i7 izx izy EY.out)))))
  refine wpQuiet_nil ?_
  intro w1 h1
  have k1 := hf.here h1
  have p0 := k1.reads p0
  have p1 := k1.reads p1
  have q0 := k1.reads q0
  have q1 := k1.reads q1
  have o0 := k1.reads o0
  have o1 := k1.reads o1
  have s0 := k1.reads s0
  have s1 := k1.reads s1
  have of_ : ∀ i, w1.frozen? ⟨w.heap.size + 1 + 1 + 1 + 1, i, none⟩ = false := fun i => (k1.2 _).trans (of_ i)
  have sf : ∀ i, w1.frozen? ⟨w.heap.size + 1 + 1 + 1 + 1 + 1, i, none⟩ = false := fun i => (k1.2 _).trans (sf i)
  have M1 : Hid (Made w.heap.size w w1) := M0.out.then_ (k1.low M0.out.1.size)
  clear k1 h1 hf p0' p1' q0' q1' v0' v1' t0' t1' v0 v1 t0 t1 M0
  have lw : w.heap.size + 1 + 1 + 1 + 1 + 1 < w1.heap.size := World.block_lt_of_cell? _ _ s0
  have lw1 : w.heap.size + 1 < w1.heap.size := by omega
  have lw0 : w.heap.size < w1.heap.size := by omega
  go_upto_region 4 with fail
  go_cut [13, 14] (fun s7 s8 wx => ∃ g7 g8, s7 = .pointer (some ⟨g7, 0, none⟩) ∧ s8 = .pointer (some ⟨g8, 0, none⟩) ∧ g7 ≠ g8 ∧ w1.heap.size ≤ g7 ∧ w1.heap.size ≤ g8 ∧ Hid (Has wx g7 26 #[.int .i64 px, .int .i64 py]) ∧ Hid (Has wx g8 26 #[.int .i64 qx, .int .i64 qy]) ∧ Hid (Made w1.heap.size w1 wx))
  case first =>
    go_region
    all_goals (go_wp2_with fail)
    all_goals go_meet
    all_goals first
      | exact ⟨w1.heap.size, w1.heap.size + 1, rfl, rfl, by omega, by omega, by omega, ((has_new _ _ _).more _).drawn 1, (has_next _ _ _ _).drawn 1, (((Made.rfl_ _ _).cells (Nat.le_refl _) _ _).cells (by simp) _ _).draws 1⟩
      | exact ⟨w1.heap.size + 1, w1.heap.size, rfl, rfl, by omega, by omega, by omega, (has_next _ _ _ _).drawn 1, ((has_new _ _ _).more _).drawn 1, (((Made.rfl_ _ _).cells (Nat.le_refl _) _ _).cells (by simp) _ _).draws 1⟩
  obtain ⟨g7, g8, rfl, rfl, hne, h7, h8, H7, H8, HM⟩ := hcut
  have hne' : g8 ≠ g7 := fun e => hne e.symm
  have p0 := HM.out.reads p0
  have p1 := HM.out.reads p1
  have q0 := HM.out.reads q0
  have q1 := HM.out.reads q1
  have o0 := HM.out.reads o0
  have o1 := HM.out.reads o1
  have s0 := HM.out.reads s0
  have s1 := HM.out.reads s1
  have of_ : ∀ i, wc.frozen? ⟨w.heap.size + 1 + 1 + 1 + 1, i, none⟩ = false := fun i => (HM.out.2 _).trans (of_ i)
  have sf : ∀ i, wc.frozen? ⟨w.heap.size + 1 + 1 + 1 + 1 + 1, i, none⟩ = false := fun i => (HM.out.2 _).trans (sf i)
  have M2 : Hid (Made w.heap.size w wc) := M1.out.then_ (HM.out.low M1.out.1.size)
  have l7 := H7.out.here
  have l8 := H8.out.here
  clear HM
  have a0 := H7.out.at_ 0
  have a1 := H7.out.at_ 1
  have b0 := H8.out.at_ 0
  have b1 := H8.out.at_ 1
  simp at a0 a1 b0 b1
  go_upto_region 9 with fail
  go_region
  all_goals (go_wp2_with fail)
  all_goals (refine bodyPost_ret (v := .tuple #[vecV px py, vecV qx qy, .bool true]) (by simp [results, Try.results59, go_sem, o0, o1, s0, s1]) rfl ⟨rfl, ?_⟩)
  all_goals (exact ((((M2.out.draws 1).put (by simp; try omega) _).put (by simp; try omega) _).put (by simp; try omega) _).put (by simp; try omega) _)

/-- both ends lie behind -/
theorem lcut_no (px py qx qy vx vy tx ty x y : Int) (w : World) (i0 : I64 px) (i1 : I64 py) (i2 : I64 qx) (i3 : I64 qy) (i4 : I64 vx) (i5 : I64 vy) (i6 : I64 tx) (i7 : I64 ty) (ex : dotV (tx, ty) (subV (px, py) (vx, vy)) = x) (ey : dotV (tx, ty) (subV (qx, qy) (vx, vy)) = y) (hx : x < 0 ∧ y < 0) :
    Calls Try.prog 59 #[vecV px py, vecV qx qy, vecV vx vy, vecV tx ty] w fun e w' => e = .returned (.tuple #[vecV px py, vecV qx qy, .bool false]) ∧ Made w.heap.size w w' :=
  lcut_none px py qx qy vx vy tx ty x y w i0 i1 i2 i3 i4 i5 i6 i7 ex ey hx.1 hx.2
theorem lcut_is (px py qx qy vx vy tx ty x y : Int) (w : World) (i0 : I64 px) (i1 : I64 py) (i2 : I64 qx) (i3 : I64 qy) (i4 : I64 vx) (i5 : I64 vy) (i6 : I64 tx) (i7 : I64 ty) (ex : dotV (tx, ty) (subV (px, py) (vx, vy)) = x) (ey : dotV (tx, ty) (subV (qx, qy) (vx, vy)) = y) (hx : ¬ (x < 0 ∧ y < 0)) (ax ay bx b_y : Int) (ea : moveV (px, py) (qx, qy) x y = (ax, ay)) (eb : moveV (qx, qy) (px, py) y x = (bx, b_y)) :
    Calls Try.prog 59 #[vecV px py, vecV qx qy, vecV vx vy, vecV tx ty] w fun e w' => e = .returned (.tuple #[vecV ax ay, vecV bx b_y, .bool true]) ∧ Made w.heap.size w w' := by
  by_cases h1 : x < 0
  · have h2 : ¬ y < 0 := fun h => hx ⟨h1, h⟩
    have := lcut_p px py qx qy vx vy tx ty x y w i0 i1 i2 i3 i4 i5 i6 i7 ex ey h1 h2 ax ay ea
    unfold moveV at eb
    rw [if_neg h2] at eb
    obtain ⟨rfl, rfl⟩ := Prod.mk.inj eb
    exact this
  · have ea' := ea
    unfold moveV at ea'
    rw [if_neg h1] at ea'
    obtain ⟨rfl, rfl⟩ := Prod.mk.inj ea'
    by_cases h2 : y < 0
    · exact lcut_q px py qx qy vx vy tx ty x y w i0 i1 i2 i3 i4 i5 i6 i7 ex ey h1 h2 bx b_y eb
    · have eb' := eb
      unfold moveV at eb'
      rw [if_neg h2] at eb'
      obtain ⟨rfl, rfl⟩ := Prod.mk.inj eb'
      exact lcut_same px py qx qy vx vy tx ty x y w i0 i1 i2 i3 i4 i5 i6 i7 ex ey h1 h2
end Go.Proofs.Ytckgpkbdckpcmaa.Fx
