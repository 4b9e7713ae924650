/- Contracts of package touch: cut. -/
import Derived.Test.YtmfkcdinfahjlaaTcA
namespace Go.Proofs.Ytmfkcdinfahjlaa.Fx
open Go.ChangeShapes Go.WideShapes Go.ChangeAt Go.RowKit
set_option linter.unusedVariables false

set_option maxRecDepth 100000 in
set_option maxHeartbeats 1000000 in
theorem tcut_none (px py qx qy tx ty vx vy x y : Int) (w : World) (i0 : I64 px) (i1 : I64 py) (i2 : I64 qx) (i3 : I64 qy) (i6 : I64 tx) (i7 : I64 ty) (i4 : I64 vx) (i5 : I64 vy) (ex : dotV (tx, ty) (subV (px, py) (vx, vy)) = x) (ey : dotV (tx, ty) (subV (qx, qy) (vx, vy)) = y) (hx : x < 0) (hy : y < 0) :
    Calls Try.prog 97 #[vecV px py, vecV qx qy, vecV tx ty, vecV vx vy] w fun e w' => e = .returned (.tuple #[vecV 0 0, vecV 0 0, .bool false]) ∧ Made w.heap.size w w' := by
  obtain ⟨ux, eux⟩ : ∃ z, subF px vx = z := ⟨_, rfl⟩
  obtain ⟨uy, euy⟩ : ∃ z, subF py vy = z := ⟨_, rfl⟩
  obtain ⟨zx, ezx⟩ : ∃ z, subF qx vx = z := ⟨_, rfl⟩
  obtain ⟨zy, ezy⟩ : ∃ z, subF qy vy = z := ⟨_, rfl⟩
  have iux : I64 ux := by rw [← eux]; exact i64_sub _ _
  have iuy : I64 uy := by rw [← euy]; exact i64_sub _ _
  have izx : I64 zx := by rw [← ezx]; exact i64_sub _ _
  have izy : I64 zy := by rw [← ezy]; exact i64_sub _ _
  have ix : I64 x := by rw [← ex]; exact i64_add _ _
  have iy : I64 y := by rw [← ey]; exact i64_add _ _
  have EX : Hid (addF (mulF tx ux) (mulF ty uy) = x) := by unfold Hid; rw [← eux, ← euy]; exact ex
  have EY : Hid (addF (mulF tx zx) (mulF ty zy) = y) := by unfold Hid; rw [← ezx, ← ezy]; exact ey
  have EUX := hid eux; have EUY := hid euy; have EZX := hid ezx; have EZY := hid ezy
  clear eux euy ezx ezy ex ey
  have gx : decide (x < 0) = true := by exact decide_eq_true hx
  have gy : decide (y < 0) = true := by exact decide_eq_true hy
  clear hx hy
  go_enter Try.func97, Try.ntmps97
  go_upto_region 1 with fail
  obtain ⟨W0, eW⟩ : ∃ W, W = (((((w.alloc (.cells #[.int .i64 px, .int .i64 py] 26)).alloc (.cells #[.int .i64 qx, .int .i64 qy] 26)).alloc (.cells #[.int .i64 tx, .int .i64 ty] 26)).alloc (.cells #[.int .i64 vx, .int .i64 vy] 26)).alloc (.cells #[.int .i64 0, .int .i64 0] 26)).alloc (.cells #[.int .i64 0, .int .i64 0] 26) := ⟨_, rfl⟩
  have p0 : W0.cell? ⟨w.heap.size, 0, none⟩ = some (.int .i64 px) := by rw [eW]; go_simp
  have p1 : W0.cell? ⟨w.heap.size, 1, none⟩ = some (.int .i64 py) := by rw [eW]; go_simp
  have q0 : W0.cell? ⟨w.heap.size + 1, 0, none⟩ = some (.int .i64 qx) := by rw [eW]; go_simp
  have q1 : W0.cell? ⟨w.heap.size + 1, 1, none⟩ = some (.int .i64 qy) := by rw [eW]; go_simp
  have t0 : W0.cell? ⟨w.heap.size + 1 + 1, 0, none⟩ = some (.int .i64 tx) := by rw [eW]; go_simp
  have t1 : W0.cell? ⟨w.heap.size + 1 + 1, 1, none⟩ = some (.int .i64 ty) := by rw [eW]; go_simp
  have v0 : W0.cell? ⟨w.heap.size + 1 + 1 + 1, 0, none⟩ = some (.int .i64 vx) := by rw [eW]; go_simp
  have v1 : W0.cell? ⟨w.heap.size + 1 + 1 + 1, 1, none⟩ = some (.int .i64 vy) := by rw [eW]; go_simp
  have o0 : W0.cell? ⟨w.heap.size + 1 + 1 + 1 + 1, 0, none⟩ = some (.int .i64 0) := by rw [eW]; go_simp
  have o1 : W0.cell? ⟨w.heap.size + 1 + 1 + 1 + 1, 1, none⟩ = some (.int .i64 0) := by rw [eW]; go_simp
  have s0 : W0.cell? ⟨w.heap.size + 1 + 1 + 1 + 1 + 1, 0, none⟩ = some (.int .i64 0) := by rw [eW]; go_simp
  have s1 : W0.cell? ⟨w.heap.size + 1 + 1 + 1 + 1 + 1, 1, none⟩ = some (.int .i64 0) := by rw [eW]; go_simp
  have of_ : ∀ i, W0.frozen? ⟨w.heap.size + 1 + 1 + 1 + 1, i, none⟩ = false := fun i => by rw [eW]; go_simp
  have sf : ∀ i, W0.frozen? ⟨w.heap.size + 1 + 1 + 1 + 1 + 1, i, none⟩ = false := fun i => by rw [eW]; go_simp
  have pf : ∀ i, W0.frozen? ⟨w.heap.size, i, none⟩ = false := fun i => by rw [eW]; go_simp
  have qf : ∀ i, W0.frozen? ⟨w.heap.size + 1, i, none⟩ = false := fun i => by rw [eW]; go_simp
  have M0 : Hid (Made w.heap.size w W0) := by unfold Hid; rw [eW]; exact ((((((Made.rfl_ _ _).cells (Nat.le_refl _) _ _).cells (by simp) _ _).cells (by simp; omega) _ _).cells (by simp; omega) _ _).cells (by simp; omega) _ _).cells (by simp; omega) _ _
  rw [← eW]
  clear eW
  refine reg_made (by kernel_rfl) (by kernel_rfl) ?_
  intro T hT f hf
  have p0' := Class.reads hf p0
  have p1' := Class.reads hf p1
  have v0' := Class.reads hf v0
  have v1' := Class.reads hf v1
  have t0' := Class.reads hf t0
  have t1' := Class.reads hf t1
  repeat (go_big_quiet_step ((first
    | (go_at_call 29; with_reducible exact hf.made (vsub_is _ _ _ _ _ _ _ i0 i1 i4 i5 EUX.out EUY.out))
    | (go_at_call 51; with_reducible exact hf.made (vdot_is _ _ _ _ _ _ i6 i7 iux iuy EX.out)))))
  refine wpQuiet_nil ?_
  intro w1 h1
  have k1 := hf.here h1
  have p0 := k1.reads p0
  have p1 := k1.reads p1
  have q0 := k1.reads q0
  have q1 := k1.reads q1
  have t0 := k1.reads t0
  have t1 := k1.reads t1
  have v0 := k1.reads v0
  have v1 := k1.reads v1
  have o0 := k1.reads o0
  have o1 := k1.reads o1
  have s0 := k1.reads s0
  have s1 := k1.reads s1
  have of_ : ∀ i, w1.frozen? ⟨w.heap.size + 1 + 1 + 1 + 1, i, none⟩ = false := fun i => (k1.2 _).trans (of_ i)
  have sf : ∀ i, w1.frozen? ⟨w.heap.size + 1 + 1 + 1 + 1 + 1, i, none⟩ = false := fun i => (k1.2 _).trans (sf i)
  have pf : ∀ i, w1.frozen? ⟨w.heap.size, i, none⟩ = false := fun i => (k1.2 _).trans (pf i)
  have qf : ∀ i, w1.frozen? ⟨w.heap.size + 1, i, none⟩ = false := fun i => (k1.2 _).trans (qf i)
  have M1 : Hid (Made w.heap.size w w1) := M0.out.then_ (k1.low M0.out.1.size)
  clear k1 h1 hf p0' p1' v0' v1' t0' t1' M0
  go_upto_region 2 with fail
  refine reg_made (by kernel_rfl) (by kernel_rfl) ?_
  intro T hT f hf
  have q0' := Class.reads hf q0
  have q1' := Class.reads hf q1
  have v0' := Class.reads hf v0
  have v1' := Class.reads hf v1
  have t0' := Class.reads hf t0
  have t1' := Class.reads hf t1
  repeat (go_big_quiet_step ((first
    | (go_at_call 29; with_reducible exact hf.made (vsub_is _ _ _ _ _ _ _ i2 i3 i4 i5 EZX.out EZY.out))
    | (go_at_call 51; with_reducible exact hf.made (vdot_is _ _ _ _ _ _ i6 i7 izx izy EY.out)))))
  refine wpQuiet_nil ?_
  intro w2 h1
  have k1 := hf.here h1
  have p0 := k1.reads p0
  have p1 := k1.reads p1
  have q0 := k1.reads q0
  have q1 := k1.reads q1
  have t0 := k1.reads t0
  have t1 := k1.reads t1
  have v0 := k1.reads v0
  have v1 := k1.reads v1
  have o0 := k1.reads o0
  have o1 := k1.reads o1
  have s0 := k1.reads s0
  have s1 := k1.reads s1
  have of_ : ∀ i, w2.frozen? ⟨w.heap.size + 1 + 1 + 1 + 1, i, none⟩ = false := fun i => (k1.2 _).trans (of_ i)
  have sf : ∀ i, w2.frozen? ⟨w.heap.size + 1 + 1 + 1 + 1 + 1, i, none⟩ = false := fun i => (k1.2 _).trans (sf i)
  have pf : ∀ i, w2.frozen? ⟨w.heap.size, i, none⟩ = false := fun i => (k1.2 _).trans (pf i)
  have qf : ∀ i, w2.frozen? ⟨w.heap.size + 1, i, none⟩ = false := fun i => (k1.2 _).trans (qf i)
  have M2 : Hid (Made w.heap.size w w2) := M1.out.then_ (k1.low M1.out.1.size)
  clear k1 h1 hf q0' q1' v0' v1' t0' t1' M1
  have ls : w.heap.size + 1 + 1 + 1 + 1 + 1 < w2.heap.size := World.block_lt_of_cell? _ _ s0
  have lo : w.heap.size + 1 + 1 + 1 + 1 < w2.heap.size := by omega
  have lq : w.heap.size + 1 < w2.heap.size := by omega
  have lp : w.heap.size < w2.heap.size := by omega
  go_wp2_with fail
  refine bodyPost_ret (v := .tuple #[vecV 0 0, vecV 0 0, .bool false]) (by simp [results, Try.results97, go_sem, o0, o1, s0, s1]) rfl ⟨rfl, ?_⟩
  exact (((M2.out.put (by simp; try omega) _).put (by simp; try omega) _).put (by simp; try omega) _).put (by simp; try omega) _

set_option maxRecDepth 100000 in
set_option maxHeartbeats 1000000 in
theorem tcut_p (px py qx qy tx ty vx vy x y : Int) (w : World) (i0 : I64 px) (i1 : I64 py) (i2 : I64 qx) (i3 : I64 qy) (i6 : I64 tx) (i7 : I64 ty) (i4 : I64 vx) (i5 : I64 vy) (ex : dotV (tx, ty) (subV (px, py) (vx, vy)) = x) (ey : dotV (tx, ty) (subV (qx, qy) (vx, vy)) = y) (hx : x < 0) (hy : ¬ y < 0) (ax ay : Int) (ea : moveV (px, py) (qx, qy) x y = (ax, ay)) :
    Calls Try.prog 97 #[vecV px py, vecV qx qy, vecV tx ty, vecV vx vy] w fun e w' => e = .returned (.tuple #[vecV ax ay, vecV qx qy, .bool true]) ∧ Made w.heap.size w w' := by
  obtain ⟨ux, eux⟩ : ∃ z, subF px vx = z := ⟨_, rfl⟩
  obtain ⟨uy, euy⟩ : ∃ z, subF py vy = z := ⟨_, rfl⟩
  obtain ⟨zx, ezx⟩ : ∃ z, subF qx vx = z := ⟨_, rfl⟩
  obtain ⟨zy, ezy⟩ : ∃ z, subF qy vy = z := ⟨_, rfl⟩
  have iux : I64 ux := by rw [← eux]; exact i64_sub _ _
  have iuy : I64 uy := by rw [← euy]; exact i64_sub _ _
  have izx : I64 zx := by rw [← ezx]; exact i64_sub _ _
  have izy : I64 zy := by rw [← ezy]; exact i64_sub _ _
  have ix : I64 x := by rw [← ex]; exact i64_add _ _
  have iy : I64 y := by rw [← ey]; exact i64_add _ _
  have EX : Hid (addF (mulF tx ux) (mulF ty uy) = x) := by unfold Hid; rw [← eux, ← euy]; exact ex
  have EY : Hid (addF (mulF tx zx) (mulF ty zy) = y) := by unfold Hid; rw [← ezx, ← ezy]; exact ey
  have EUX := hid eux; have EUY := hid euy; have EZX := hid ezx; have EZY := hid ezy
  have EA := hid ea
  have HX := hid hx
  clear ea
  clear eux euy ezx ezy ex ey
  have gx : decide (x < 0) = true := by exact decide_eq_true hx
  have gy : decide (y < 0) = false := by exact decide_eq_false hy
  clear hx hy
  go_enter Try.func97, Try.ntmps97
  go_upto_region 1 with fail
  obtain ⟨W0, eW⟩ : ∃ W, W = (((((w.alloc (.cells #[.int .i64 px, .int .i64 py] 26)).alloc (.cells #[.int .i64 qx, .int .i64 qy] 26)).alloc (.cells #[.int .i64 tx, .int .i64 ty] 26)).alloc (.cells #[.int .i64 vx, .int .i64 vy] 26)).alloc (.cells #[.int .i64 0, .int .i64 0] 26)).alloc (.cells #[.int .i64 0, .int .i64 0] 26) := ⟨_, rfl⟩
  have p0 : W0.cell? ⟨w.heap.size, 0, none⟩ = some (.int .i64 px) := by rw [eW]; go_simp
  have p1 : W0.cell? ⟨w.heap.size, 1, none⟩ = some (.int .i64 py) := by rw [eW]; go_simp
  have q0 : W0.cell? ⟨w.heap.size + 1, 0, none⟩ = some (.int .i64 qx) := by rw [eW]; go_simp
  have q1 : W0.cell? ⟨w.heap.size + 1, 1, none⟩ = some (.int .i64 qy) := by rw [eW]; go_simp
  have t0 : W0.cell? ⟨w.heap.size + 1 + 1, 0, none⟩ = some (.int .i64 tx) := by rw [eW]; go_simp
  have t1 : W0.cell? ⟨w.heap.size + 1 + 1, 1, none⟩ = some (.int .i64 ty) := by rw [eW]; go_simp
  have v0 : W0.cell? ⟨w.heap.size + 1 + 1 + 1, 0, none⟩ = some (.int .i64 vx) := by rw [eW]; go_simp
  have v1 : W0.cell? ⟨w.heap.size + 1 + 1 + 1, 1, none⟩ = some (.int .i64 vy) := by rw [eW]; go_simp
  have o0 : W0.cell? ⟨w.heap.size + 1 + 1 + 1 + 1, 0, none⟩ = some (.int .i64 0) := by rw [eW]; go_simp
  have o1 : W0.cell? ⟨w.heap.size + 1 + 1 + 1 + 1, 1, none⟩ = some (.int .i64 0) := by rw [eW]; go_simp
  have s0 : W0.cell? ⟨w.heap.size + 1 + 1 + 1 + 1 + 1, 0, none⟩ = some (.int .i64 0) := by rw [eW]; go_simp
  have s1 : W0.cell? ⟨w.heap.size + 1 + 1 + 1 + 1 + 1, 1, none⟩ = some (.int .i64 0) := by rw [eW]; go_simp
  have of_ : ∀ i, W0.frozen? ⟨w.heap.size + 1 + 1 + 1 + 1, i, none⟩ = false := fun i => by rw [eW]; go_simp
  have sf : ∀ i, W0.frozen? ⟨w.heap.size + 1 + 1 + 1 + 1 + 1, i, none⟩ = false := fun i => by rw [eW]; go_simp
  have pf : ∀ i, W0.frozen? ⟨w.heap.size, i, none⟩ = false := fun i => by rw [eW]; go_simp
  have qf : ∀ i, W0.frozen? ⟨w.heap.size + 1, i, none⟩ = false := fun i => by rw [eW]; go_simp
  have M0 : Hid (Made w.heap.size w W0) := by unfold Hid; rw [eW]; exact ((((((Made.rfl_ _ _).cells (Nat.le_refl _) _ _).cells (by simp) _ _).cells (by simp; omega) _ _).cells (by simp; omega) _ _).cells (by simp; omega) _ _).cells (by simp; omega) _ _
  rw [← eW]
  clear eW
  refine reg_made (by kernel_rfl) (by kernel_rfl) ?_
  intro T hT f hf
  have p0' := Class.reads hf p0
  have p1' := Class.reads hf p1
  have v0' := Class.reads hf v0
  have v1' := Class.reads hf v1
  have t0' := Class.reads hf t0
  have t1' := Class.reads hf t1
  repeat (go_big_quiet_step ((first
    | (go_at_call 29; with_reducible exact hf.made (vsub_is _ _ _ _ _ _ _ i0 i1 i4 i5 EUX.out EUY.out))
    | (go_at_call 51; with_reducible exact hf.made (vdot_is _ _ _ _ _ _ i6 i7 iux iuy EX.out)))))
  refine wpQuiet_nil ?_
  intro w1 h1
  have k1 := hf.here h1
  have p0 := k1.reads p0
  have p1 := k1.reads p1
  have q0 := k1.reads q0
  have q1 := k1.reads q1
  have t0 := k1.reads t0
  have t1 := k1.reads t1
  have v0 := k1.reads v0
  have v1 := k1.reads v1
  have o0 := k1.reads o0
  have o1 := k1.reads o1
  have s0 := k1.reads s0
  have s1 := k1.reads s1
  have of_ : ∀ i, w1.frozen? ⟨w.heap.size + 1 + 1 + 1 + 1, i, none⟩ = false := fun i => (k1.2 _).trans (of_ i)
  have sf : ∀ i, w1.frozen? ⟨w.heap.size + 1 + 1 + 1 + 1 + 1, i, none⟩ = false := fun i => (k1.2 _).trans (sf i)
  have pf : ∀ i, w1.frozen? ⟨w.heap.size, i, none⟩ = false := fun i => (k1.2 _).trans (pf i)
  have qf : ∀ i, w1.frozen? ⟨w.heap.size + 1, i, none⟩ = false := fun i => (k1.2 _).trans (qf i)
  have M1 : Hid (Made w.heap.size w w1) := M0.out.then_ (k1.low M0.out.1.size)
  clear k1 h1 hf p0' p1' v0' v1' t0' t1' M0
  go_upto_region 2 with fail
  refine reg_made (by kernel_rfl) (by kernel_rfl) ?_
  intro T hT f hf
  have q0' := Class.reads hf q0
  have q1' := Class.reads hf q1
  have v0' := Class.reads hf v0
  have v1' := Class.reads hf v1
  have t0' := Class.reads hf t0
  have t1' := Class.reads hf t1
  repeat (go_big_quiet_step ((first
    | (go_at_call 29; with_reducible exact hf.made (vsub_is _ _ _ _ _ _ _ i2 i3 i4 i5 EZX.out EZY.out))
    | (go_at_call 51; with_reducible exact hf.made (vdot_is _ _ _ _ _ _ i6 i7 izx izy EY.out)))))
  refine wpQuiet_nil ?_
  intro w2 h1
  have k1 := hf.here h1
  have p0 := k1.reads p0
  have p1 := k1.reads p1
  have q0 := k1.reads q0
  have q1 := k1.reads q1
  have t0 := k1.reads t0
  have t1 := k1.reads t1
  have v0 := k1.reads v0
  have v1 := k1.reads v1
  have o0 := k1.reads o0
  have o1 := k1.reads o1
  have s0 := k1.reads s0
  have s1 := k1.reads s1
  have of_ : ∀ i, w2.frozen? ⟨w.heap.size + 1 + 1 + 1 + 1, i, none⟩ = false := fun i => (k1.2 _).trans (of_ i)
  have sf : ∀ i, w2.frozen? ⟨w.heap.size + 1 + 1 + 1 + 1 + 1, i, none⟩ = false := fun i => (k1.2 _).trans (sf i)
  have pf : ∀ i, w2.frozen? ⟨w.heap.size, i, none⟩ = false := fun i => (k1.2 _).trans (pf i)
  have qf : ∀ i, w2.frozen? ⟨w.heap.size + 1, i, none⟩ = false := fun i => (k1.2 _).trans (qf i)
  have M2 : Hid (Made w.heap.size w w2) := M1.out.then_ (k1.low M1.out.1.size)
  clear k1 h1 hf q0' q1' v0' v1' t0' t1' M1
  have ls : w.heap.size + 1 + 1 + 1 + 1 + 1 < w2.heap.size := World.block_lt_of_cell? _ _ s0
  have lo : w.heap.size + 1 + 1 + 1 + 1 < w2.heap.size := by omega
  have lq : w.heap.size + 1 < w2.heap.size := by omega
  have lp : w.heap.size < w2.heap.size := by omega
  go_wp2_with fail
  refine (tmoved_is px py qx qy x y ax ay _ i0 i1 i2 i3 ix iy HX.out EA.out).mono ?_
  rintro e w3 ⟨rfl, k3⟩
  have p0 := k3.reads p0
  have p1 := k3.reads p1
  have q0 := k3.reads q0
  have q1 := k3.reads q1
  have o0 := k3.reads o0
  have o1 := k3.reads o1
  have s0 := k3.reads s0
  have s1 := k3.reads s1
  have of_ : ∀ i, w3.frozen? ⟨w.heap.size + 1 + 1 + 1 + 1, i, none⟩ = false := fun i => (k3.2 _).trans (of_ i)
  have sf : ∀ i, w3.frozen? ⟨w.heap.size + 1 + 1 + 1 + 1 + 1, i, none⟩ = false := fun i => (k3.2 _).trans (sf i)
  have pf : ∀ i, w3.frozen? ⟨w.heap.size, i, none⟩ = false := fun i => (k3.2 _).trans (pf i)
  have qf : ∀ i, w3.frozen? ⟨w.heap.size + 1, i, none⟩ = false := fun i => (k3.2 _).trans (qf i)
  have M3 : Hid (Made w.heap.size w w3) := M2.out.then_ (k3.low M2.out.1.size)
  clear k3 t0 t1 v0 v1 ls lo lq lp
  have ls : w.heap.size + 1 + 1 + 1 + 1 + 1 < w3.heap.size := World.block_lt_of_cell? _ _ s0
  have lo : w.heap.size + 1 + 1 + 1 + 1 < w3.heap.size := by omega
  have lq : w.heap.size + 1 < w3.heap.size := by omega
  have lp : w.heap.size < w3.heap.size := by omega
  go_upto_region 9 with fail
  obtain ⟨W4, eW⟩ : ∃ W, W = (w3.setCell ⟨w.heap.size, 0, none⟩ (.int .i64 ax)).setCell ⟨w.heap.size, 1, none⟩ (.int .i64 ay) := ⟨_, rfl⟩
  have p0 : W4.cell? ⟨w.heap.size, 0, none⟩ = some (.int .i64 ax) := by rw [eW]; go_simp
  have p1 : W4.cell? ⟨w.heap.size, 1, none⟩ = some (.int .i64 ay) := by rw [eW]; go_simp
  have q0 : W4.cell? ⟨w.heap.size + 1, 0, none⟩ = some (.int .i64 qx) := by rw [eW]; exact cell_else (by simp; try omega) (cell_else (by simp; try omega) q0)
  have q1 : W4.cell? ⟨w.heap.size + 1, 1, none⟩ = some (.int .i64 qy) := by rw [eW]; exact cell_else (by simp; try omega) (cell_else (by simp; try omega) q1)
  have o0 : W4.cell? ⟨w.heap.size + 1 + 1 + 1 + 1, 0, none⟩ = some (.int .i64 0) := by rw [eW]; exact cell_else (by simp; try omega) (cell_else (by simp; try omega) o0)
  have o1 : W4.cell? ⟨w.heap.size + 1 + 1 + 1 + 1, 1, none⟩ = some (.int .i64 0) := by rw [eW]; exact cell_else (by simp; try omega) (cell_else (by simp; try omega) o1)
  have s0 : W4.cell? ⟨w.heap.size + 1 + 1 + 1 + 1 + 1, 0, none⟩ = some (.int .i64 0) := by rw [eW]; exact cell_else (by simp; try omega) (cell_else (by simp; try omega) s0)
  have s1 : W4.cell? ⟨w.heap.size + 1 + 1 + 1 + 1 + 1, 1, none⟩ = some (.int .i64 0) := by rw [eW]; exact cell_else (by simp; try omega) (cell_else (by simp; try omega) s1)
  have of_ : ∀ i, W4.frozen? ⟨w.heap.size + 1 + 1 + 1 + 1, i, none⟩ = false := fun i => by rw [eW]; simpa using of_ i
  have sf : ∀ i, W4.frozen? ⟨w.heap.size + 1 + 1 + 1 + 1 + 1, i, none⟩ = false := fun i => by rw [eW]; simpa using sf i
  have pf : ∀ i, W4.frozen? ⟨w.heap.size, i, none⟩ = false := fun i => by rw [eW]; simpa using pf i
  have qf : ∀ i, W4.frozen? ⟨w.heap.size + 1, i, none⟩ = false := fun i => by rw [eW]; simpa using qf i
  have M4 : Hid (Made w.heap.size w W4) := by unfold Hid; rw [eW]; exact (M3.out.put (by simp; try omega) _).put (by simp; try omega) _
  rw [← eW]
  clear eW
  go_region
  all_goals (go_wp2_with fail)
  all_goals (refine bodyPost_ret (v := .tuple #[vecV ax ay, vecV qx qy, .bool true]) (by simp [results, Try.results97, go_sem, o0, o1, s0, s1]) rfl ⟨rfl, ?_⟩)
  all_goals (exact ((((M4.out.draws 1).put (by simp; try omega) _).put (by simp; try omega) _).put (by simp; try omega) _).put (by simp; try omega) _)

set_option maxRecDepth 100000 in
set_option maxHeartbeats 1000000 in
theorem tcut_q (px py qx qy tx ty vx vy x y : Int) (w : World) (i0 : I64 px) (i1 : I64 py) (i2 : I64 qx) (i3 : I64 qy) (i6 : I64 tx) (i7 : I64 ty) (i4 : I64 vx) (i5 : I64 vy) (ex : dotV (tx, ty) (subV (px, py) (vx, vy)) = x) (ey : dotV (tx, ty) (subV (qx, qy) (vx, vy)) = y) (hx : ¬ x < 0) (hy : y < 0) (ax ay : Int) (ea : moveV (qx, qy) (px, py) y x = (ax, ay)) :
    Calls Try.prog 97 #[vecV px py, vecV qx qy, vecV tx ty, vecV vx vy] w fun e w' => e = .returned (.tuple #[vecV px py, vecV ax ay, .bool true]) ∧ Made w.heap.size w w' := by
  obtain ⟨ux, eux⟩ : ∃ z, subF px vx = z := ⟨_, rfl⟩
  obtain ⟨uy, euy⟩ : ∃ z, subF py vy = z := ⟨_, rfl⟩
  obtain ⟨zx, ezx⟩ : ∃ z, subF qx vx = z := ⟨_, rfl⟩
  obtain ⟨zy, ezy⟩ : ∃ z, subF qy vy = z := ⟨_, rfl⟩
  have iux : I64 ux := by rw [← eux]; exact i64_sub _ _
  have iuy : I64 uy := by rw [← euy]; exact i64_sub _ _
  have izx : I64 zx := by rw [← ezx]; exact i64_sub _ _
  have izy : I64 zy := by rw [← ezy]; exact i64_sub _ _
  have ix : I64 x := by rw [← ex]; exact i64_add _ _
  have iy : I64 y := by rw [← ey]; exact i64_add _ _
  have EX : Hid (addF (mulF tx ux) (mulF ty uy) = x) := by unfold Hid; rw [← eux, ← euy]; exact ex
  have EY : Hid (addF (mulF tx zx) (mulF ty zy) = y) := by unfold Hid; rw [← ezx, ← ezy]; exact ey
  have EUX := hid eux; have EUY := hid euy; have EZX := hid ezx; have EZY := hid ezy
  have EA := hid ea
  have HX := hid hy
  clear ea
  clear eux euy ezx ezy ex ey
  have gx : decide (x < 0) = false := by exact decide_eq_false hx
  have gy : decide (y < 0) = true := by exact decide_eq_true hy
  clear hx hy
  go_enter Try.func97, Try.ntmps97
  go_upto_region 1 with fail
  obtain ⟨W0, eW⟩ : ∃ W, W = (((((w.alloc (.cells #[.int .i64 px, .int .i64 py] 26)).alloc (.cells #[.int .i64 qx, .int .i64 qy] 26)).alloc (.cells #[.int .i64 tx, .int .i64 ty] 26)).alloc (.cells #[.int .i64 vx, .int .i64 vy] 26)).alloc (.cells #[.int .i64 0, .int .i64 0] 26)).alloc (.cells #[.int .i64 0, .int .i64 0] 26) := ⟨_, rfl⟩
  have p0 : W0.cell? ⟨w.heap.size, 0, none⟩ = some (.int .i64 px) := by rw [eW]; go_simp
  have p1 : W0.cell? ⟨w.heap.size, 1, none⟩ = some (.int .i64 py) := by rw [eW]; go_simp
  have q0 : W0.cell? ⟨w.heap.size + 1, 0, none⟩ = some (.int .i64 qx) := by rw [eW]; go_simp
  have q1 : W0.cell? ⟨w.heap.size + 1, 1, none⟩ = some (.int .i64 qy) := by rw [eW]; go_simp
  have t0 : W0.cell? ⟨w.heap.size + 1 + 1, 0, none⟩ = some (.int .i64 tx) := by rw [eW]; go_simp
  have t1 : W0.cell? ⟨w.heap.size + 1 + 1, 1, none⟩ = some (.int .i64 ty) := by rw [eW]; go_simp
  have v0 : W0.cell? ⟨w.heap.size + 1 + 1 + 1, 0, none⟩ = some (.int .i64 vx) := by rw [eW]; go_simp
  have v1 : W0.cell? ⟨w.heap.size + 1 + 1 + 1, 1, none⟩ = some (.int .i64 vy) := by rw [eW]; go_simp
  have o0 : W0.cell? ⟨w.heap.size + 1 + 1 + 1 + 1, 0, none⟩ = some (.int .i64 0) := by rw [eW]; go_simp
  have o1 : W0.cell? ⟨w.heap.size + 1 + 1 + 1 + 1, 1, none⟩ = some (.int .i64 0) := by rw [eW]; go_simp
  have s0 : W0.cell? ⟨w.heap.size + 1 + 1 + 1 + 1 + 1, 0, none⟩ = some (.int .i64 0) := by rw [eW]; go_simp
  have s1 : W0.cell? ⟨w.heap.size + 1 + 1 + 1 + 1 + 1, 1, none⟩ = some (.int .i64 0) := by rw [eW]; go_simp
  have of_ : ∀ i, W0.frozen? ⟨w.heap.size + 1 + 1 + 1 + 1, i, none⟩ = false := fun i => by rw [eW]; go_simp
  have sf : ∀ i, W0.frozen? ⟨w.heap.size + 1 + 1 + 1 + 1 + 1, i, none⟩ = false := fun i => by rw [eW]; go_simp
  have pf : ∀ i, W0.frozen? ⟨w.heap.size, i, none⟩ = false := fun i => by rw [eW]; go_simp
  have qf : ∀ i, W0.frozen? ⟨w.heap.size + 1, i, none⟩ = false := fun i => by rw [eW]; go_simp
  have M0 : Hid (Made w.heap.size w W0) := by unfold Hid; rw [eW]; exact ((((((Made.rfl_ _ _).cells (Nat.le_refl _) _ _).cells (by simp) _ _).cells (by simp; omega) _ _).cells (by simp; omega) _ _).cells (by simp; omega) _ _).cells (by simp; omega) _ _
  rw [← eW]
  clear eW
  refine reg_made (by kernel_rfl) (by kernel_rfl) ?_
  intro T hT f hf
  have p0' := Class.reads hf p0
  have p1' := Class.reads hf p1
  have v0' := Class.reads hf v0
  have v1' := Class.reads hf v1
  have t0' := Class.reads hf t0
  have t1' := Class.reads hf t1
  repeat (go_big_quiet_step ((first
    | (go_at_call 29; with_reducible exact hf.made (vsub_is _ _ _ _ _ _ _ i0 i1 i4 i5 EUX.out EUY.out))
    | (go_at_call 51; with_reducible exact hf.made (vdot_is _ _ _ _ _ _ i6 i7 iux iuy EX.out)))))
  refine wpQuiet_nil ?_
  intro w1 h1
  have k1 := hf.here h1
  have p0 := k1.reads p0
  have p1 := k1.reads p1
  have q0 := k1.reads q0
  have q1 := k1.reads q1
  have t0 := k1.reads t0
  have t1 := k1.reads t1
  have v0 := k1.reads v0
  have v1 := k1.reads v1
  have o0 := k1.reads o0
  have o1 := k1.reads o1
  have s0 := k1.reads s0
  have s1 := k1.reads s1
  have of_ : ∀ i, w1.frozen? ⟨w.heap.size + 1 + 1 + 1 + 1, i, none⟩ = false := fun i => (k1.2 _).trans (of_ i)
  have sf : ∀ i, w1.frozen? ⟨w.heap.size + 1 + 1 + 1 + 1 + 1, i, none⟩ = false := fun i => (k1.2 _).trans (sf i)
  have pf : ∀ i, w1.frozen? ⟨w.heap.size, i, none⟩ = false := fun i => (k1.2 _).trans (pf i)
  have qf : ∀ i, w1.frozen? ⟨w.heap.size + 1, i, none⟩ = false := fun i => (k1.2 _).trans (qf i)
  have M1 : Hid (Made w.heap.size w w1) := M0.out.then_ (k1.low M0.out.1.size)
  clear k1 h1 hf p0' p1' v0' v1' t0' t1' M0
  go_upto_region 2 with fail
  refine reg_made (by kernel_rfl) (by kernel_rfl) ?_
  intro T hT f hf
  have q0' := Class.reads hf q0
  have q1' := Class.reads hf q1
  have v0' := Class.reads hf v0
  have v1' := Class.reads hf v1
  have t0' := Class.reads hf t0
  have t1' := Class.reads hf t1
  repeat (go_big_quiet_step ((first
    | (go_at_call 29; with_reducible exact hf.made (vsub_is _ _ _ _ _ _ _ i2 i3 i4 i5 EZX.out EZY.out))
    | (go_at_call 51; with_reducible exact hf.made (vdot_is _ _ _ _ _ _ i6 i7 izx izy EY.out)))))
  refine wpQuiet_nil ?_
  intro w2 h1
  have k1 := hf.here h1
  have p0 := k1.reads p0
  have p1 := k1.reads p1
  have q0 := k1.reads q0
  have q1 := k1.reads q1
  have t0 := k1.reads t0
  have t1 := k1.reads t1
  have v0 := k1.reads v0
  have v1 := k1.reads v1
  have o0 := k1.reads o0
  have o1 := k1.reads o1
  have s0 := k1.reads s0
  have s1 := k1.reads s1
  have of_ : ∀ i, w2.frozen? ⟨w.heap.size + 1 + 1 + 1 + 1, i, none⟩ = false := fun i => (k1.2 _).trans (of_ i)
  have sf : ∀ i, w2.frozen? ⟨w.heap.size + 1 + 1 + 1 + 1 + 1, i, none⟩ = false := fun i => (k1.2 _).trans (sf i)
  have pf : ∀ i, w2.frozen? ⟨w.heap.size, i, none⟩ = false := fun i => (k1.2 _).trans (pf i)
  have qf : ∀ i, w2.frozen? ⟨w.heap.size + 1, i, none⟩ = false := fun i => (k1.2 _).trans (qf i)
  have M2 : Hid (Made w.heap.size w w2) := M1.out.then_ (k1.low M1.out.1.size)
  clear k1 h1 hf q0' q1' v0' v1' t0' t1' M1
  have ls : w.heap.size + 1 + 1 + 1 + 1 + 1 < w2.heap.size := World.block_lt_of_cell? _ _ s0
  have lo : w.heap.size + 1 + 1 + 1 + 1 < w2.heap.size := by omega
  have lq : w.heap.size + 1 < w2.heap.size := by omega
  have lp : w.heap.size < w2.heap.size := by omega
  go_wp2_with fail
  refine (tmoved_is qx qy px py y x ax ay _ i2 i3 i0 i1 iy ix HX.out EA.out).mono ?_
  rintro e w3 ⟨rfl, k3⟩
  have p0 := k3.reads p0
  have p1 := k3.reads p1
  have q0 := k3.reads q0
  have q1 := k3.reads q1
  have o0 := k3.reads o0
  have o1 := k3.reads o1
  have s0 := k3.reads s0
  have s1 := k3.reads s1
  have of_ : ∀ i, w3.frozen? ⟨w.heap.size + 1 + 1 + 1 + 1, i, none⟩ = false := fun i => (k3.2 _).trans (of_ i)
  have sf : ∀ i, w3.frozen? ⟨w.heap.size + 1 + 1 + 1 + 1 + 1, i, none⟩ = false := fun i => (k3.2 _).trans (sf i)
  have pf : ∀ i, w3.frozen? ⟨w.heap.size, i, none⟩ = false := fun i => (k3.2 _).trans (pf i)
  have qf : ∀ i, w3.frozen? ⟨w.heap.size + 1, i, none⟩ = false := fun i => (k3.2 _).trans (qf i)
  have M3 : Hid (Made w.heap.size w w3) := M2.out.then_ (k3.low M2.out.1.size)
  clear k3 t0 t1 v0 v1 ls lo lq lp
  have ls : w.heap.size + 1 + 1 + 1 + 1 + 1 < w3.heap.size := World.block_lt_of_cell? _ _ s0
  have lo : w.heap.size + 1 + 1 + 1 + 1 < w3.heap.size := by omega
  have lq : w.heap.size + 1 < w3.heap.size := by omega
  have lp : w.heap.size < w3.heap.size := by omega
  go_upto_region 9 with fail
  obtain ⟨W4, eW⟩ : ∃ W, W = (w3.setCell ⟨w.heap.size + 1, 0, none⟩ (.int .i64 ax)).setCell ⟨w.heap.size + 1, 1, none⟩ (.int .i64 ay) := ⟨_, rfl⟩
  have p0 : W4.cell? ⟨w.heap.size, 0, none⟩ = some (.int .i64 px) := by rw [eW]; exact cell_else (by simp; try omega) (cell_else (by simp; try omega) p0)
  have p1 : W4.cell? ⟨w.heap.size, 1, none⟩ = some (.int .i64 py) := by rw [eW]; exact cell_else (by simp; try omega) (cell_else (by simp; try omega) p1)
  have q0 : W4.cell? ⟨w.heap.size + 1, 0, none⟩ = some (.int .i64 ax) := by rw [eW]; go_simp
  have q1 : W4.cell? ⟨w.heap.size + 1, 1, none⟩ = some (.int .i64 ay) := by rw [eW]; go_simp
  have o0 : W4.cell? ⟨w.heap.size + 1 + 1 + 1 + 1, 0, none⟩ = some (.int .i64 0) := by rw [eW]; exact cell_else (by simp; try omega) (cell_else (by simp; try omega) o0)
  have o1 : W4.cell? ⟨w.heap.size + 1 + 1 + 1 + 1, 1, none⟩ = some (.int .i64 0) := by rw [eW]; exact cell_else (by simp; try omega) (cell_else (by simp; try omega) o1)
  have s0 : W4.cell? ⟨w.heap.size + 1 + 1 + 1 + 1 + 1, 0, none⟩ = some (.int .i64 0) := by rw [eW]; exact cell_else (by simp; try omega) (cell_else (by simp; try omega) s0)
  have s1 : W4.cell? ⟨w.heap.size + 1 + 1 + 1 + 1 + 1, 1, none⟩ = some (.int .i64 0) := by rw [eW]; exact cell_else (by simp; try omega) (cell_else (by simp; try omega) s1)
  have of_ : ∀ i, W4.frozen? ⟨w.heap.size + 1 + 1 + 1 + 1, i, none⟩ = false := fun i => by rw [eW]; simpa using of_ i
  have sf : ∀ i, W4.frozen? ⟨w.heap.size + 1 + 1 + 1 + 1 + 1, i, none⟩ = false := fun i => by rw [eW]; simpa using sf i
  have pf : ∀ i, W4.frozen? ⟨w.heap.size, i, none⟩ = false := fun i => by rw [eW]; simpa using pf i
  have qf : ∀ i, W4.frozen? ⟨w.heap.size + 1, i, none⟩ = false := fun i => by rw [eW]; simpa using qf i
  have M4 : Hid (Made w.heap.size w W4) := by unfold Hid; rw [eW]; exact (M3.out.put (by simp; try omega) _).put (by simp; try omega) _
  rw [← eW]
  clear eW
  go_region
  all_goals (go_wp2_with fail)
  all_goals (refine bodyPost_ret (v := .tuple #[vecV px py, vecV ax ay, .bool true]) (by simp [results, Try.results97, go_sem, o0, o1, s0, s1]) rfl ⟨rfl, ?_⟩)
  all_goals (exact ((((M4.out.draws 1).put (by simp; try omega) _).put (by simp; try omega) _).put (by simp; try omega) _).put (by simp; try omega) _)

set_option maxRecDepth 100000 in
set_option maxHeartbeats 1000000 in
theorem tcut_same (px py qx qy tx ty vx vy x y : Int) (w : World) (i0 : I64 px) (i1 : I64 py) (i2 : I64 qx) (i3 : I64 qy) (i6 : I64 tx) (i7 : I64 ty) (i4 : I64 vx) (i5 : I64 vy) (ex : dotV (tx, ty) (subV (px, py) (vx, vy)) = x) (ey : dotV (tx, ty) (subV (qx, qy) (vx, vy)) = y) (hx : ¬ x < 0) (hy : ¬ y < 0) :
    Calls Try.prog 97 #[vecV px py, vecV qx qy, vecV tx ty, vecV vx vy] w fun e w' => e = .returned (.tuple #[vecV px py, vecV qx qy, .bool true]) ∧ Made w.heap.size w w' := by
  obtain ⟨ux, eux⟩ : ∃ z, subF px vx = z := ⟨_, rfl⟩
  obtain ⟨uy, euy⟩ : ∃ z, subF py vy = z := ⟨_, rfl⟩
  obtain ⟨zx, ezx⟩ : ∃ z, subF qx vx = z := ⟨_, rfl⟩
  obtain ⟨zy, ezy⟩ : ∃ z, subF qy vy = z := ⟨_, rfl⟩
  have iux : I64 ux := by rw [← eux]; exact i64_sub _ _
  have iuy : I64 uy := by rw [← euy]; exact i64_sub _ _
  have izx : I64 zx := by rw [← ezx]; exact i64_sub _ _
  have izy : I64 zy := by rw [← ezy]; exact i64_sub _ _
  have ix : I64 x := by rw [← ex]; exact i64_add _ _
  have iy : I64 y := by rw [← ey]; exact i64_add _ _
  have EX : Hid (addF (mulF tx ux) (mulF ty uy) = x) := by unfold Hid; rw [← eux, ← euy]; exact ex
  have EY : Hid (addF (mulF tx zx) (mulF ty zy) = y) := by unfold Hid; rw [← ezx, ← ezy]; exact ey
  have EUX := hid eux; have EUY := hid euy; have EZX := hid ezx; have EZY := hid ezy
  clear eux euy ezx ezy ex ey
  have gx : decide (x < 0) = false := by exact decide_eq_false hx
  have gy : decide (y < 0) = false := by exact decide_eq_false hy
  clear hx hy
  go_enter Try.func97, Try.ntmps97
  go_upto_region 1 with fail
  obtain ⟨W0, eW⟩ : ∃ W, W = (((((w.alloc (.cells #[.int .i64 px, .int .i64 py] 26)).alloc (.cells #[.int .i64 qx, .int .i64 qy] 26)).alloc (.cells #[.int .i64 tx, .int .i64 ty] 26)).alloc (.cells #[.int .i64 vx, .int .i64 vy] 26)).alloc (.cells #[.int .i64 0, .int .i64 0] 26)).alloc (.cells #[.int .i64 0, .int .i64 0] 26) := ⟨_, rfl⟩
  have p0 : W0.cell? ⟨w.heap.size, 0, none⟩ = some (.int .i64 px) := by rw [eW]; go_simp
  have p1 : W0.cell? ⟨w.heap.size, 1, none⟩ = some (.int .i64 py) := by rw [eW]; go_simp
  have q0 : W0.cell? ⟨w.heap.size + 1, 0, none⟩ = some (.int .i64 qx) := by rw [eW]; go_simp
  have q1 : W0.cell? ⟨w.heap.size + 1, 1, none⟩ = some (.int .i64 qy) := by rw [eW]; go_simp
  have t0 : W0.cell? ⟨w.heap.size + 1 + 1, 0, none⟩ = some (.int .i64 tx) := by rw [eW]; go_simp
  have t1 : W0.cell? ⟨w.heap.size + 1 + 1, 1, none⟩ = some (.int .i64 ty) := by rw [eW]; go_simp
  have v0 : W0.cell? ⟨w.heap.size + 1 + 1 + 1, 0, none⟩ = some (.int .i64 vx) := by rw [eW]; go_simp
  have v1 : W0.cell? ⟨w.heap.size + 1 + 1 + 1, 1, none⟩ = some (.int .i64 vy) := by rw [eW]; go_simp
  have o0 : W0.cell? ⟨w.heap.size + 1 + 1 + 1 + 1, 0, none⟩ = some (.int .i64 0) := by rw [eW]; go_simp
  have o1 : W0.cell? ⟨w.heap.size + 1 + 1 + 1 + 1, 1, none⟩ = some (.int .i64 0) := by rw [eW]; go_simp
  have s0 : W0.cell? ⟨w.heap.size + 1 + 1 + 1 + 1 + 1, 0, none⟩ = some (.int .i64 0) := by rw [eW]; go_simp
  have s1 : W0.cell? ⟨w.heap.size + 1 + 1 + 1 + 1 + 1, 1, none⟩ = some (.int .i64 0) := by rw [eW]; go_simp
  have of_ : ∀ i, W0.frozen? ⟨w.heap.size + 1 + 1 + 1 + 1, i, none⟩ = false := fun i => by rw [eW]; go_simp
  have sf : ∀ i, W0.frozen? ⟨w.heap.size + 1 + 1 + 1 + 1 + 1, i, none⟩ = false := fun i => by rw [eW]; go_simp
  have pf : ∀ i, W0.frozen? ⟨w.heap.size, i, none⟩ = false := fun i => by rw [eW]; go_simp
  have qf : ∀ i, W0.frozen? ⟨w.heap.size + 1, i, none⟩ = false := fun i => by rw [eW]; go_simp
  have M0 : Hid (Made w.heap.size w W0) := by unfold Hid; rw [eW]; exact ((((((Made.rfl_ _ _).cells (Nat.le_refl _) _ _).cells (by simp) _ _).cells (by simp; omega) _ _).cells (by simp; omega) _ _).cells (by simp; omega) _ _).cells (by simp; omega) _ _
  rw [← eW]
  clear eW
  refine reg_made (by kernel_rfl) (by kernel_rfl) ?_
  intro T hT f hf
  have p0' := Class.reads hf p0
  have p1' := Class.reads hf p1
  have v0' := Class.reads hf v0
  have v1' := Class.reads hf v1
  have t0' := Class.reads hf t0
  have t1' := Class.reads hf t1
  repeat (go_big_quiet_step ((first
    | (go_at_call 29; with_reducible exact hf.made (vsub_is _ _ _ _ _ _ _ i0 i1 i4 i5 EUX.out EUY.out))
    | (go_at_call 51; with_reducible exact hf.made (vdot_is _ _ _ _ _ _ i6 i7 iux iuy EX.out)))))
  refine wpQuiet_nil ?_
  intro w1 h1
  have k1 := hf.here h1
  have p0 := k1.reads p0
  have p1 := k1.reads p1
  have q0 := k1.reads q0
  have q1 := k1.reads q1
  have t0 := k1.reads t0
  have t1 := k1.reads t1
  have v0 := k1.reads v0
  have v1 := k1.reads v1
  have o0 := k1.reads o0
  have o1 := k1.reads o1
  have s0 := k1.reads s0
  have s1 := k1.reads s1
  have of_ : ∀ i, w1.frozen? ⟨w.heap.size + 1 + 1 + 1 + 1, i, none⟩ = false := fun i => (k1.2 _).trans (of_ i)
  have sf : ∀ i, w1.frozen? ⟨w.heap.size + 1 + 1 + 1 + 1 + 1, i, none⟩ = false := fun i => (k1.2 _).trans (sf i)
  have pf : ∀ i, w1.frozen? ⟨w.heap.size, i, none⟩ = false := fun i => (k1.2 _).trans (pf i)
  have qf : ∀ i, w1.frozen? ⟨w.heap.size + 1, i, none⟩ = false := fun i => (k1.2 _).trans (qf i)
  have M1 : Hid (Made w.heap.size w w1) := M0.out.then_ (k1.low M0.out.1.size)
  clear k1 h1 hf p0' p1' v0' v1' t0' t1' M0
  go_upto_region 2 with fail
  refine reg_made (by kernel_rfl) (by kernel_rfl) ?_
  intro T hT f hf
  have q0' := Class.reads hf q0
  have q1' := Class.reads hf q1
  have v0' := Class.reads hf v0
  have v1' := Class.reads hf v1
  have t0' := Class.reads hf t0
  have t1' := Class.reads hf t1
  repeat (go_big_quiet_step ((first
    | (go_at_call 29; with_reducible exact hf.made (vsub_is _ _ _ _ _ _ _ i2 i3 i4 i5 EZX.out EZY.out))
    | (go_at_call 51; with_reducible exact hf.made (vdot_is _ _ _ _ _ _ i6 i7 izx izy EY.out)))))
  refine wpQuiet_nil ?_
  intro w2 h1
  have k1 := hf.here h1
  have p0 := k1.reads p0
  have p1 := k1.reads p1
  have q0 := k1.reads q0
  have q1 := k1.reads q1
  have t0 := k1.reads t0
  have t1 := k1.reads t1
  have v0 := k1.reads v0
  have v1 := k1.reads v1
  have o0 := k1.reads o0
  have o1 := k1.reads o1
  have s0 := k1.reads s0
  have s1 := k1.reads s1
  have of_ : ∀ i, w2.frozen? ⟨w.heap.size + 1 + 1 + 1 + 1, i, none⟩ = false := fun i => (k1.2 _).trans (of_ i)
  have sf : ∀ i, w2.frozen? ⟨w.heap.size + 1 + 1 + 1 + 1 + 1, i, none⟩ = false := fun i => (k1.2 _).trans (sf i)
  have pf : ∀ i, w2.frozen? ⟨w.heap.size, i, none⟩ = false := fun i => (k1.2 _).trans (pf i)
  have qf : ∀ i, w2.frozen? ⟨w.heap.size + 1, i, none⟩ = false := fun i => (k1.2 _).trans (qf i)
  have M2 : Hid (Made w.heap.size w w2) := M1.out.then_ (k1.low M1.out.1.size)
  clear k1 h1 hf q0' q1' v0' v1' t0' t1' M1
  have ls : w.heap.size + 1 + 1 + 1 + 1 + 1 < w2.heap.size := World.block_lt_of_cell? _ _ s0
  have lo : w.heap.size + 1 + 1 + 1 + 1 < w2.heap.size := by omega
  have lq : w.heap.size + 1 < w2.heap.size := by omega
  have lp : w.heap.size < w2.heap.size := by omega
  go_upto_region 9 with fail
  go_region
  all_goals (go_wp2_with fail)
  all_goals (refine bodyPost_ret (v := .tuple #[vecV px py, vecV qx qy, .bool true]) (by simp [results, Try.results97, go_sem, o0, o1, s0, s1]) rfl ⟨rfl, ?_⟩)
  all_goals (exact ((((M2.out.draws 1).put (by simp; try omega) _).put (by simp; try omega) _).put (by simp; try omega) _).put (by simp; try omega) _)

/-- both ends lie behind -/
theorem tcut_no (px py qx qy tx ty vx vy x y : Int) (w : World) (i0 : I64 px) (i1 : I64 py) (i2 : I64 qx) (i3 : I64 qy) (i6 : I64 tx) (i7 : I64 ty) (i4 : I64 vx) (i5 : I64 vy) (ex : dotV (tx, ty) (subV (px, py) (vx, vy)) = x) (ey : dotV (tx, ty) (subV (qx, qy) (vx, vy)) = y) (hx : x < 0 ∧ y < 0) :
    Calls Try.prog 97 #[vecV px py, vecV qx qy, vecV tx ty, vecV vx vy] w fun e w' => e = .returned (.tuple #[vecV 0 0, vecV 0 0, .bool false]) ∧ Made w.heap.size w w' :=
  tcut_none px py qx qy tx ty vx vy x y w i0 i1 i2 i3 i6 i7 i4 i5 ex ey hx.1 hx.2
theorem tcut_is (px py qx qy tx ty vx vy x y : Int) (w : World) (i0 : I64 px) (i1 : I64 py) (i2 : I64 qx) (i3 : I64 qy) (i6 : I64 tx) (i7 : I64 ty) (i4 : I64 vx) (i5 : I64 vy) (ex : dotV (tx, ty) (subV (px, py) (vx, vy)) = x) (ey : dotV (tx, ty) (subV (qx, qy) (vx, vy)) = y) (hx : ¬ (x < 0 ∧ y < 0)) (ax ay bx b_y : Int) (ea : moveV (px, py) (qx, qy) x y = (ax, ay)) (eb : moveV (qx, qy) (px, py) y x = (bx, b_y)) :
    Calls Try.prog 97 #[vecV px py, vecV qx qy, vecV tx ty, vecV vx vy] w fun e w' => e = .returned (.tuple #[vecV ax ay, vecV bx b_y, .bool true]) ∧ Made w.heap.size w w' := by
  by_cases h1 : x < 0
  · have h2 : ¬ y < 0 := fun h => hx ⟨h1, h⟩
    have := tcut_p px py qx qy tx ty vx vy x y w i0 i1 i2 i3 i6 i7 i4 i5 ex ey h1 h2 ax ay ea
    unfold moveV at eb
    rw [if_neg h2] at eb
    obtain ⟨rfl, rfl⟩ := Prod.mk.inj eb
    exact this
  · have ea' := ea
    unfold moveV at ea'
    rw [if_neg h1] at ea'
    obtain ⟨rfl, rfl⟩ := Prod.mk.inj ea'
    by_cases h2 : y < 0
    · exact tcut_q px py qx qy tx ty vx vy x y w i0 i1 i2 i3 i6 i7 i4 i5 ex ey h1 h2 bx b_y eb
    · have eb' := eb
      unfold moveV at eb'
      rw [if_neg h2] at eb'
      obtain ⟨rfl, rfl⟩ := Prod.mk.inj eb'
      exact tcut_same px py qx qy tx ty vx vy x y w i0 i1 i2 i3 i6 i7 i4 i5 ex ey h1 h2
end Go.Proofs.Ytmfkcdinfahjlaa.Fx
