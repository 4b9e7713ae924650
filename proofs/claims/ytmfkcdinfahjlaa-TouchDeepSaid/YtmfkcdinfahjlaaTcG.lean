/- Contracts of package touch: clip. -/
import Derived.Test.YtmfkcdinfahjlaaTcE
import Derived.Test.YtmfkcdinfahjlaaFls
namespace Go.Proofs.Ytmfkcdinfahjlaa.Fx
open Go.ChangeShapes Go.WideShapes Go.ChangeAt Go.RowKit
set_option linter.unusedVariables false

/-- cut, whole -/
theorem tcut_o (px py qx qy tx ty vx vy : Int) (w : World) (i0 : I64 px) (i1 : I64 py) (i2 : I64 qx) (i3 : I64 qy) (i6 : I64 tx) (i7 : I64 ty) (i4 : I64 vx) (i5 : I64 vy) (o : Option ((Int × Int) × (Int × Int))) (s : Bool) (a b c d : Int)
    (eo : cutF (px, py) (qx, qy) (vx, vy) (tx, ty) = o) (es : o.isSome = s) (ed : o.getD ((0, 0), (0, 0)) = ((a, b), (c, d))) :
    Calls Try.prog 97 #[vecV px py, vecV qx qy, vecV tx ty, vecV vx vy] w fun e w' => e = .returned (.tuple #[vecV a b, vecV c d, .bool s]) ∧ Made w.heap.size w w' := by
  unfold cutF at eo
  by_cases h : dotV (tx, ty) (subV (px, py) (vx, vy)) < 0 ∧ dotV (tx, ty) (subV (qx, qy) (vx, vy)) < 0
  · rw [if_pos h] at eo
    subst eo
    cases es
    have e1 := Prod.mk.inj ed
    have e2 := Prod.mk.inj e1.1
    have e3 := Prod.mk.inj e1.2
    obtain ⟨rfl, rfl⟩ := e2
    obtain ⟨rfl, rfl⟩ := e3
    exact tcut_no px py qx qy tx ty vx vy _ _ w i0 i1 i2 i3 i6 i7 i4 i5 rfl rfl h
  · rw [if_neg h] at eo
    subst eo
    cases es
    have e1 := Prod.mk.inj ed
    exact tcut_is px py qx qy tx ty vx vy _ _ w i0 i1 i2 i3 i6 i7 i4 i5 rfl rfl h a b c d e1.1 e1.2
theorem cut_i64 {p q v t : Int × Int} {a b c d : Int} {o : Option ((Int × Int) × (Int × Int))} (h0 : I64 p.1) (h1 : I64 p.2) (h2 : I64 q.1) (h3 : I64 q.2) (eo : cutF p q v t = o) (ed : o.getD ((0, 0), (0, 0)) = ((a, b), (c, d))) : I64 a ∧ I64 b ∧ I64 c ∧ I64 d := by
  unfold cutF at eo
  split at eo
  · subst eo
    have e1 := Prod.mk.inj ed
    have e2 := Prod.mk.inj e1.1
    have e3 := Prod.mk.inj e1.2
    obtain ⟨rfl, rfl⟩ := e2
    obtain ⟨rfl, rfl⟩ := e3
    unfold I64; omega
  · subst eo
    have e1 := Prod.mk.inj ed
    have hm : ∀ (u z : Int × Int) (x y : Int), I64 u.1 → I64 u.2 → I64 (moveV u z x y).1 ∧ I64 (moveV u z x y).2 := fun u z x y g0 g1 => by
      unfold moveV
      split
      · exact ⟨i64_add _ _, i64_add _ _⟩
      · exact ⟨g0, g1⟩
    have g1 := hm p q (dotV t (subV p v)) (dotV t (subV q v)) h0 h1
    have g2 := hm q p (dotV t (subV q v)) (dotV t (subV p v)) h2 h3
    rw [e1.1] at g1
    rw [e1.2] at g2
    exact ⟨g1.1, g1.2, g2.1, g2.2⟩

set_option maxRecDepth 100000 in
set_option maxHeartbeats 2000000 in
theorem tclip_no (vx vy wx wy nx ny px py qx qy tx ty : Int) (w : World) (i0 : I64 px) (i1 : I64 py) (i2 : I64 qx) (i3 : I64 qy) (i4 : I64 vx) (i5 : I64 vy) (i8 : I64 wx) (i9 : I64 wy) (et : unitP (subV (wx, wy) (vx, vy)) = (tx, ty)) (ec : cutF (px, py) (qx, qy) (vx, vy) (tx, ty) = none) :
    Calls Try.prog 75 #[sdV vx vy wx wy nx ny, vecV px py, vecV qx qy] w fun e w' => e = .returned (.tuple #[vecV 0 0, vecV 0 0, .bool false]) ∧ Made w.heap.size w w' := by
  obtain ⟨ex, eex⟩ : ∃ z, subF wx vx = z := ⟨_, rfl⟩
  obtain ⟨ey, eey⟩ : ∃ z, subF wy vy = z := ⟨_, rfl⟩
  have iex : I64 ex := by rw [← eex]; exact i64_sub _ _
  have iey : I64 ey := by rw [← eey]; exact i64_sub _ _
  have eun := unitV_uF ex ey
  obtain ⟨ok, eok⟩ : ∃ k, decide (lenF ex ey ≠ 0) = k := ⟨_, rfl⟩
  have et' : uF ex ey = (tx, ty) := by rw [← et]; unfold unitP subV; simp only []; rw [eex, eey]
  obtain ⟨itx, ity⟩ := i64_u ex ey
  rw [et'] at eun itx ity
  rw [eok] at eun
  have EUN : Hid (unitV ex ey = .tuple #[vecV tx ty, .bool ok]) := eun
  have EEX := hid eex; have EEY := hid eey
  have HC1 := hid (fun w => tcut_o px py qx qy tx ty vx vy w i0 i1 i2 i3 itx ity i4 i5 _ _ 0 0 0 0 ec rfl rfl)
  clear eex eey eun eok et et' ec
  go_enter Try.func75, Try.ntmps75
  go_wp2_with fail
  refine (vsub_is _ _ _ _ _ _ _ i8 i9 i4 i5 EEX.out EEY.out).mono ?_
  rintro e w1 ⟨rfl, k1⟩
  have v0 := k1.reads (p := ⟨w.heap.size, 0, none⟩) (x := .int .i64 vx) (by go_simp)
  have v1 := k1.reads (p := ⟨w.heap.size, 1, none⟩) (x := .int .i64 vy) (by go_simp)
  have z2 := k1.reads (p := ⟨w.heap.size, 2, none⟩) (x := .int .i64 wx) (by go_simp)
  have z3 := k1.reads (p := ⟨w.heap.size, 3, none⟩) (x := .int .i64 wy) (by go_simp)
  have p0 := k1.reads (p := ⟨w.heap.size + 1, 0, none⟩) (x := .int .i64 px) (by go_simp)
  have p1 := k1.reads (p := ⟨w.heap.size + 1, 1, none⟩) (x := .int .i64 py) (by go_simp)
  have q0 := k1.reads (p := ⟨w.heap.size + 1 + 1, 0, none⟩) (x := .int .i64 qx) (by go_simp)
  have q1 := k1.reads (p := ⟨w.heap.size + 1 + 1, 1, none⟩) (x := .int .i64 qy) (by go_simp)
  have o0 := k1.reads (p := ⟨w.heap.size + 1 + 1 + 1, 0, none⟩) (x := .int .i64 0) (by go_simp)
  have o1 := k1.reads (p := ⟨w.heap.size + 1 + 1 + 1, 1, none⟩) (x := .int .i64 0) (by go_simp)
  have u0 := k1.reads (p := ⟨w.heap.size + 1 + 1 + 1 + 1, 0, none⟩) (x := .int .i64 0) (by go_simp)
  have u1 := k1.reads (p := ⟨w.heap.size + 1 + 1 + 1 + 1, 1, none⟩) (x := .int .i64 0) (by go_simp)
  have pf : ∀ i, w1.frozen? ⟨w.heap.size + 1, i, none⟩ = false := fun i => (k1.2 _).trans (by go_simp)
  have qf : ∀ i, w1.frozen? ⟨w.heap.size + 1 + 1, i, none⟩ = false := fun i => (k1.2 _).trans (by go_simp)
  have of_ : ∀ i, w1.frozen? ⟨w.heap.size + 1 + 1 + 1, i, none⟩ = false := fun i => (k1.2 _).trans (by go_simp)
  have uf : ∀ i, w1.frozen? ⟨w.heap.size + 1 + 1 + 1 + 1, i, none⟩ = false := fun i => (k1.2 _).trans (by go_simp)
  have M1 := hid (made_box (made_box (made_box (made_box (made_box k1)))))
  clear k1
  go_wp2_with fail
  refine (vunit_is _ _ _ _ iex iey EUN.out).mono ?_
  rintro e w2 ⟨rfl, k2⟩
  have v0 := k2.reads v0
  have v1 := k2.reads v1
  have z2 := k2.reads z2
  have z3 := k2.reads z3
  have p0 := k2.reads p0
  have p1 := k2.reads p1
  have q0 := k2.reads q0
  have q1 := k2.reads q1
  have o0 := k2.reads o0
  have o1 := k2.reads o1
  have u0 := k2.reads u0
  have u1 := k2.reads u1
  have pf : ∀ i, w2.frozen? ⟨w.heap.size + 1, i, none⟩ = false := fun i => (k2.2 _).trans (pf i)
  have qf : ∀ i, w2.frozen? ⟨w.heap.size + 1 + 1, i, none⟩ = false := fun i => (k2.2 _).trans (qf i)
  have of_ : ∀ i, w2.frozen? ⟨w.heap.size + 1 + 1 + 1, i, none⟩ = false := fun i => (k2.2 _).trans (of_ i)
  have uf : ∀ i, w2.frozen? ⟨w.heap.size + 1 + 1 + 1 + 1, i, none⟩ = false := fun i => (k2.2 _).trans (uf i)
  have M2 : Hid (Made w.heap.size w w2) := M1.out.then_ (k2.low M1.out.1.size)
  have lu : w.heap.size + 1 + 1 + 1 + 1 < w2.heap.size := World.block_lt_of_cell? _ _ u0
  have lo : w.heap.size + 1 + 1 + 1 < w2.heap.size := by omega
  have lq : w.heap.size + 1 + 1 < w2.heap.size := by omega
  have lp : w.heap.size + 1 < w2.heap.size := by omega
  have lv : w.heap.size < w2.heap.size := by omega
  clear k2
  go_wp2_with fail
  refine (HC1.out _).mono ?_
  rintro e w3 ⟨rfl, k3⟩
  have t0 := k3.reads (p := ⟨w2.heap.size, 0, none⟩) (x := .int .i64 tx) (by go_simp)
  have t1 := k3.reads (p := ⟨w2.heap.size, 1, none⟩) (x := .int .i64 ty) (by go_simp)
  have v0 := k3.reads (cell_more v0)
  have v1 := k3.reads (cell_more v1)
  have z2 := k3.reads (cell_more z2)
  have z3 := k3.reads (cell_more z3)
  have p0 := k3.reads (cell_more p0)
  have p1 := k3.reads (cell_more p1)
  have q0 := k3.reads (cell_more q0)
  have q1 := k3.reads (cell_more q1)
  have o0 := k3.reads (cell_more o0)
  have o1 := k3.reads (cell_more o1)
  have u0 := k3.reads (cell_more u0)
  have u1 := k3.reads (cell_more u1)
  have pf : ∀ i, w3.frozen? ⟨w.heap.size + 1, i, none⟩ = false := fun i => (k3.2 _).trans ((frozen?_alloc_cells _ _ _ _).trans (pf i))
  have qf : ∀ i, w3.frozen? ⟨w.heap.size + 1 + 1, i, none⟩ = false := fun i => (k3.2 _).trans ((frozen?_alloc_cells _ _ _ _).trans (qf i))
  have of_ : ∀ i, w3.frozen? ⟨w.heap.size + 1 + 1 + 1, i, none⟩ = false := fun i => (k3.2 _).trans ((frozen?_alloc_cells _ _ _ _).trans (of_ i))
  have uf : ∀ i, w3.frozen? ⟨w.heap.size + 1 + 1 + 1 + 1, i, none⟩ = false := fun i => (k3.2 _).trans ((frozen?_alloc_cells _ _ _ _).trans (uf i))
  have M3 : Hid (Made w.heap.size w w3) := M2.out.then_ ((made_box k3).low M2.out.1.size)
  have lt3 : w2.heap.size < w3.heap.size := World.block_lt_of_cell? _ _ t0
  clear k3 HC1
  have lu : w.heap.size + 1 + 1 + 1 + 1 < w3.heap.size := by omega
  have lo : w.heap.size + 1 + 1 + 1 < w3.heap.size := by omega
  have lq : w.heap.size + 1 + 1 < w3.heap.size := by omega
  have lp : w.heap.size + 1 < w3.heap.size := by omega
  go_wp2_with fail
  refine bodyPost_ret (v := .tuple #[vecV 0 0, vecV 0 0, .bool false]) (by simp [results, Try.results75, go_sem, o0, o1, u0, u1]) rfl ⟨rfl, ?_⟩
  exact (((((((M3.out.put (by simp; try omega) _).put (by simp; try omega) _).put (by simp; try omega) _).put (by simp; try omega) _).put (by simp; try omega) _).put (by simp; try omega) _).put (by simp; try omega) _).put (by simp; try omega) _

set_option maxRecDepth 100000 in
set_option maxHeartbeats 2000000 in
theorem tclip_yes (vx vy wx wy nx ny px py qx qy tx ty : Int) (w : World) (i0 : I64 px) (i1 : I64 py) (i2 : I64 qx) (i3 : I64 qy) (i4 : I64 vx) (i5 : I64 vy) (i8 : I64 wx) (i9 : I64 wy) (et : unitP (subV (wx, wy) (vx, vy)) = (tx, ty)) (ax ay bx b_y : Int) (ec : cutF (px, py) (qx, qy) (vx, vy) (tx, ty) = some ((ax, ay), (bx, b_y))) (o : Option ((Int × Int) × (Int × Int))) (s : Bool) (a b c d : Int) (eo : cutF (ax, ay) (bx, b_y) (wx, wy) (negV (tx, ty)) = o) (es : o.isSome = s) (ed : o.getD ((0, 0), (0, 0)) = ((a, b), (c, d))) :
    Calls Try.prog 75 #[sdV vx vy wx wy nx ny, vecV px py, vecV qx qy] w fun e w' => e = .returned (.tuple #[vecV a b, vecV c d, .bool s]) ∧ Made w.heap.size w w' := by
  obtain ⟨ex, eex⟩ : ∃ z, subF wx vx = z := ⟨_, rfl⟩
  obtain ⟨ey, eey⟩ : ∃ z, subF wy vy = z := ⟨_, rfl⟩
  have iex : I64 ex := by rw [← eex]; exact i64_sub _ _
  have iey : I64 ey := by rw [← eey]; exact i64_sub _ _
  have eun := unitV_uF ex ey
  obtain ⟨ok, eok⟩ : ∃ k, decide (lenF ex ey ≠ 0) = k := ⟨_, rfl⟩
  have et' : uF ex ey = (tx, ty) := by rw [← et]; unfold unitP subV; simp only []; rw [eex, eey]
  obtain ⟨itx, ity⟩ := i64_u ex ey
  rw [et'] at eun itx ity
  rw [eok] at eun
  have EUN : Hid (unitV ex ey = .tuple #[vecV tx ty, .bool ok]) := eun
  have EEX := hid eex; have EEY := hid eey
  have HC1 := hid (fun w => tcut_o px py qx qy tx ty vx vy w i0 i1 i2 i3 itx ity i4 i5 _ _ ax ay bx b_y ec rfl rfl)
  obtain ⟨sx, esx⟩ : ∃ z, negF tx = z := ⟨_, rfl⟩
  obtain ⟨sy, esy⟩ : ∃ z, negF ty = z := ⟨_, rfl⟩
  have isx : I64 sx := by rw [← esx]; exact i64_neg itx
  have isy : I64 sy := by rw [← esy]; exact i64_neg ity
  have en : negV (tx, ty) = (sx, sy) := by unfold negV; simp only []; rw [esx, esy]
  rw [en] at eo
  obtain ⟨j0, j1, j2, j3⟩ := cut_i64 (p := (px, py)) (q := (qx, qy)) i0 i1 i2 i3 ec rfl
  have HC2 := hid (fun w => tcut_o ax ay bx b_y sx sy wx wy w j0 j1 j2 j3 isx isy i8 i9 o s a b c d eo es ed)
  have ESX := hid esx; have ESY := hid esy
  clear esx esy en eo es ed
  clear eex eey eun eok et et' ec
  go_enter Try.func75, Try.ntmps75
  go_wp2_with fail
  refine (vsub_is _ _ _ _ _ _ _ i8 i9 i4 i5 EEX.out EEY.out).mono ?_
  rintro e w1 ⟨rfl, k1⟩
  have v0 := k1.reads (p := ⟨w.heap.size, 0, none⟩) (x := .int .i64 vx) (by go_simp)
  have v1 := k1.reads (p := ⟨w.heap.size, 1, none⟩) (x := .int .i64 vy) (by go_simp)
  have z2 := k1.reads (p := ⟨w.heap.size, 2, none⟩) (x := .int .i64 wx) (by go_simp)
  have z3 := k1.reads (p := ⟨w.heap.size, 3, none⟩) (x := .int .i64 wy) (by go_simp)
  have p0 := k1.reads (p := ⟨w.heap.size + 1, 0, none⟩) (x := .int .i64 px) (by go_simp)
  have p1 := k1.reads (p := ⟨w.heap.size + 1, 1, none⟩) (x := .int .i64 py) (by go_simp)
  have q0 := k1.reads (p := ⟨w.heap.size + 1 + 1, 0, none⟩) (x := .int .i64 qx) (by go_simp)
  have q1 := k1.reads (p := ⟨w.heap.size + 1 + 1, 1, none⟩) (x := .int .i64 qy) (by go_simp)
  have o0 := k1.reads (p := ⟨w.heap.size + 1 + 1 + 1, 0, none⟩) (x := .int .i64 0) (by go_simp)
  have o1 := k1.reads (p := ⟨w.heap.size + 1 + 1 + 1, 1, none⟩) (x := .int .i64 0) (by go_simp)
  have u0 := k1.reads (p := ⟨w.heap.size + 1 + 1 + 1 + 1, 0, none⟩) (x := .int .i64 0) (by go_simp)
  have u1 := k1.reads (p := ⟨w.heap.size + 1 + 1 + 1 + 1, 1, none⟩) (x := .int .i64 0) (by go_simp)
  have pf : ∀ i, w1.frozen? ⟨w.heap.size + 1, i, none⟩ = false := fun i => (k1.2 _).trans (by go_simp)
  have qf : ∀ i, w1.frozen? ⟨w.heap.size + 1 + 1, i, none⟩ = false := fun i => (k1.2 _).trans (by go_simp)
  have of_ : ∀ i, w1.frozen? ⟨w.heap.size + 1 + 1 + 1, i, none⟩ = false := fun i => (k1.2 _).trans (by go_simp)
  have uf : ∀ i, w1.frozen? ⟨w.heap.size + 1 + 1 + 1 + 1, i, none⟩ = false := fun i => (k1.2 _).trans (by go_simp)
  have M1 := hid (made_box (made_box (made_box (made_box (made_box k1)))))
  clear k1
  go_wp2_with fail
  refine (vunit_is _ _ _ _ iex iey EUN.out).mono ?_
  rintro e w2 ⟨rfl, k2⟩
  have v0 := k2.reads v0
  have v1 := k2.reads v1
  have z2 := k2.reads z2
  have z3 := k2.reads z3
  have p0 := k2.reads p0
  have p1 := k2.reads p1
  have q0 := k2.reads q0
  have q1 := k2.reads q1
  have o0 := k2.reads o0
  have o1 := k2.reads o1
  have u0 := k2.reads u0
  have u1 := k2.reads u1
  have pf : ∀ i, w2.frozen? ⟨w.heap.size + 1, i, none⟩ = false := fun i => (k2.2 _).trans (pf i)
  have qf : ∀ i, w2.frozen? ⟨w.heap.size + 1 + 1, i, none⟩ = false := fun i => (k2.2 _).trans (qf i)
  have of_ : ∀ i, w2.frozen? ⟨w.heap.size + 1 + 1 + 1, i, none⟩ = false := fun i => (k2.2 _).trans (of_ i)
  have uf : ∀ i, w2.frozen? ⟨w.heap.size + 1 + 1 + 1 + 1, i, none⟩ = false := fun i => (k2.2 _).trans (uf i)
  have M2 : Hid (Made w.heap.size w w2) := M1.out.then_ (k2.low M1.out.1.size)
  have lu : w.heap.size + 1 + 1 + 1 + 1 < w2.heap.size := World.block_lt_of_cell? _ _ u0
  have lo : w.heap.size + 1 + 1 + 1 < w2.heap.size := by omega
  have lq : w.heap.size + 1 + 1 < w2.heap.size := by omega
  have lp : w.heap.size + 1 < w2.heap.size := by omega
  have lv : w.heap.size < w2.heap.size := by omega
  clear k2
  go_wp2_with fail
  refine (HC1.out _).mono ?_
  rintro e w3 ⟨rfl, k3⟩
  have t0 := k3.reads (p := ⟨w2.heap.size, 0, none⟩) (x := .int .i64 tx) (by go_simp)
  have t1 := k3.reads (p := ⟨w2.heap.size, 1, none⟩) (x := .int .i64 ty) (by go_simp)
  have v0 := k3.reads (cell_more v0)
  have v1 := k3.reads (cell_more v1)
  have z2 := k3.reads (cell_more z2)
  have z3 := k3.reads (cell_more z3)
  have p0 := k3.reads (cell_more p0)
  have p1 := k3.reads (cell_more p1)
  have q0 := k3.reads (cell_more q0)
  have q1 := k3.reads (cell_more q1)
  have o0 := k3.reads (cell_more o0)
  have o1 := k3.reads (cell_more o1)
  have u0 := k3.reads (cell_more u0)
  have u1 := k3.reads (cell_more u1)
  have pf : ∀ i, w3.frozen? ⟨w.heap.size + 1, i, none⟩ = false := fun i => (k3.2 _).trans ((frozen?_alloc_cells _ _ _ _).trans (pf i))
  have qf : ∀ i, w3.frozen? ⟨w.heap.size + 1 + 1, i, none⟩ = false := fun i => (k3.2 _).trans ((frozen?_alloc_cells _ _ _ _).trans (qf i))
  have of_ : ∀ i, w3.frozen? ⟨w.heap.size + 1 + 1 + 1, i, none⟩ = false := fun i => (k3.2 _).trans ((frozen?_alloc_cells _ _ _ _).trans (of_ i))
  have uf : ∀ i, w3.frozen? ⟨w.heap.size + 1 + 1 + 1 + 1, i, none⟩ = false := fun i => (k3.2 _).trans ((frozen?_alloc_cells _ _ _ _).trans (uf i))
  have M3 : Hid (Made w.heap.size w w3) := M2.out.then_ ((made_box k3).low M2.out.1.size)
  have lt3 : w2.heap.size < w3.heap.size := World.block_lt_of_cell? _ _ t0
  clear k3 HC1
  go_upto_region 5 with fail
  obtain ⟨W4, eW⟩ : ∃ W, W = (((w3.setCell ⟨w.heap.size + 1, 0, none⟩ (.int .i64 ax)).setCell ⟨w.heap.size + 1, 1, none⟩ (.int .i64 ay)).setCell ⟨w.heap.size + 1 + 1, 0, none⟩ (.int .i64 bx)).setCell ⟨w.heap.size + 1 + 1, 1, none⟩ (.int .i64 b_y) := ⟨_, rfl⟩
  have p0 : W4.cell? ⟨w.heap.size + 1, 0, none⟩ = some (.int .i64 ax) := by rw [eW]; go_simp
  have p1 : W4.cell? ⟨w.heap.size + 1, 1, none⟩ = some (.int .i64 ay) := by rw [eW]; go_simp
  have q0 : W4.cell? ⟨w.heap.size + 1 + 1, 0, none⟩ = some (.int .i64 bx) := by rw [eW]; go_simp
  have q1 : W4.cell? ⟨w.heap.size + 1 + 1, 1, none⟩ = some (.int .i64 b_y) := by rw [eW]; go_simp
  have z2 : W4.cell? ⟨w.heap.size, 2, none⟩ = some (.int .i64 wx) := by rw [eW]; exact cell_else (by simp; try omega) (cell_else (by simp; try omega) (cell_else (by simp; try omega) (cell_else (by simp; try omega) z2)))
  have z3 : W4.cell? ⟨w.heap.size, 3, none⟩ = some (.int .i64 wy) := by rw [eW]; exact cell_else (by simp; try omega) (cell_else (by simp; try omega) (cell_else (by simp; try omega) (cell_else (by simp; try omega) z3)))
  have o0 : W4.cell? ⟨w.heap.size + 1 + 1 + 1, 0, none⟩ = some (.int .i64 0) := by rw [eW]; exact cell_else (by simp; try omega) (cell_else (by simp; try omega) (cell_else (by simp; try omega) (cell_else (by simp; try omega) o0)))
  have o1 : W4.cell? ⟨w.heap.size + 1 + 1 + 1, 1, none⟩ = some (.int .i64 0) := by rw [eW]; exact cell_else (by simp; try omega) (cell_else (by simp; try omega) (cell_else (by simp; try omega) (cell_else (by simp; try omega) o1)))
  have u0 : W4.cell? ⟨w.heap.size + 1 + 1 + 1 + 1, 0, none⟩ = some (.int .i64 0) := by rw [eW]; exact cell_else (by simp; try omega) (cell_else (by simp; try omega) (cell_else (by simp; try omega) (cell_else (by simp; try omega) u0)))
  have u1 : W4.cell? ⟨w.heap.size + 1 + 1 + 1 + 1, 1, none⟩ = some (.int .i64 0) := by rw [eW]; exact cell_else (by simp; try omega) (cell_else (by simp; try omega) (cell_else (by simp; try omega) (cell_else (by simp; try omega) u1)))
  have t0 : W4.cell? ⟨w2.heap.size, 0, none⟩ = some (.int .i64 tx) := by rw [eW]; exact cell_else (by simp; try omega) (cell_else (by simp; try omega) (cell_else (by simp; try omega) (cell_else (by simp; try omega) t0)))
  have t1 : W4.cell? ⟨w2.heap.size, 1, none⟩ = some (.int .i64 ty) := by rw [eW]; exact cell_else (by simp; try omega) (cell_else (by simp; try omega) (cell_else (by simp; try omega) (cell_else (by simp; try omega) t1)))
  have of_ : ∀ i, W4.frozen? ⟨w.heap.size + 1 + 1 + 1, i, none⟩ = false := fun i => by rw [eW]; simpa using of_ i
  have uf : ∀ i, W4.frozen? ⟨w.heap.size + 1 + 1 + 1 + 1, i, none⟩ = false := fun i => by rw [eW]; simpa using uf i
  have M4 : Hid (Made w.heap.size w W4) := by unfold Hid; rw [eW]; exact (((M3.out.put (by simp; try omega) _).put (by simp; try omega) _).put (by simp; try omega) _).put (by simp; try omega) _
  rw [← eW]
  clear eW
  refine FS.reg_late0 10 45 [8, 9] (by kernel_rfl) (by kernel_rfl) ?hpv (fun p hp => .inl (by simp at hp; omega)) (by kernel_rfl) rfl ?_
  case hpv => intro p hp o ho; simp at hp; rcases hp with rfl | rfl <;> (cases ho; exact extract_pure rfl)
  apply Exists.intro
  refine ⟨?h7, ?h8⟩
  case h7 =>
    intro T hT fw hf
    have p0 := Class.reads hf p0
    have p1 := Class.reads hf p1
    have q0 := Class.reads hf q0
    have q1 := Class.reads hf q1
    have t0 := Class.reads hf t0
    have t1 := Class.reads hf t1
    have z2 := Class.reads hf z2
    have z3 := Class.reads hf z3
    simp only [List.take_succ_cons, List.take_zero]
    repeat (go_big_quiet_step ((first
      | (go_at_call 53; with_reducible exact hf.made (vneg_is _ _ _ _ _ itx ity ESX.out ESY.out))
      | (go_at_call 97; with_reducible exact hf.made (HC2.out _)))))
    exact wpQuiet_nil rfl
  intro w5 k5
  have o0 := k5.reads o0
  have o1 := k5.reads o1
  have u0 := k5.reads u0
  have u1 := k5.reads u1
  have of_ : ∀ i, w5.frozen? ⟨w.heap.size + 1 + 1 + 1, i, none⟩ = false := fun i => (k5.2 _).trans (of_ i)
  have uf : ∀ i, w5.frozen? ⟨w.heap.size + 1 + 1 + 1 + 1, i, none⟩ = false := fun i => (k5.2 _).trans (uf i)
  have M5 : Hid (Made w.heap.size w w5) := M4.out.then_ (k5.low M4.out.1.size)
  have lu : w.heap.size + 1 + 1 + 1 + 1 < w5.heap.size := World.block_lt_of_cell? _ _ u0
  have lo : w.heap.size + 1 + 1 + 1 < w5.heap.size := by omega
  clear k5 p0 p1 q0 q1 t0 t1 z2 z3
  simp only [List.drop_succ_cons, List.drop_zero]
  go_wp2_with fail
  refine NoPanic.normal ?_
  go_wp2_with fail
  refine bodyPost_ret (v := .tuple #[vecV a b, vecV c d, .bool s]) (by simp [results, Try.results75, go_sem, o0, o1, u0, u1]) rfl ⟨rfl, ?_⟩
  exact (((M5.out.put (by simp; try omega) _).put (by simp; try omega) _).put (by simp; try omega) _).put (by simp; try omega) _
end Go.Proofs.Ytmfkcdinfahjlaa.Fx
