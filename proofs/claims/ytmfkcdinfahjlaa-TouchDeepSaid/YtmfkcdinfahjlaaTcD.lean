/- Contracts of package touch: cornerCircle. -/
import Derived.Test.YtmfkcdinfahjlaaTcQ
namespace Go.Proofs.Ytmfkcdinfahjlaa.Fx
open Go.ChangeShapes Go.WideShapes Go.ChangeAt Go.RowKit
set_option linter.unusedVariables false
/-- one new point -/
def alQ (x y d k : Int) (i : Nat) (v : World) (g : Nat) : Prop := Has v g 47 #[.int .i64 x, .int .i64 y, .int .i64 d, .int .i64 k]
def valQ (i g e : Nat) : Value := .slice (some ⟨g, 0, none⟩) 1 1
theorem alQ_lasts (x y d k : Int) : Lasts (alQ x y d k) := fun i u v g h hg m => h.stays m hg

set_option maxRecDepth 100000 in
set_option maxHeartbeats 1500000 in
theorem tcorner_none (vx vy nx ny X Y A R key : Int) (w : World) (i0 : I64 vx) (i1 : I64 vy) (i2 : I64 R) (i3 : I64 X) (i4 : I64 Y) (hc : R ≤ lenV (subV (X, Y) (vx, vy))) :
    Calls Try.prog 52 #[vecV vx vy, vecV nx ny, bodyV 0 X Y 0 0 A 0 0 1 R (.slice none 0 0), .int .i64 key] w (TouchQ (cornerF (nx, ny) (vx, vy) (subV (X, Y) (vx, vy)) R key) w) := by
  obtain ⟨dx, ex⟩ : ∃ x, subF X vx = x := ⟨_, rfl⟩
  obtain ⟨dy, ey⟩ : ∃ x, subF Y vy = x := ⟨_, rfl⟩
  have eD : subV (X, Y) (vx, vy) = (dx, dy) := by unfold subV; simp only []; rw [ex, ey]
  have ix : I64 dx := by rw [← ex]; exact i64_sub _ _
  have iy : I64 dy := by rw [← ey]; exact i64_sub _ _
  obtain ⟨n, en⟩ : ∃ x, lenF dx dy = x := ⟨_, rfl⟩
  have eN : lenV (subV (X, Y) (vx, vy)) = n := by rw [eD]; exact en
  have in_ : I64 n := by rw [← en]; exact i64_sqrt _
  rw [eN] at hc
  have HW : Hid (cornerF (nx, ny) (vx, vy) (subV (X, Y) (vx, vy)) R key = none) := by unfold Hid cornerF; rw [eN, if_pos hc]
  rw [HW.out]
  clear HW
  have EX := hid ex; have EY := hid ey; have EN := hid en
  clear ex ey en eN eD
  go_enter Try.func52, Try.ntmps52
  go_wp2_with fail
  refine (vsub_is X Y vx vy dx dy _ i3 i4 i0 i1 EX.out EY.out).mono ?_
  rintro e w1 ⟨rfl, k1⟩
  have o0 := k1.reads (p := ⟨w.heap.size + 1 + 1 + 1, 0, none⟩) (x := .int .i64 0) (by go_simp)
  have o1 := k1.reads (p := ⟨w.heap.size + 1 + 1 + 1, 1, none⟩) (x := .int .i64 0) (by go_simp)
  have o2 := k1.reads (p := ⟨w.heap.size + 1 + 1 + 1, 2, none⟩) (x := .slice none 0 0) (by go_simp)
  have b9 := k1.reads (p := ⟨w.heap.size + 1 + 1, 9, none⟩) (x := .int .i64 R) (by go_simp)
  have of_ : ∀ i, w1.frozen? ⟨w.heap.size + 1 + 1 + 1, i, none⟩ = false := fun i => (k1.2 _).trans (by go_simp)
  have mf : ∀ i, w1.frozen? ⟨w.heap.size + 1, i, none⟩ = false := fun i => (k1.2 _).trans (by go_simp)
  have lo1 : w.heap.size + 1 + 1 + 1 < w1.heap.size := World.block_lt_of_cell? _ _ o0
  have M1 := hid (made_box (made_box (made_box (made_box k1))))
  clear k1
  go_wp2_with fail
  refine (vlen_is _ _ _ _ ix iy EN.out).mono ?_
  rintro e w3 ⟨rfl, k3⟩
  have o0 := k3.reads (cell_more o0)
  have o1 := k3.reads (cell_more o1)
  have o2 := k3.reads (cell_more o2)
  have b9 := k3.reads (cell_more b9)
  have of_ : ∀ i, w3.frozen? ⟨w.heap.size + 1 + 1 + 1, i, none⟩ = false := fun i => (k3.2 _).trans ((frozen?_alloc_cells _ _ _ _).trans (of_ i))
  have mf : ∀ i, w3.frozen? ⟨w.heap.size + 1, i, none⟩ = false := fun i => (k3.2 _).trans ((frozen?_alloc_cells _ _ _ _).trans (mf i))
  have d0 := k3.reads (p := ⟨w1.heap.size, 0, none⟩) (x := .int .i64 dx) (by go_simp)
  have d1 := k3.reads (p := ⟨w1.heap.size, 1, none⟩) (x := .int .i64 dy) (by go_simp)
  have ld := World.block_lt_of_cell? _ _ d0
  have lo3 : w.heap.size + 1 + 1 + 1 < w3.heap.size := World.block_lt_of_cell? _ _ o0
  have M3 : Hid (Made w.heap.size w w3) := M1.out.then_ ((made_box k3).low M1.out.1.size)
  clear k3
  go_wp2_with fail
  refine bodyPost_ret (v := .tuple #[tchV 0 0 none 0 0, .bool false]) (by simp [results, Try.results52, go_sem, o0, o1, o2]) rfl (touchq_none (by simp; omega) ?_)
  exact ((M3.out.put (by simp; try omega) _).put (by simp; try omega) _).put (by simp; try omega) _

set_option maxRecDepth 100000 in
set_option maxHeartbeats 1500000 in
theorem tcorner_unit (vx vy nx ny X Y A R key : Int) (w : World) (i0 : I64 vx) (i1 : I64 vy) (i2 : I64 R) (i3 : I64 X) (i4 : I64 Y) (hc : ¬ R ≤ lenV (subV (X, Y) (vx, vy))) (h0 : ¬ lenV (subV (X, Y) (vx, vy)) = 0) :
    Calls Try.prog 52 #[vecV vx vy, vecV nx ny, bodyV 0 X Y 0 0 A 0 0 1 R (.slice none 0 0), .int .i64 key] w (TouchQ (cornerF (nx, ny) (vx, vy) (subV (X, Y) (vx, vy)) R key) w) := by
  obtain ⟨dx, ex⟩ : ∃ x, subF X vx = x := ⟨_, rfl⟩
  obtain ⟨dy, ey⟩ : ∃ x, subF Y vy = x := ⟨_, rfl⟩
  have eD : subV (X, Y) (vx, vy) = (dx, dy) := by unfold subV; simp only []; rw [ex, ey]
  have ix : I64 dx := by rw [← ex]; exact i64_sub _ _
  have iy : I64 dy := by rw [← ey]; exact i64_sub _ _
  obtain ⟨n, en⟩ : ∃ x, lenF dx dy = x := ⟨_, rfl⟩
  have eN : lenV (subV (X, Y) (vx, vy)) = n := by rw [eD]; exact en
  have in_ : I64 n := by rw [← en]; exact i64_sqrt _
  rw [eN] at hc
  rw [eN] at h0
  obtain ⟨dep, ed⟩ : ∃ x, subF R n = x := ⟨_, rfl⟩
  have idp : I64 dep := by rw [← ed]; exact i64_sub _ _
  obtain ⟨u, eu⟩ : ∃ x, divF dx n = x := ⟨_, rfl⟩
  obtain ⟨v, ev⟩ : ∃ x, divF dy n = x := ⟨_, rfl⟩
  have eU : unitP (subV (X, Y) (vx, vy)) = (u, v) := by rw [eD]; unfold unitP uF; simp only []; rw [en, if_neg h0, eu, ev]
  have eUn : unitV dx dy = .tuple #[vecV u v, .bool true] := by unfold unitV; rw [en, if_neg h0, eu, ev]
  have HW : Hid (cornerF (nx, ny) (vx, vy) (subV (X, Y) (vx, vy)) R key = some (oneT (u, v) (vx, vy) dep key)) := by unfold Hid cornerF; rw [eN, if_neg hc, if_neg h0, eU, ed]
  clear eu ev eU
  rw [HW.out]
  have EUn := hid eUn
  have ED := hid ed
  clear HW ed eUn h0
  have EX := hid ex; have EY := hid ey; have EN := hid en
  clear ex ey en eN eD
  go_enter Try.func52, Try.ntmps52
  go_wp2_with fail
  refine (vsub_is X Y vx vy dx dy _ i3 i4 i0 i1 EX.out EY.out).mono ?_
  rintro e w1 ⟨rfl, k1⟩
  have o0 := k1.reads (p := ⟨w.heap.size + 1 + 1 + 1, 0, none⟩) (x := .int .i64 0) (by go_simp)
  have o1 := k1.reads (p := ⟨w.heap.size + 1 + 1 + 1, 1, none⟩) (x := .int .i64 0) (by go_simp)
  have o2 := k1.reads (p := ⟨w.heap.size + 1 + 1 + 1, 2, none⟩) (x := .slice none 0 0) (by go_simp)
  have c0 := k1.reads (p := ⟨w.heap.size, 0, none⟩) (x := .int .i64 vx) (by go_simp)
  have c1 := k1.reads (p := ⟨w.heap.size, 1, none⟩) (x := .int .i64 vy) (by go_simp)
  have m0 := k1.reads (p := ⟨w.heap.size + 1, 0, none⟩) (x := .int .i64 nx) (by go_simp)
  have m1 := k1.reads (p := ⟨w.heap.size + 1, 1, none⟩) (x := .int .i64 ny) (by go_simp)
  have b9 := k1.reads (p := ⟨w.heap.size + 1 + 1, 9, none⟩) (x := .int .i64 R) (by go_simp)
  have of_ : ∀ i, w1.frozen? ⟨w.heap.size + 1 + 1 + 1, i, none⟩ = false := fun i => (k1.2 _).trans (by go_simp)
  have mf : ∀ i, w1.frozen? ⟨w.heap.size + 1, i, none⟩ = false := fun i => (k1.2 _).trans (by go_simp)
  have lo1 : w.heap.size + 1 + 1 + 1 < w1.heap.size := World.block_lt_of_cell? _ _ o0
  have M1 := hid (made_box (made_box (made_box (made_box k1))))
  clear k1
  go_wp2_with fail
  refine (vlen_is _ _ _ _ ix iy EN.out).mono ?_
  rintro e w3 ⟨rfl, k3⟩
  have o0 := k3.reads (cell_more o0)
  have o1 := k3.reads (cell_more o1)
  have o2 := k3.reads (cell_more o2)
  have c0 := k3.reads (cell_more c0)
  have c1 := k3.reads (cell_more c1)
  have m0 := k3.reads (cell_more m0)
  have m1 := k3.reads (cell_more m1)
  have b9 := k3.reads (cell_more b9)
  have of_ : ∀ i, w3.frozen? ⟨w.heap.size + 1 + 1 + 1, i, none⟩ = false := fun i => (k3.2 _).trans ((frozen?_alloc_cells _ _ _ _).trans (of_ i))
  have mf : ∀ i, w3.frozen? ⟨w.heap.size + 1, i, none⟩ = false := fun i => (k3.2 _).trans ((frozen?_alloc_cells _ _ _ _).trans (mf i))
  have d0 := k3.reads (p := ⟨w1.heap.size, 0, none⟩) (x := .int .i64 dx) (by go_simp)
  have d1 := k3.reads (p := ⟨w1.heap.size, 1, none⟩) (x := .int .i64 dy) (by go_simp)
  have ld := World.block_lt_of_cell? _ _ d0
  have lo3 : w.heap.size + 1 + 1 + 1 < w3.heap.size := World.block_lt_of_cell? _ _ o0
  have M3 : Hid (Made w.heap.size w w3) := M1.out.then_ ((made_box k3).low M1.out.1.size)
  clear k3
  go_wp2_with fail
  refine (vunit_is dx dy _ _ ix iy EUn.out).mono ?_
  rintro e w4 ⟨rfl, k4⟩
  have o0 := k4.reads (o0)
  have o1 := k4.reads (o1)
  have o2 := k4.reads (o2)
  have c0 := k4.reads (c0)
  have c1 := k4.reads (c1)
  have m0 := k4.reads (m0)
  have m1 := k4.reads (m1)
  have b9 := k4.reads (b9)
  have of_ : ∀ i, w4.frozen? ⟨w.heap.size + 1 + 1 + 1, i, none⟩ = false := fun i => (k4.2 _).trans (of_ i)
  have mf : ∀ i, w4.frozen? ⟨w.heap.size + 1, i, none⟩ = false := fun i => (k4.2 _).trans (mf i)
  have lo4 : w.heap.size + 1 + 1 + 1 < w4.heap.size := World.block_lt_of_cell? _ _ o0
  have lm4 : w.heap.size + 1 < w4.heap.size := by omega
  have M4 : Hid (Made w.heap.size w w4) := M3.out.then_ (k4.low M3.out.1.size)
  clear k4 d0 d1 ld lo3 lo1
  go_upto_region 8 with fail
  obtain ⟨W, eW⟩ : ∃ W, W = ((w4.setCell ⟨w.heap.size + 1, 0, none⟩ (.int .i64 u)).setCell ⟨w.heap.size + 1, 1, none⟩ (.int .i64 v)).alloc (.cells #[.int .i64 u, .int .i64 v] 26) := ⟨_, rfl⟩
  have m0 : W.cell? ⟨w.heap.size + 1, 0, none⟩ = some (.int .i64 u) := by rw [eW]; go_simp
  have m1 : W.cell? ⟨w.heap.size + 1, 1, none⟩ = some (.int .i64 v) := by rw [eW]; go_simp
  have o0 : W.cell? ⟨w.heap.size + 1 + 1 + 1, 0, none⟩ = some (.int .i64 0) := by rw [eW]; exact cell_more (cell_else (by simp; try omega) (cell_else (by simp; try omega) o0))
  have o1 : W.cell? ⟨w.heap.size + 1 + 1 + 1, 1, none⟩ = some (.int .i64 0) := by rw [eW]; exact cell_more (cell_else (by simp; try omega) (cell_else (by simp; try omega) o1))
  have o2 : W.cell? ⟨w.heap.size + 1 + 1 + 1, 2, none⟩ = some (.slice none 0 0) := by rw [eW]; exact cell_more (cell_else (by simp; try omega) (cell_else (by simp; try omega) o2))
  have c0 : W.cell? ⟨w.heap.size, 0, none⟩ = some (.int .i64 vx) := by rw [eW]; exact cell_more (cell_else (by simp; try omega) (cell_else (by simp; try omega) c0))
  have c1 : W.cell? ⟨w.heap.size, 1, none⟩ = some (.int .i64 vy) := by rw [eW]; exact cell_more (cell_else (by simp; try omega) (cell_else (by simp; try omega) c1))
  have b9 : W.cell? ⟨w.heap.size + 1 + 1, 9, none⟩ = some (.int .i64 R) := by rw [eW]; exact cell_more (cell_else (by simp; try omega) (cell_else (by simp; try omega) b9))
  have of_ : ∀ i, W.frozen? ⟨w.heap.size + 1 + 1 + 1, i, none⟩ = false := fun i => by rw [eW]; exact (frozen?_alloc_cells _ _ _ _).trans (by simpa using of_ i)
  have MW : Hid (Made w.heap.size w W) := by unfold Hid; rw [eW]; have Mb := (M4.out.put (p := ⟨w.heap.size + 1, 0, none⟩) (by simp; try omega) (.int .i64 u)).put (p := ⟨w.heap.size + 1, 1, none⟩) (by simp; try omega) (.int .i64 v); exact Mb.cells Mb.1.size _ _
  rw [← eW]
  clear eW mf
  have loW : w.heap.size + 1 + 1 + 1 < W.heap.size := World.block_lt_of_cell? _ _ o0
  refine region_makes 10 44 [0, 1, 2, 3, 4, 5, 6, 7, 8] [9] (alQ vx vy dep key) valQ (by kernel_rfl) (alQ_lasts _ _ _ _) (by kernel_rfl) rfl (by kernel_rfl) rfl ?_
  apply Exists.intro
  refine ⟨?h1, ?h2⟩
  case h1 =>
    intro T hT f hf
    have m0' := Class.reads hf m0
    have m1' := Class.reads hf m1
    have c0' := Class.reads hf c0
    have c1' := Class.reads hf c1
    have b9' := Class.reads hf b9
    change wpQuiet _ _ _ _ [_, _, _, _, _, _, _, _, _] _
    repeat (go_big_quiet_step ((go_at_call 45; with_reducible exact hf.same (sub_is _ _ _ _ i2 in_ ED.out))))
    exact wpQuiet_nil rfl
  refine ⟨_, 42, rfl, ⟨rfl, rfl, fun G u hu => ?mk1⟩, fun g c => ?rest⟩
  case mk1 =>
    rw [show (execOp _ _).run Try.prog u = .ok (.value (.slice (some ⟨u.heap.size, 0, none⟩) 1 1)) (u.alloc (.cells #[.int .i64 vx, .int .i64 vy, .int .i64 dep, .int .i64 key] 47)) by kernel_rfl]
    exact ⟨u.heap.size, 0, rfl, hu.next (alQ_lasts _ _ _ _) ((Made.rfl_ _ _).cells (Nat.le_refl _) _ _) (Nat.le_refl _) (by simp) (has_new _ _ _)⟩
  intro w6 hu
  have q : upd (fun _ => none) 9 g 9 = some g := by unfold upd; simp
  obtain ⟨lg, _, hrow⟩ := hu.2.1 9 g q
  have hG : Has w6 g 47 #[.int .i64 vx, .int .i64 vy, .int .i64 dep, .int .i64 key] := hrow
  have k6 := hu.1
  have o0 := k6.reads (o0)
  have o1 := k6.reads (o1)
  have o2 := k6.reads (o2)
  have of_ : ∀ i, w6.frozen? ⟨w.heap.size + 1 + 1 + 1, i, none⟩ = false := fun i => (k6.2 _).trans (of_ i)
  have M6 : Hid (Made w.heap.size w w6) := MW.out.then_ (k6.low MW.out.1.size)
  have lo6 : w.heap.size + 1 + 1 + 1 < w6.heap.size := World.block_lt_of_cell? _ _ o0
  have lgo : w.heap.size + 1 + 1 + 1 < g := by omega
  have gne : g ≠ w.heap.size + 1 + 1 + 1 := by omega
  have g0 := hG.at_ 0
  have g1 := hG.at_ 1
  have g2 := hG.at_ 2
  have g3 := hG.at_ 3
  simp at g0 g1 g2 g3
  rw [show valQ 9 g c = .slice (some ⟨g, 0, none⟩) 1 1 from rfl]
  simp only [List.drop_succ_cons, List.drop_zero]
  clear k6 hu q lg hrow hG m0 m1 c0 c1 b9
  go_wp2_with fail
  refine bodyPost_ret (v := .tuple #[tchV u v (some ⟨g, 0, none⟩) 1 1, .bool true]) (by simp [results, Try.results52, go_sem, o0, o1, o2]) rfl (touchq_one (by omega) ?_ ?_ ?_ ?_ ?_)
  · exact cell_else gne (cell_else gne (cell_else gne g0))
  · exact cell_else gne (cell_else gne (cell_else gne g1))
  · exact cell_else gne (cell_else gne (cell_else gne g2))
  · exact cell_else gne (cell_else gne (cell_else gne g3))
  · exact ((M6.out.put (by simp; try omega) _).put (by simp; try omega) _).put (by simp; try omega) _

set_option maxRecDepth 100000 in
set_option maxHeartbeats 1500000 in
theorem tcorner_zero (vx vy nx ny X Y A R key : Int) (w : World) (i0 : I64 vx) (i1 : I64 vy) (i2 : I64 R) (i3 : I64 X) (i4 : I64 Y) (hc : ¬ R ≤ lenV (subV (X, Y) (vx, vy))) (h0 : lenV (subV (X, Y) (vx, vy)) = 0) :
    Calls Try.prog 52 #[vecV vx vy, vecV nx ny, bodyV 0 X Y 0 0 A 0 0 1 R (.slice none 0 0), .int .i64 key] w (TouchQ (cornerF (nx, ny) (vx, vy) (subV (X, Y) (vx, vy)) R key) w) := by
  obtain ⟨dx, ex⟩ : ∃ x, subF X vx = x := ⟨_, rfl⟩
  obtain ⟨dy, ey⟩ : ∃ x, subF Y vy = x := ⟨_, rfl⟩
  have eD : subV (X, Y) (vx, vy) = (dx, dy) := by unfold subV; simp only []; rw [ex, ey]
  have ix : I64 dx := by rw [← ex]; exact i64_sub _ _
  have iy : I64 dy := by rw [← ey]; exact i64_sub _ _
  obtain ⟨n, en⟩ : ∃ x, lenF dx dy = x := ⟨_, rfl⟩
  have eN : lenV (subV (X, Y) (vx, vy)) = n := by rw [eD]; exact en
  have in_ : I64 n := by rw [← en]; exact i64_sqrt _
  rw [eN] at hc
  rw [eN] at h0
  obtain ⟨dep, ed⟩ : ∃ x, subF R n = x := ⟨_, rfl⟩
  have idp : I64 dep := by rw [← ed]; exact i64_sub _ _
  have eUn : unitV dx dy = .tuple #[vecV 0 0, .bool false] := by unfold unitV; rw [en, if_pos h0]
  have HW : Hid (cornerF (nx, ny) (vx, vy) (subV (X, Y) (vx, vy)) R key = some (oneT (nx, ny) (vx, vy) dep key)) := by unfold Hid cornerF; rw [eN, if_neg hc, if_pos h0, ed]
  rw [HW.out]
  have EUn := hid eUn
  have ED := hid ed
  clear HW ed eUn h0
  have EX := hid ex; have EY := hid ey; have EN := hid en
  clear ex ey en eN eD
  go_enter Try.func52, Try.ntmps52
  go_wp2_with fail
  refine (vsub_is X Y vx vy dx dy _ i3 i4 i0 i1 EX.out EY.out).mono ?_
  rintro e w1 ⟨rfl, k1⟩
  have o0 := k1.reads (p := ⟨w.heap.size + 1 + 1 + 1, 0, none⟩) (x := .int .i64 0) (by go_simp)
  have o1 := k1.reads (p := ⟨w.heap.size + 1 + 1 + 1, 1, none⟩) (x := .int .i64 0) (by go_simp)
  have o2 := k1.reads (p := ⟨w.heap.size + 1 + 1 + 1, 2, none⟩) (x := .slice none 0 0) (by go_simp)
  have c0 := k1.reads (p := ⟨w.heap.size, 0, none⟩) (x := .int .i64 vx) (by go_simp)
  have c1 := k1.reads (p := ⟨w.heap.size, 1, none⟩) (x := .int .i64 vy) (by go_simp)
  have m0 := k1.reads (p := ⟨w.heap.size + 1, 0, none⟩) (x := .int .i64 nx) (by go_simp)
  have m1 := k1.reads (p := ⟨w.heap.size + 1, 1, none⟩) (x := .int .i64 ny) (by go_simp)
  have b9 := k1.reads (p := ⟨w.heap.size + 1 + 1, 9, none⟩) (x := .int .i64 R) (by go_simp)
  have of_ : ∀ i, w1.frozen? ⟨w.heap.size + 1 + 1 + 1, i, none⟩ = false := fun i => (k1.2 _).trans (by go_simp)
  have mf : ∀ i, w1.frozen? ⟨w.heap.size + 1, i, none⟩ = false := fun i => (k1.2 _).trans (by go_simp)
  have lo1 : w.heap.size + 1 + 1 + 1 < w1.heap.size := World.block_lt_of_cell? _ _ o0
  have M1 := hid (made_box (made_box (made_box (made_box k1))))
  clear k1
  go_wp2_with fail
  refine (vlen_is _ _ _ _ ix iy EN.out).mono ?_
  rintro e w3 ⟨rfl, k3⟩
  have o0 := k3.reads (cell_more o0)
  have o1 := k3.reads (cell_more o1)
  have o2 := k3.reads (cell_more o2)
  have c0 := k3.reads (cell_more c0)
  have c1 := k3.reads (cell_more c1)
  have m0 := k3.reads (cell_more m0)
  have m1 := k3.reads (cell_more m1)
  have b9 := k3.reads (cell_more b9)
  have of_ : ∀ i, w3.frozen? ⟨w.heap.size + 1 + 1 + 1, i, none⟩ = false := fun i => (k3.2 _).trans ((frozen?_alloc_cells _ _ _ _).trans (of_ i))
  have mf : ∀ i, w3.frozen? ⟨w.heap.size + 1, i, none⟩ = false := fun i => (k3.2 _).trans ((frozen?_alloc_cells _ _ _ _).trans (mf i))
  have d0 := k3.reads (p := ⟨w1.heap.size, 0, none⟩) (x := .int .i64 dx) (by go_simp)
  have d1 := k3.reads (p := ⟨w1.heap.size, 1, none⟩) (x := .int .i64 dy) (by go_simp)
  have ld := World.block_lt_of_cell? _ _ d0
  have lo3 : w.heap.size + 1 + 1 + 1 < w3.heap.size := World.block_lt_of_cell? _ _ o0
  have M3 : Hid (Made w.heap.size w w3) := M1.out.then_ ((made_box k3).low M1.out.1.size)
  clear k3
  go_wp2_with fail
  refine (vunit_is dx dy _ _ ix iy EUn.out).mono ?_
  rintro e w4 ⟨rfl, k4⟩
  have o0 := k4.reads (o0)
  have o1 := k4.reads (o1)
  have o2 := k4.reads (o2)
  have c0 := k4.reads (c0)
  have c1 := k4.reads (c1)
  have m0 := k4.reads (m0)
  have m1 := k4.reads (m1)
  have b9 := k4.reads (b9)
  have of_ : ∀ i, w4.frozen? ⟨w.heap.size + 1 + 1 + 1, i, none⟩ = false := fun i => (k4.2 _).trans (of_ i)
  have mf : ∀ i, w4.frozen? ⟨w.heap.size + 1, i, none⟩ = false := fun i => (k4.2 _).trans (mf i)
  have lo4 : w.heap.size + 1 + 1 + 1 < w4.heap.size := World.block_lt_of_cell? _ _ o0
  have lm4 : w.heap.size + 1 < w4.heap.size := by omega
  have M4 : Hid (Made w.heap.size w w4) := M3.out.then_ (k4.low M3.out.1.size)
  clear k4 d0 d1 ld lo3 lo1
  go_upto_region 8 with fail
  obtain ⟨W, eW⟩ : ∃ W, W = w4.alloc (.cells #[.int .i64 0, .int .i64 0] 26) := ⟨_, rfl⟩
  have o0 : W.cell? ⟨w.heap.size + 1 + 1 + 1, 0, none⟩ = some (.int .i64 0) := by rw [eW]; exact cell_more o0
  have o1 : W.cell? ⟨w.heap.size + 1 + 1 + 1, 1, none⟩ = some (.int .i64 0) := by rw [eW]; exact cell_more o1
  have o2 : W.cell? ⟨w.heap.size + 1 + 1 + 1, 2, none⟩ = some (.slice none 0 0) := by rw [eW]; exact cell_more o2
  have c0 : W.cell? ⟨w.heap.size, 0, none⟩ = some (.int .i64 vx) := by rw [eW]; exact cell_more c0
  have c1 : W.cell? ⟨w.heap.size, 1, none⟩ = some (.int .i64 vy) := by rw [eW]; exact cell_more c1
  have m0 : W.cell? ⟨w.heap.size + 1, 0, none⟩ = some (.int .i64 nx) := by rw [eW]; exact cell_more m0
  have m1 : W.cell? ⟨w.heap.size + 1, 1, none⟩ = some (.int .i64 ny) := by rw [eW]; exact cell_more m1
  have b9 : W.cell? ⟨w.heap.size + 1 + 1, 9, none⟩ = some (.int .i64 R) := by rw [eW]; exact cell_more b9
  have of_ : ∀ i, W.frozen? ⟨w.heap.size + 1 + 1 + 1, i, none⟩ = false := fun i => by rw [eW]; exact (frozen?_alloc_cells _ _ _ _).trans (of_ i)
  have MW : Hid (Made w.heap.size w W) := by unfold Hid; rw [eW]; exact M4.out.cells M4.out.1.size _ _
  rw [← eW]
  clear eW mf
  have loW : w.heap.size + 1 + 1 + 1 < W.heap.size := World.block_lt_of_cell? _ _ o0
  refine region_makes 10 44 [0, 1, 2, 3, 4, 5, 6, 7, 8] [9] (alQ vx vy dep key) valQ (by kernel_rfl) (alQ_lasts _ _ _ _) (by kernel_rfl) rfl (by kernel_rfl) rfl ?_
  apply Exists.intro
  refine ⟨?h1, ?h2⟩
  case h1 =>
    intro T hT f hf
    have m0' := Class.reads hf m0
    have m1' := Class.reads hf m1
    have c0' := Class.reads hf c0
    have c1' := Class.reads hf c1
    have b9' := Class.reads hf b9
    change wpQuiet _ _ _ _ [_, _, _, _, _, _, _, _, _] _
    repeat (go_big_quiet_step ((go_at_call 45; with_reducible exact hf.same (sub_is _ _ _ _ i2 in_ ED.out))))
    exact wpQuiet_nil rfl
  refine ⟨_, 42, rfl, ⟨rfl, rfl, fun G u hu => ?mk1⟩, fun g c => ?rest⟩
  case mk1 =>
    rw [show (execOp _ _).run Try.prog u = .ok (.value (.slice (some ⟨u.heap.size, 0, none⟩) 1 1)) (u.alloc (.cells #[.int .i64 vx, .int .i64 vy, .int .i64 dep, .int .i64 key] 47)) by kernel_rfl]
    exact ⟨u.heap.size, 0, rfl, hu.next (alQ_lasts _ _ _ _) ((Made.rfl_ _ _).cells (Nat.le_refl _) _ _) (Nat.le_refl _) (by simp) (has_new _ _ _)⟩
  intro w6 hu
  have q : upd (fun _ => none) 9 g 9 = some g := by unfold upd; simp
  obtain ⟨lg, _, hrow⟩ := hu.2.1 9 g q
  have hG : Has w6 g 47 #[.int .i64 vx, .int .i64 vy, .int .i64 dep, .int .i64 key] := hrow
  have k6 := hu.1
  have o0 := k6.reads (o0)
  have o1 := k6.reads (o1)
  have o2 := k6.reads (o2)
  have of_ : ∀ i, w6.frozen? ⟨w.heap.size + 1 + 1 + 1, i, none⟩ = false := fun i => (k6.2 _).trans (of_ i)
  have M6 : Hid (Made w.heap.size w w6) := MW.out.then_ (k6.low MW.out.1.size)
  have lo6 : w.heap.size + 1 + 1 + 1 < w6.heap.size := World.block_lt_of_cell? _ _ o0
  have lgo : w.heap.size + 1 + 1 + 1 < g := by omega
  have gne : g ≠ w.heap.size + 1 + 1 + 1 := by omega
  have g0 := hG.at_ 0
  have g1 := hG.at_ 1
  have g2 := hG.at_ 2
  have g3 := hG.at_ 3
  simp at g0 g1 g2 g3
  rw [show valQ 9 g c = .slice (some ⟨g, 0, none⟩) 1 1 from rfl]
  simp only [List.drop_succ_cons, List.drop_zero]
  clear k6 hu q lg hrow hG m0 m1 c0 c1 b9
  go_wp2_with fail
  refine bodyPost_ret (v := .tuple #[tchV nx ny (some ⟨g, 0, none⟩) 1 1, .bool true]) (by simp [results, Try.results52, go_sem, o0, o1, o2]) rfl (touchq_one (by omega) ?_ ?_ ?_ ?_ ?_)
  · exact cell_else gne (cell_else gne (cell_else gne g0))
  · exact cell_else gne (cell_else gne (cell_else gne g1))
  · exact cell_else gne (cell_else gne (cell_else gne g2))
  · exact cell_else gne (cell_else gne (cell_else gne g3))
  · exact ((M6.out.put (by simp; try omega) _).put (by simp; try omega) _).put (by simp; try omega) _

theorem tcorner_is (vx vy nx ny X Y A R key : Int) (w : World) (i0 : I64 vx) (i1 : I64 vy) (i2 : I64 R) (i3 : I64 X) (i4 : I64 Y) (t : Option Tch) (et : cornerF (nx, ny) (vx, vy) (subV (X, Y) (vx, vy)) R key = t) :
    Calls Try.prog 52 #[vecV vx vy, vecV nx ny, bodyV 0 X Y 0 0 A 0 0 1 R (.slice none 0 0), .int .i64 key] w (TouchQ t w) := by
  subst et
  by_cases hc : R ≤ lenV (subV (X, Y) (vx, vy))
  · exact tcorner_none vx vy nx ny X Y A R key w i0 i1 i2 i3 i4 hc
  by_cases h0 : lenV (subV (X, Y) (vx, vy)) = 0
  · exact tcorner_zero vx vy nx ny X Y A R key w i0 i1 i2 i3 i4 hc h0
  · exact tcorner_unit vx vy nx ny X Y A R key w i0 i1 i2 i3 i4 hc h0
end Go.Proofs.Ytmfkcdinfahjlaa.Fx
