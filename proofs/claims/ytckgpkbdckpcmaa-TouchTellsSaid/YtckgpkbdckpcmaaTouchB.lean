/- Contracts of the statements' own words for touching bodies: two circles. -/
import Derived.Test.YtckgpkbdckpcmaaTouchA
import Derived.Test.YtckgpkbdckpcmaaMex
namespace Go.Proofs.Ytckgpkbdckpcmaa.Fx
open Go.ChangeShapes Go.WideShapes Go.ChangeAt Go.RowKit
set_option linter.unusedVariables false

set_option maxRecDepth 100000 in
set_option maxHeartbeats 1500000 in
theorem lrounds_none (X Y A R X2 Y2 A2 R2 : Int) (w : World) (i0 : I64 X) (i1 : I64 Y) (i2 : I64 R) (i3 : I64 X2) (i4 : I64 Y2) (i5 : I64 R2) (hc : addF R R2 ≤ lenV (subV (X2, Y2) (X, Y))) :
    Calls Try.prog 33 #[bodyV 0 X Y 0 0 A 0 0 1 R (.slice none 0 0), bodyV 0 X2 Y2 0 0 A2 0 0 1 R2 (.slice none 0 0)] w (TouchR (roundsF (X, Y) R (X2, Y2) R2) w) := by
  obtain ⟨dx, ex⟩ : ∃ x, subF X2 X = x := ⟨_, rfl⟩
  obtain ⟨dy, ey⟩ : ∃ x, subF Y2 Y = x := ⟨_, rfl⟩
  have eD : subV (X2, Y2) (X, Y) = (dx, dy) := by unfold subV; simp only []; rw [ex, ey]
  have ix : I64 dx := by rw [← ex]; exact i64_sub _ _
  have iy : I64 dy := by rw [← ey]; exact i64_sub _ _
  obtain ⟨n, en⟩ : ∃ x, lenF dx dy = x := ⟨_, rfl⟩
  have eN : lenV (subV (X2, Y2) (X, Y)) = n := by rw [eD]; exact en
  have in_ : I64 n := by rw [← en]; exact i64_sqrt _
  obtain ⟨r, er⟩ : ∃ x, addF R R2 = x := ⟨_, rfl⟩
  have ir : I64 r := by rw [← er]; exact i64_add _ _
  rw [eN, er] at hc
  have HW : Hid (roundsF (X, Y) R (X2, Y2) R2 = none) := by unfold Hid roundsF; rw [eN, er, if_pos hc]
  rw [HW.out]
  clear HW
  have EX := hid ex; have EY := hid ey; have EN := hid en; have ER := hid er
  clear ex ey en er eN eD
  go_enter Try.func33, Try.ntmps33
  go_wp2_with fail
  refine (vsub_is X2 Y2 X Y dx dy _ i3 i4 i0 i1 EX.out EY.out).mono ?_
  rintro e w1 ⟨rfl, k1⟩
  have a1 := k1.reads (p := ⟨w.heap.size, 1, none⟩) (x := .int .i64 X) (by go_simp)
  have a2 := k1.reads (p := ⟨w.heap.size, 2, none⟩) (x := .int .i64 Y) (by go_simp)
  have a9 := k1.reads (p := ⟨w.heap.size, 9, none⟩) (x := .int .i64 R) (by go_simp)
  have b9 := k1.reads (p := ⟨w.heap.size + 1, 9, none⟩) (x := .int .i64 R2) (by go_simp)
  have o0 := k1.reads (p := ⟨w.heap.size + 1 + 1, 0, none⟩) (x := .int .i64 0) (by go_simp)
  have o1 := k1.reads (p := ⟨w.heap.size + 1 + 1, 1, none⟩) (x := .int .i64 0) (by go_simp)
  have o2 := k1.reads (p := ⟨w.heap.size + 1 + 1, 2, none⟩) (x := .slice none 0 0) (by go_simp)
  have of_ : ∀ i, w1.frozen? ⟨w.heap.size + 1 + 1, i, none⟩ = false := fun i => (k1.2 _).trans (by go_simp)
  have M1 := hid (made_box (made_box (made_box k1)))
  clear k1
  go_upto_region 2 with fail
  obtain ⟨W, eW⟩ : ∃ W, W = w1.alloc (.cells #[.int .i64 dx, .int .i64 dy] 26) := ⟨_, rfl⟩
  have hT : Has W w1.heap.size 26 #[.int .i64 dx, .int .i64 dy] := by rw [eW]; exact has_new _ _ _
  have MW : Hid (Made w.heap.size w W) := by unfold Hid; rw [eW]; exact M1.out.cells M1.out.1.size _ _
  have a1 : W.cell? ⟨w.heap.size, 1, none⟩ = some (.int .i64 X) := by rw [eW]; exact cell_more a1
  have a2 : W.cell? ⟨w.heap.size, 2, none⟩ = some (.int .i64 Y) := by rw [eW]; exact cell_more a2
  have a9 : W.cell? ⟨w.heap.size, 9, none⟩ = some (.int .i64 R) := by rw [eW]; exact cell_more a9
  have b9 : W.cell? ⟨w.heap.size + 1, 9, none⟩ = some (.int .i64 R2) := by rw [eW]; exact cell_more b9
  have o0 : W.cell? ⟨w.heap.size + 1 + 1, 0, none⟩ = some (.int .i64 0) := by rw [eW]; exact cell_more o0
  have o1 : W.cell? ⟨w.heap.size + 1 + 1, 1, none⟩ = some (.int .i64 0) := by rw [eW]; exact cell_more o1
  have o2 : W.cell? ⟨w.heap.size + 1 + 1, 2, none⟩ = some (.slice none 0 0) := by rw [eW]; exact cell_more o2
  have of_ : ∀ i, W.frozen? ⟨w.heap.size + 1 + 1, i, none⟩ = false := fun i => by rw [eW]; exact (frozen?_alloc_cells _ _ _ _).trans (of_ i)
  rw [← eW]
  clear eW
  have d0 := hT.at_ 0
  have d1 := hT.at_ 1
  simp at d0 d1
  refine reg_made (by kernel_rfl) (by kernel_rfl) ?_
  intro T hT' f hf
  have a9' := Class.reads hf a9
  have b9' := Class.reads hf b9
  have d0' := Class.reads hf d0
  have d1' := Class.reads hf d1
  repeat (go_big_quiet_step ((first
    | (go_at_call 18; with_reducible exact hf.made (vlen_is _ _ _ _ ix iy EN.out))
    | (go_at_call 48; with_reducible exact hf.same (add_is _ _ _ _ i2 i5 ER.out)))))
  refine wpQuiet_nil ?_
  intro w3 h3
  have k3 := hf.here h3
  have a1 := k3.reads a1
  have a2 := k3.reads a2
  have a9 := k3.reads a9
  have d0 := k3.reads d0
  have d1 := k3.reads d1
  have o0 := k3.reads o0
  have o1 := k3.reads o1
  have o2 := k3.reads o2
  have of_ : ∀ i, w3.frozen? ⟨w.heap.size + 1 + 1, i, none⟩ = false := fun i => (k3.2 _).trans (of_ i)
  have M3 : Hid (Made w.heap.size w w3) := MW.out.then_ (k3.low MW.out.1.size)
  clear k3 h3 hf a9' b9' d0' d1' b9 hT
  go_wp2_with fail
  refine bodyPost_ret (v := .tuple #[tchV 0 0 none 0 0, .bool false]) (by simp [results, Try.results33, go_sem, o0, o1, o2]) rfl (touch_none ?_)
  exact ((M3.out.put (by simp; try omega) _).put (by simp; try omega) _).put (by simp; try omega) _

set_option maxRecDepth 100000 in
set_option maxHeartbeats 1500000 in
theorem lrounds_unit (X Y A R X2 Y2 A2 R2 : Int) (w : World) (i0 : I64 X) (i1 : I64 Y) (i2 : I64 R) (i3 : I64 X2) (i4 : I64 Y2) (i5 : I64 R2) (hc : ¬ addF R R2 ≤ lenV (subV (X2, Y2) (X, Y))) (h0 : 0 < lenV (subV (X2, Y2) (X, Y))) :
    Calls Try.prog 33 #[bodyV 0 X Y 0 0 A 0 0 1 R (.slice none 0 0), bodyV 0 X2 Y2 0 0 A2 0 0 1 R2 (.slice none 0 0)] w (TouchR (roundsF (X, Y) R (X2, Y2) R2) w) := by
  obtain ⟨dx, ex⟩ : ∃ x, subF X2 X = x := ⟨_, rfl⟩
  obtain ⟨dy, ey⟩ : ∃ x, subF Y2 Y = x := ⟨_, rfl⟩
  have eD : subV (X2, Y2) (X, Y) = (dx, dy) := by unfold subV; simp only []; rw [ex, ey]
  have ix : I64 dx := by rw [← ex]; exact i64_sub _ _
  have iy : I64 dy := by rw [← ey]; exact i64_sub _ _
  obtain ⟨n, en⟩ : ∃ x, lenF dx dy = x := ⟨_, rfl⟩
  have eN : lenV (subV (X2, Y2) (X, Y)) = n := by rw [eD]; exact en
  have in_ : I64 n := by rw [← en]; exact i64_sqrt _
  obtain ⟨r, er⟩ : ∃ x, addF R R2 = x := ⟨_, rfl⟩
  have ir : I64 r := by rw [← er]; exact i64_add _ _
  rw [eN, er] at hc
  rw [eN] at h0
  obtain ⟨dep, ed⟩ : ∃ x, subF r n = x := ⟨_, rfl⟩
  have idp : I64 dep := by rw [← ed]; exact i64_sub _ _
  obtain ⟨h, eh⟩ : ∃ x, divF dep 8589934592 = x := ⟨_, rfl⟩
  have ih : I64 h := by rw [← eh]; exact i64_div _ _
  have i8 : I64 8589934592 := by unfold I64; omega
  obtain ⟨s, es⟩ : ∃ x, subF R h = x := ⟨_, rfl⟩
  have is_ : I64 s := by rw [← es]; exact i64_sub _ _
  obtain ⟨u, eu⟩ : ∃ x, divF dx n = x := ⟨_, rfl⟩
  obtain ⟨v, ev⟩ : ∃ x, divF dy n = x := ⟨_, rfl⟩
  have iu : I64 u := by rw [← eu]; exact i64_div _ _
  have iv : I64 v := by rw [← ev]; exact i64_div _ _
  have eU : roundsN (X, Y) (X2, Y2) = (u, v) := by unfold roundsN; rw [eN, if_pos h0, eD]; unfold unitP uF; simp only []; rw [en, if_neg (by omega), eu, ev]
  have eUn : unitV dx dy = .tuple #[vecV u v, .bool true] := by unfold unitV; rw [en, if_neg (by omega), eu, ev]
  have EUn := hid eUn
  obtain ⟨p, ep⟩ : ∃ x, mulF u s = x := ⟨_, rfl⟩
  obtain ⟨q, eq⟩ : ∃ x, mulF v s = x := ⟨_, rfl⟩
  have ip : I64 p := by rw [← ep]; exact i64_mul _ _
  have iq : I64 q := by rw [← eq]; exact i64_mul _ _
  obtain ⟨ax, ea⟩ : ∃ x, addF X p = x := ⟨_, rfl⟩
  obtain ⟨ay, eb⟩ : ∃ x, addF Y q = x := ⟨_, rfl⟩
  have HW : Hid (roundsF (X, Y) R (X2, Y2) R2 = some (oneT (u, v) (ax, ay) dep 0)) := by
    unfold Hid roundsF
    rw [eN, er, if_neg hc, eU, ed, eh, es]
    unfold scaV addV
    simp only []
    rw [ep, eq, ea, eb]
  rw [HW.out]
  have ED := hid ed; have EH := hid eh; have ES := hid es; have EP := hid ep; have EQ := hid eq; have EA := hid ea; have EB := hid eb
  clear HW ed eh es ep eq ea eb eU eUn eu ev
  have EX := hid ex; have EY := hid ey; have EN := hid en; have ER := hid er
  clear ex ey en er eN eD
  go_enter Try.func33, Try.ntmps33
  go_wp2_with fail
  refine (vsub_is X2 Y2 X Y dx dy _ i3 i4 i0 i1 EX.out EY.out).mono ?_
  rintro e w1 ⟨rfl, k1⟩
  have a1 := k1.reads (p := ⟨w.heap.size, 1, none⟩) (x := .int .i64 X) (by go_simp)
  have a2 := k1.reads (p := ⟨w.heap.size, 2, none⟩) (x := .int .i64 Y) (by go_simp)
  have a9 := k1.reads (p := ⟨w.heap.size, 9, none⟩) (x := .int .i64 R) (by go_simp)
  have b9 := k1.reads (p := ⟨w.heap.size + 1, 9, none⟩) (x := .int .i64 R2) (by go_simp)
  have o0 := k1.reads (p := ⟨w.heap.size + 1 + 1, 0, none⟩) (x := .int .i64 0) (by go_simp)
  have o1 := k1.reads (p := ⟨w.heap.size + 1 + 1, 1, none⟩) (x := .int .i64 0) (by go_simp)
  have o2 := k1.reads (p := ⟨w.heap.size + 1 + 1, 2, none⟩) (x := .slice none 0 0) (by go_simp)
  have of_ : ∀ i, w1.frozen? ⟨w.heap.size + 1 + 1, i, none⟩ = false := fun i => (k1.2 _).trans (by go_simp)
  have M1 := hid (made_box (made_box (made_box k1)))
  clear k1
  go_upto_region 2 with fail
  obtain ⟨W, eW⟩ : ∃ W, W = w1.alloc (.cells #[.int .i64 dx, .int .i64 dy] 26) := ⟨_, rfl⟩
  have hT : Has W w1.heap.size 26 #[.int .i64 dx, .int .i64 dy] := by rw [eW]; exact has_new _ _ _
  have MW : Hid (Made w.heap.size w W) := by unfold Hid; rw [eW]; exact M1.out.cells M1.out.1.size _ _
  have a1 : W.cell? ⟨w.heap.size, 1, none⟩ = some (.int .i64 X) := by rw [eW]; exact cell_more a1
  have a2 : W.cell? ⟨w.heap.size, 2, none⟩ = some (.int .i64 Y) := by rw [eW]; exact cell_more a2
  have a9 : W.cell? ⟨w.heap.size, 9, none⟩ = some (.int .i64 R) := by rw [eW]; exact cell_more a9
  have b9 : W.cell? ⟨w.heap.size + 1, 9, none⟩ = some (.int .i64 R2) := by rw [eW]; exact cell_more b9
  have o0 : W.cell? ⟨w.heap.size + 1 + 1, 0, none⟩ = some (.int .i64 0) := by rw [eW]; exact cell_more o0
  have o1 : W.cell? ⟨w.heap.size + 1 + 1, 1, none⟩ = some (.int .i64 0) := by rw [eW]; exact cell_more o1
  have o2 : W.cell? ⟨w.heap.size + 1 + 1, 2, none⟩ = some (.slice none 0 0) := by rw [eW]; exact cell_more o2
  have of_ : ∀ i, W.frozen? ⟨w.heap.size + 1 + 1, i, none⟩ = false := fun i => by rw [eW]; exact (frozen?_alloc_cells _ _ _ _).trans (of_ i)
  rw [← eW]
  clear eW
  have d0 := hT.at_ 0
  have d1 := hT.at_ 1
  simp at d0 d1
  refine reg_made (by kernel_rfl) (by kernel_rfl) ?_
  intro T hT' f hf
  have a9' := Class.reads hf a9
  have b9' := Class.reads hf b9
  have d0' := Class.reads hf d0
  have d1' := Class.reads hf d1
  repeat (go_big_quiet_step ((first
    | (go_at_call 18; with_reducible exact hf.made (vlen_is _ _ _ _ ix iy EN.out))
    | (go_at_call 48; with_reducible exact hf.same (add_is _ _ _ _ i2 i5 ER.out)))))
  refine wpQuiet_nil ?_
  intro w3 h3
  have k3 := hf.here h3
  have a1 := k3.reads a1
  have a2 := k3.reads a2
  have a9 := k3.reads a9
  have d0 := k3.reads d0
  have d1 := k3.reads d1
  have o0 := k3.reads o0
  have o1 := k3.reads o1
  have o2 := k3.reads o2
  have of_ : ∀ i, w3.frozen? ⟨w.heap.size + 1 + 1, i, none⟩ = false := fun i => (k3.2 _).trans (of_ i)
  have M3 : Hid (Made w.heap.size w w3) := MW.out.then_ (k3.low MW.out.1.size)
  clear k3 h3 hf a9' b9' d0' d1' b9 hT
  have ld := World.block_lt_of_cell? _ _ d0
  go_wp2_with fail
  refine (vunit_is dx dy _ _ ix iy EUn.out).mono ?_
  rintro e w4 ⟨rfl, k4⟩
  have lw : w.heap.size + 1 + 1 < w3.heap.size := World.block_lt_of_cell? _ _ o0
  have a1 := k4.reads (cell_more a1)
  have a2 := k4.reads (cell_more a2)
  have a9 := k4.reads (cell_more a9)
  have o0 := k4.reads (cell_more o0)
  have o1 := k4.reads (cell_more o1)
  have o2 := k4.reads (cell_more o2)
  have of_ : ∀ i, w4.frozen? ⟨w.heap.size + 1 + 1, i, none⟩ = false := fun i => (k4.2 _).trans ((frozen?_alloc_cells _ _ _ _).trans (of_ i))
  have hB : Has w4 w3.heap.size 26 #[.int .i64 4294967296, .int .i64 0] := (has_new _ _ _).stays k4 (by simp)
  have M4 : Hid (Made w.heap.size w w4) := M3.out.then_ ((made_box k4).low M3.out.1.size)
  have n0 := hB.at_ 0
  have n1 := hB.at_ 1
  simp at n0 n1
  have nf : ∀ i, w4.frozen? ⟨w3.heap.size, i, none⟩ = false := hB.free
  clear k4 d0 d1
  go_upto_region 8 with fail
  obtain ⟨W5, eW⟩ : ∃ W, W = (w4.setCell ⟨w3.heap.size, 0, none⟩ (.int .i64 u)).setCell ⟨w3.heap.size, 1, none⟩ (.int .i64 v) := ⟨_, rfl⟩
  have hB5 : Has W5 w3.heap.size 26 #[.int .i64 u, .int .i64 v] := by rw [eW]; simpa using (hB.put 0 (.int .i64 u)).put 1 (.int .i64 v)
  have M5 : Hid (Made w.heap.size w W5) := by unfold Hid; rw [eW]; exact (M4.out.put (by simp; omega) _).put (by simp; omega) _
  have l1 : ∀ i, i ≤ w.heap.size + 1 + 1 → (i ≠ w3.heap.size) := fun i hi => by omega
  have a1 : W5.cell? ⟨w.heap.size, 1, none⟩ = some (.int .i64 X) := by rw [eW]; exact cell_else (l1 _ (by simp; try omega)) (cell_else (l1 _ (by simp; try omega)) a1)
  have a2 : W5.cell? ⟨w.heap.size, 2, none⟩ = some (.int .i64 Y) := by rw [eW]; exact cell_else (l1 _ (by simp; try omega)) (cell_else (l1 _ (by simp; try omega)) a2)
  have a9 : W5.cell? ⟨w.heap.size, 9, none⟩ = some (.int .i64 R) := by rw [eW]; exact cell_else (l1 _ (by simp; try omega)) (cell_else (l1 _ (by simp; try omega)) a9)
  have o0 : W5.cell? ⟨w.heap.size + 1 + 1, 0, none⟩ = some (.int .i64 0) := by rw [eW]; exact cell_else (l1 _ (by simp; try omega)) (cell_else (l1 _ (by simp; try omega)) o0)
  have o1 : W5.cell? ⟨w.heap.size + 1 + 1, 1, none⟩ = some (.int .i64 0) := by rw [eW]; exact cell_else (l1 _ (by simp; try omega)) (cell_else (l1 _ (by simp; try omega)) o1)
  have o2 : W5.cell? ⟨w.heap.size + 1 + 1, 2, none⟩ = some (.slice none 0 0) := by rw [eW]; exact cell_else (l1 _ (by simp; try omega)) (cell_else (l1 _ (by simp; try omega)) o2)
  have of_ : ∀ i, W5.frozen? ⟨w.heap.size + 1 + 1, i, none⟩ = false := fun i => by rw [eW]; simpa using of_ i
  rw [← eW]
  clear eW nf
  have n0 := hB5.at_ 0
  have n1 := hB5.at_ 1
  simp at n0 n1
  go_wp2_with fail
  refine (sub_is r n dep _ ir in_ ED.out).mono ?_
  rintro e w6 ⟨rfl, rfl⟩
  go_wp2_with fail
  refine reg_taken 13 2 (by kernel_rfl) (by kernel_rfl) (by kernel_rfl) ?_
  intro T hT f hf
  have a1' := Class.reads hf a1
  have a2' := Class.reads hf a2
  have a9' := Class.reads hf a9
  have n0' := Class.reads hf n0
  have n1' := Class.reads hf n1
  simp only [List.take_succ_cons, List.take_zero, List.drop_succ_cons, List.drop_zero]
  repeat (go_big_quiet_step ((first
    | (go_at_call 52; with_reducible exact hf.drawn (div_is _ _ _ _ idp i8 EH.out))
    | (go_at_call 44; with_reducible exact hf.same (sub_is _ _ _ _ i2 ih ES.out))
    | (go_at_call 54; with_reducible exact hf.made (vscale_is _ _ _ _ _ _ iu iv is_ EP.out EQ.out))
    | (go_at_call 25; with_reducible exact hf.made (vadd_is _ _ _ _ _ _ _ i0 i1 ip iq EA.out EB.out)))))
  refine wpQuiet_nil ?_
  intro w6 h6
  have k6 := hf.here h6
  have o0 := k6.reads o0
  have lw6 : w.heap.size + 1 + 1 < w6.heap.size := World.block_lt_of_cell? _ _ o0
  have o1 := k6.reads o1
  have o2 := k6.reads o2
  have of_ : ∀ i, w6.frozen? ⟨w.heap.size + 1 + 1, i, none⟩ = false := fun i => (k6.2 _).trans (of_ i)
  have M6 : Hid (Made w.heap.size w w6) := M5.out.then_ (k6.low M5.out.1.size)
  clear k6 h6 hf a1' a2' a9' n0' n1' a1 a2 a9 n0 n1 hB5
  go_wp2_with fail
  refine (point_is u v ax ay dep 0 _).mono ?_
  rintro e w7 ⟨g, rfl, hp, hg, k7⟩
  have o0 := k7.reads o0
  have o1 := k7.reads o1
  have o2 := k7.reads o2
  have of_ : ∀ i, w7.frozen? ⟨w.heap.size + 1 + 1, i, none⟩ = false := fun i => (k7.2 _).trans (of_ i)
  have M7 : Hid (Made w.heap.size w w7) := M6.out.then_ (k7.low M6.out.1.size)
  have HP := hid hp.cells
  have hgw : w.heap.size + 1 + 1 < g := by omega
  clear k7 hp hg
  go_wp2_with fail
  refine OnlyN.here ?_
  go_wp2_with fail
  refine bodyPost_ret (v := .tuple #[tchV u v (some ⟨g, 0, none⟩) 1 1, .bool true]) (by simp [results, Try.results33, go_sem, o0, o1, o2]) rfl (touch_one ?_ ?_ ?_ ?_ ?_)
  · exact cell_else (by simp; omega) (cell_else (by simp; omega) (cell_else (by simp; omega) HP.out.1))
  · exact cell_else (by simp; omega) (cell_else (by simp; omega) (cell_else (by simp; omega) HP.out.2.1))
  · exact cell_else (by simp; omega) (cell_else (by simp; omega) (cell_else (by simp; omega) HP.out.2.2.1))
  · exact cell_else (by simp; omega) (cell_else (by simp; omega) (cell_else (by simp; omega) HP.out.2.2.2))
  · exact ((M7.out.put (by simp; try omega) _).put (by simp; try omega) _).put (by simp; try omega) _

set_option maxRecDepth 100000 in
set_option maxHeartbeats 1500000 in
theorem lrounds_zero (X Y A R X2 Y2 A2 R2 : Int) (w : World) (i0 : I64 X) (i1 : I64 Y) (i2 : I64 R) (i3 : I64 X2) (i4 : I64 Y2) (i5 : I64 R2) (hc : ¬ addF R R2 ≤ lenV (subV (X2, Y2) (X, Y))) (h0 : ¬ 0 < lenV (subV (X2, Y2) (X, Y))) :
    Calls Try.prog 33 #[bodyV 0 X Y 0 0 A 0 0 1 R (.slice none 0 0), bodyV 0 X2 Y2 0 0 A2 0 0 1 R2 (.slice none 0 0)] w (TouchR (roundsF (X, Y) R (X2, Y2) R2) w) := by
  obtain ⟨dx, ex⟩ : ∃ x, subF X2 X = x := ⟨_, rfl⟩
  obtain ⟨dy, ey⟩ : ∃ x, subF Y2 Y = x := ⟨_, rfl⟩
  have eD : subV (X2, Y2) (X, Y) = (dx, dy) := by unfold subV; simp only []; rw [ex, ey]
  have ix : I64 dx := by rw [← ex]; exact i64_sub _ _
  have iy : I64 dy := by rw [← ey]; exact i64_sub _ _
  obtain ⟨n, en⟩ : ∃ x, lenF dx dy = x := ⟨_, rfl⟩
  have eN : lenV (subV (X2, Y2) (X, Y)) = n := by rw [eD]; exact en
  have in_ : I64 n := by rw [← en]; exact i64_sqrt _
  obtain ⟨r, er⟩ : ∃ x, addF R R2 = x := ⟨_, rfl⟩
  have ir : I64 r := by rw [← er]; exact i64_add _ _
  rw [eN, er] at hc
  rw [eN] at h0
  obtain ⟨dep, ed⟩ : ∃ x, subF r n = x := ⟨_, rfl⟩
  have idp : I64 dep := by rw [← ed]; exact i64_sub _ _
  obtain ⟨h, eh⟩ : ∃ x, divF dep 8589934592 = x := ⟨_, rfl⟩
  have ih : I64 h := by rw [← eh]; exact i64_div _ _
  have i8 : I64 8589934592 := by unfold I64; omega
  obtain ⟨s, es⟩ : ∃ x, subF R h = x := ⟨_, rfl⟩
  have is_ : I64 s := by rw [← es]; exact i64_sub _ _
  obtain ⟨u, eu⟩ : ∃ x, (4294967296 : Int) = x := ⟨_, rfl⟩
  obtain ⟨v, ev⟩ : ∃ x, (0 : Int) = x := ⟨_, rfl⟩
  have iu : I64 u := by rw [← eu]; unfold I64; omega
  have iv : I64 v := by rw [← ev]; unfold I64; omega
  have eU : roundsN (X, Y) (X2, Y2) = (u, v) := by unfold roundsN; rw [eN, if_neg h0, eu, ev]
  obtain ⟨p, ep⟩ : ∃ x, mulF u s = x := ⟨_, rfl⟩
  obtain ⟨q, eq⟩ : ∃ x, mulF v s = x := ⟨_, rfl⟩
  have ip : I64 p := by rw [← ep]; exact i64_mul _ _
  have iq : I64 q := by rw [← eq]; exact i64_mul _ _
  obtain ⟨ax, ea⟩ : ∃ x, addF X p = x := ⟨_, rfl⟩
  obtain ⟨ay, eb⟩ : ∃ x, addF Y q = x := ⟨_, rfl⟩
  have HW : Hid (roundsF (X, Y) R (X2, Y2) R2 = some (oneT (u, v) (ax, ay) dep 0)) := by
    unfold Hid roundsF
    rw [eN, er, if_neg hc, eU, ed, eh, es]
    unfold scaV addV
    simp only []
    rw [ep, eq, ea, eb]
  rw [HW.out]
  have ED := hid ed; have EH := hid eh; have ES := hid es; have EP := hid ep; have EQ := hid eq; have EA := hid ea; have EB := hid eb
  clear HW ed eh es ep eq ea eb
  have EX := hid ex; have EY := hid ey; have EN := hid en; have ER := hid er
  clear ex ey en er eN eD
  have HU := hid eu; have HV := hid ev
  clear eu ev eU
  go_enter Try.func33, Try.ntmps33
  go_wp2_with fail
  refine (vsub_is X2 Y2 X Y dx dy _ i3 i4 i0 i1 EX.out EY.out).mono ?_
  rintro e w1 ⟨rfl, k1⟩
  have a1 := k1.reads (p := ⟨w.heap.size, 1, none⟩) (x := .int .i64 X) (by go_simp)
  have a2 := k1.reads (p := ⟨w.heap.size, 2, none⟩) (x := .int .i64 Y) (by go_simp)
  have a9 := k1.reads (p := ⟨w.heap.size, 9, none⟩) (x := .int .i64 R) (by go_simp)
  have b9 := k1.reads (p := ⟨w.heap.size + 1, 9, none⟩) (x := .int .i64 R2) (by go_simp)
  have o0 := k1.reads (p := ⟨w.heap.size + 1 + 1, 0, none⟩) (x := .int .i64 0) (by go_simp)
  have o1 := k1.reads (p := ⟨w.heap.size + 1 + 1, 1, none⟩) (x := .int .i64 0) (by go_simp)
  have o2 := k1.reads (p := ⟨w.heap.size + 1 + 1, 2, none⟩) (x := .slice none 0 0) (by go_simp)
  have of_ : ∀ i, w1.frozen? ⟨w.heap.size + 1 + 1, i, none⟩ = false := fun i => (k1.2 _).trans (by go_simp)
  have M1 := hid (made_box (made_box (made_box k1)))
  clear k1
  go_upto_region 2 with fail
  obtain ⟨W, eW⟩ : ∃ W, W = w1.alloc (.cells #[.int .i64 dx, .int .i64 dy] 26) := ⟨_, rfl⟩
  have hT : Has W w1.heap.size 26 #[.int .i64 dx, .int .i64 dy] := by rw [eW]; exact has_new _ _ _
  have MW : Hid (Made w.heap.size w W) := by unfold Hid; rw [eW]; exact M1.out.cells M1.out.1.size _ _
  have a1 : W.cell? ⟨w.heap.size, 1, none⟩ = some (.int .i64 X) := by rw [eW]; exact cell_more a1
  have a2 : W.cell? ⟨w.heap.size, 2, none⟩ = some (.int .i64 Y) := by rw [eW]; exact cell_more a2
  have a9 : W.cell? ⟨w.heap.size, 9, none⟩ = some (.int .i64 R) := by rw [eW]; exact cell_more a9
  have b9 : W.cell? ⟨w.heap.size + 1, 9, none⟩ = some (.int .i64 R2) := by rw [eW]; exact cell_more b9
  have o0 : W.cell? ⟨w.heap.size + 1 + 1, 0, none⟩ = some (.int .i64 0) := by rw [eW]; exact cell_more o0
  have o1 : W.cell? ⟨w.heap.size + 1 + 1, 1, none⟩ = some (.int .i64 0) := by rw [eW]; exact cell_more o1
  have o2 : W.cell? ⟨w.heap.size + 1 + 1, 2, none⟩ = some (.slice none 0 0) := by rw [eW]; exact cell_more o2
  have of_ : ∀ i, W.frozen? ⟨w.heap.size + 1 + 1, i, none⟩ = false := fun i => by rw [eW]; exact (frozen?_alloc_cells _ _ _ _).trans (of_ i)
  rw [← eW]
  clear eW
  have d0 := hT.at_ 0
  have d1 := hT.at_ 1
  simp at d0 d1
  refine reg_made (by kernel_rfl) (by kernel_rfl) ?_
  intro T hT' f hf
  have a9' := Class.reads hf a9
  have b9' := Class.reads hf b9
  have d0' := Class.reads hf d0
  have d1' := Class.reads hf d1
  repeat (go_big_quiet_step ((first
    | (go_at_call 18; with_reducible exact hf.made (vlen_is _ _ _ _ ix iy EN.out))
    | (go_at_call 48; with_reducible exact hf.same (add_is _ _ _ _ i2 i5 ER.out)))))
  refine wpQuiet_nil ?_
  intro w3 h3
  have k3 := hf.here h3
  have a1 := k3.reads a1
  have a2 := k3.reads a2
  have a9 := k3.reads a9
  have d0 := k3.reads d0
  have d1 := k3.reads d1
  have o0 := k3.reads o0
  have o1 := k3.reads o1
  have o2 := k3.reads o2
  have of_ : ∀ i, w3.frozen? ⟨w.heap.size + 1 + 1, i, none⟩ = false := fun i => (k3.2 _).trans (of_ i)
  have M3 : Hid (Made w.heap.size w w3) := MW.out.then_ (k3.low MW.out.1.size)
  clear k3 h3 hf a9' b9' d0' d1' b9 hT
  go_upto_region 6 with fail
  obtain ⟨W5, eW⟩ : ∃ W, W = w3.alloc (.cells #[.int .i64 4294967296, .int .i64 0] 26) := ⟨_, rfl⟩
  have hB5 : Has W5 w3.heap.size 26 #[.int .i64 u, .int .i64 v] := by rw [eW, ← HU.out, ← HV.out]; exact has_new _ _ _
  have M5 : Hid (Made w.heap.size w W5) := by unfold Hid; rw [eW]; exact M3.out.cells M3.out.1.size _ _
  have a1 : W5.cell? ⟨w.heap.size, 1, none⟩ = some (.int .i64 X) := by rw [eW]; exact cell_more a1
  have a2 : W5.cell? ⟨w.heap.size, 2, none⟩ = some (.int .i64 Y) := by rw [eW]; exact cell_more a2
  have a9 : W5.cell? ⟨w.heap.size, 9, none⟩ = some (.int .i64 R) := by rw [eW]; exact cell_more a9
  have o0 : W5.cell? ⟨w.heap.size + 1 + 1, 0, none⟩ = some (.int .i64 0) := by rw [eW]; exact cell_more o0
  have o1 : W5.cell? ⟨w.heap.size + 1 + 1, 1, none⟩ = some (.int .i64 0) := by rw [eW]; exact cell_more o1
  have o2 : W5.cell? ⟨w.heap.size + 1 + 1, 2, none⟩ = some (.slice none 0 0) := by rw [eW]; exact cell_more o2
  have of_ : ∀ i, W5.frozen? ⟨w.heap.size + 1 + 1, i, none⟩ = false := fun i => by rw [eW]; exact (frozen?_alloc_cells _ _ _ _).trans (of_ i)
  rw [← eW]
  clear eW d0 d1
  have n0 := hB5.at_ 0
  have n1 := hB5.at_ 1
  simp at n0 n1
  go_wp2_with fail
  refine (sub_is r n dep _ ir in_ ED.out).mono ?_
  rintro e w6 ⟨rfl, rfl⟩
  go_wp2_with fail
  refine reg_taken 13 2 (by kernel_rfl) (by kernel_rfl) (by kernel_rfl) ?_
  intro T hT f hf
  have a1' := Class.reads hf a1
  have a2' := Class.reads hf a2
  have a9' := Class.reads hf a9
  have n0' := Class.reads hf n0
  have n1' := Class.reads hf n1
  simp only [List.take_succ_cons, List.take_zero, List.drop_succ_cons, List.drop_zero]
  repeat (go_big_quiet_step ((first
    | (go_at_call 52; with_reducible exact hf.drawn (div_is _ _ _ _ idp i8 EH.out))
    | (go_at_call 44; with_reducible exact hf.same (sub_is _ _ _ _ i2 ih ES.out))
    | (go_at_call 54; with_reducible exact hf.made (vscale_is _ _ _ _ _ _ iu iv is_ EP.out EQ.out))
    | (go_at_call 25; with_reducible exact hf.made (vadd_is _ _ _ _ _ _ _ i0 i1 ip iq EA.out EB.out)))))
  refine wpQuiet_nil ?_
  intro w6 h6
  have k6 := hf.here h6
  have o0 := k6.reads o0
  have lw6 : w.heap.size + 1 + 1 < w6.heap.size := World.block_lt_of_cell? _ _ o0
  have o1 := k6.reads o1
  have o2 := k6.reads o2
  have of_ : ∀ i, w6.frozen? ⟨w.heap.size + 1 + 1, i, none⟩ = false := fun i => (k6.2 _).trans (of_ i)
  have M6 : Hid (Made w.heap.size w w6) := M5.out.then_ (k6.low M5.out.1.size)
  clear k6 h6 hf a1' a2' a9' n0' n1' a1 a2 a9 n0 n1 hB5
  go_wp2_with fail
  refine (point_is u v ax ay dep 0 _).mono ?_
  rintro e w7 ⟨g, rfl, hp, hg, k7⟩
  have o0 := k7.reads o0
  have o1 := k7.reads o1
  have o2 := k7.reads o2
  have of_ : ∀ i, w7.frozen? ⟨w.heap.size + 1 + 1, i, none⟩ = false := fun i => (k7.2 _).trans (of_ i)
  have M7 : Hid (Made w.heap.size w w7) := M6.out.then_ (k7.low M6.out.1.size)
  have HP := hid hp.cells
  have hgw : w.heap.size + 1 + 1 < g := by omega
  clear k7 hp hg
  go_wp2_with fail
  refine OnlyN.here ?_
  go_wp2_with fail
  refine bodyPost_ret (v := .tuple #[tchV u v (some ⟨g, 0, none⟩) 1 1, .bool true]) (by simp [results, Try.results33, go_sem, o0, o1, o2]) rfl (touch_one ?_ ?_ ?_ ?_ ?_)
  · exact cell_else (by simp; omega) (cell_else (by simp; omega) (cell_else (by simp; omega) HP.out.1))
  · exact cell_else (by simp; omega) (cell_else (by simp; omega) (cell_else (by simp; omega) HP.out.2.1))
  · exact cell_else (by simp; omega) (cell_else (by simp; omega) (cell_else (by simp; omega) HP.out.2.2.1))
  · exact cell_else (by simp; omega) (cell_else (by simp; omega) (cell_else (by simp; omega) HP.out.2.2.2))
  · exact ((M7.out.put (by simp; try omega) _).put (by simp; try omega) _).put (by simp; try omega) _

theorem lrounds_is (X Y A R X2 Y2 A2 R2 : Int) (w : World) (i0 : I64 X) (i1 : I64 Y) (i2 : I64 R) (i3 : I64 X2) (i4 : I64 Y2) (i5 : I64 R2) :
    Calls Try.prog 33 #[bodyV 0 X Y 0 0 A 0 0 1 R (.slice none 0 0), bodyV 0 X2 Y2 0 0 A2 0 0 1 R2 (.slice none 0 0)] w (TouchR (roundsF (X, Y) R (X2, Y2) R2) w) := by
  by_cases hc : addF R R2 ≤ lenV (subV (X2, Y2) (X, Y))
  · exact lrounds_none X Y A R X2 Y2 A2 R2 w i0 i1 i2 i3 i4 i5 hc
  · by_cases h0 : 0 < lenV (subV (X2, Y2) (X, Y))
    · exact lrounds_unit X Y A R X2 Y2 A2 R2 w i0 i1 i2 i3 i4 i5 hc h0
    · exact lrounds_zero X Y A R X2 Y2 A2 R2 w i0 i1 i2 i3 i4 i5 hc h0
end Go.Proofs.Ytckgpkbdckpcmaa.Fx
