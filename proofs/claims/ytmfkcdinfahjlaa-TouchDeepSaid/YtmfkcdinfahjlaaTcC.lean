/- Contracts of package touch: circles. -/
import Derived.Test.YtmfkcdinfahjlaaTcQ
namespace Go.Proofs.Ytmfkcdinfahjlaa.Fx
open Go.ChangeShapes Go.WideShapes Go.ChangeAt Go.RowKit
set_option linter.unusedVariables false

set_option maxRecDepth 100000 in
set_option maxHeartbeats 1500000 in
theorem tcircles_none (X Y A R X2 Y2 A2 R2 : Int) (w : World) (i0 : I64 X) (i1 : I64 Y) (i2 : I64 R) (i3 : I64 X2) (i4 : I64 Y2) (i5 : I64 R2) (hc : addF R R2 ≤ lenV (subV (X2, Y2) (X, Y))) :
    Calls Try.prog 23 #[bodyV 0 X Y 0 0 A 0 0 1 R (.slice none 0 0), bodyV 0 X2 Y2 0 0 A2 0 0 1 R2 (.slice none 0 0)] w (TouchQ (roundsF (X, Y) R (X2, Y2) R2) w) := by
  obtain ⟨dx, ex⟩ : ∃ x, subF X2 X = x := ⟨_, rfl⟩
  obtain ⟨dy, ey⟩ : ∃ x, subF Y2 Y = x := ⟨_, rfl⟩
  have eD : subV (X2, Y2) (X, Y) = (dx, dy) := by unfold subV; simp only []; rw [ex, ey]
  have ix : I64 dx := by rw [← ex]; exact i64_sub _ _
  have iy : I64 dy := by rw [← ey]; exact i64_sub _ _
  obtain ⟨n, en⟩ : ∃ x, lenF dx dy = x := ⟨_, rfl⟩
  have eN : lenV (subV (X2, Y2) (X, Y)) = n := by rw [eD]; exact en
  have in_ : I64 n := by rw [← en]; exact i64_sqrt _
  obtain ⟨r, er⟩ : ∃ x, addF R R2 = x := ⟨_, rfl⟩
  have ir : I64 r := by rw [← er]; exact i64_add _ _
  rw [eN, er] at hc
  have HW : Hid (roundsF (X, Y) R (X2, Y2) R2 = none) := by unfold Hid roundsF; rw [eN, er, if_pos hc]
  rw [HW.out]
  clear HW
  have EX := hid ex; have EY := hid ey; have EN := hid en; have ER := hid er
  clear ex ey en er eN eD
  go_enter Try.func23, Try.ntmps23
  go_wp2_with fail
  refine (vsub_is X2 Y2 X Y dx dy _ i3 i4 i0 i1 EX.out EY.out).mono ?_
  rintro e w1 ⟨rfl, k1⟩
  have a1 := k1.reads (p := ⟨w.heap.size, 1, none⟩) (x := .int .i64 X) (by go_simp)
  have a2 := k1.reads (p := ⟨w.heap.size, 2, none⟩) (x := .int .i64 Y) (by go_simp)
  have a9 := k1.reads (p := ⟨w.heap.size, 9, none⟩) (x := .int .i64 R) (by go_simp)
  have b9 := k1.reads (p := ⟨w.heap.size + 1, 9, none⟩) (x := .int .i64 R2) (by go_simp)
  have o0 := k1.reads (p := ⟨w.heap.size + 1 + 1, 0, none⟩) (x := .int .i64 0) (by go_simp)
  have o1 := k1.reads (p := ⟨w.heap.size + 1 + 1, 1, none⟩) (x := .int .i64 0) (by go_simp)
  have o2 := k1.reads (p := ⟨w.heap.size + 1 + 1, 2, none⟩) (x := .slice none 0 0) (by go_simp)
  have of_ : ∀ i, w1.frozen? ⟨w.heap.size + 1 + 1, i, none⟩ = false := fun i => (k1.2 _).trans (by go_simp)
  have lo1 : w.heap.size + 1 + 1 < w1.heap.size := World.block_lt_of_cell? _ _ o0
  have lb1 : w.heap.size + 1 < w1.heap.size := by omega
  have la1 : w.heap.size < w1.heap.size := by omega
  have M1 := hid (made_box (made_box (made_box k1)))
  clear k1
  go_wp2_with fail
  refine (add_is _ _ _ _ i2 i5 ER.out).mono ?_
  rintro e w2 ⟨rfl, rfl⟩
  go_wp2_with fail
  refine (vlen_is _ _ _ _ ix iy EN.out).mono ?_
  rintro e w3 ⟨rfl, k3⟩
  have o0 := k3.reads (cell_more o0)
  have o1 := k3.reads (cell_more o1)
  have o2 := k3.reads (cell_more o2)
  have of_ : ∀ i, w3.frozen? ⟨w.heap.size + 1 + 1, i, none⟩ = false := fun i => (k3.2 _).trans ((frozen?_alloc_cells _ _ _ _).trans (of_ i))
  have d0 := k3.reads (p := ⟨w1.heap.size, 0, none⟩) (x := .int .i64 dx) (by go_simp)
  have d1 := k3.reads (p := ⟨w1.heap.size, 1, none⟩) (x := .int .i64 dy) (by go_simp)
  have ld := World.block_lt_of_cell? _ _ d0
  have lo3 : w.heap.size + 1 + 1 < w3.heap.size := World.block_lt_of_cell? _ _ o0
  have M3 : Hid (Made w.heap.size w w3) := M1.out.then_ ((made_box k3).low M1.out.1.size)
  clear k3 b9 lb1 la1
  go_wp2_with fail
  refine bodyPost_ret (v := .tuple #[tchV 0 0 none 0 0, .bool false]) (by simp [results, Try.results23, go_sem, o0, o1, o2]) rfl (touchq_none (by simp; omega) ?_)
  exact ((M3.out.put (by simp; try omega) _).put (by simp; try omega) _).put (by simp; try omega) _

set_option maxRecDepth 100000 in
set_option maxHeartbeats 1500000 in
theorem tcircles_unit (X Y A R X2 Y2 A2 R2 : Int) (w : World) (i0 : I64 X) (i1 : I64 Y) (i2 : I64 R) (i3 : I64 X2) (i4 : I64 Y2) (i5 : I64 R2) (hc : ¬ addF R R2 ≤ lenV (subV (X2, Y2) (X, Y))) (h0 : 0 < lenV (subV (X2, Y2) (X, Y))) :
    Calls Try.prog 23 #[bodyV 0 X Y 0 0 A 0 0 1 R (.slice none 0 0), bodyV 0 X2 Y2 0 0 A2 0 0 1 R2 (.slice none 0 0)] w (TouchQ (roundsF (X, Y) R (X2, Y2) R2) w) := by
  obtain ⟨dx, ex⟩ : ∃ x, subF X2 X = x := ⟨_, rfl⟩
  obtain ⟨dy, ey⟩ : ∃ x, subF Y2 Y = x := ⟨_, rfl⟩
  have eD : subV (X2, Y2) (X, Y) = (dx, dy) := by unfold subV; simp only []; rw [ex, ey]
  have ix : I64 dx := by rw [← ex]; exact i64_sub _ _
  have iy : I64 dy := by rw [← ey]; exact i64_sub _ _
  obtain ⟨n, en⟩ : ∃ x, lenF dx dy = x := ⟨_, rfl⟩
  have eN : lenV (subV (X2, Y2) (X, Y)) = n := by rw [eD]; exact en
  have in_ : I64 n := by rw [← en]; exact i64_sqrt _
  obtain ⟨r, er⟩ : ∃ x, addF R R2 = x := ⟨_, rfl⟩
  have ir : I64 r := by rw [← er]; exact i64_add _ _
  rw [eN, er] at hc
  rw [eN] at h0
  obtain ⟨dep, ed⟩ : ∃ x, subF r n = x := ⟨_, rfl⟩
  have idp : I64 dep := by rw [← ed]; exact i64_sub _ _
  obtain ⟨h, eh⟩ : ∃ x, divF dep 8589934592 = x := ⟨_, rfl⟩
  have ih : I64 h := by rw [← eh]; exact i64_div _ _
  have i8 : I64 8589934592 := by unfold I64; omega
  have i22 : I64 2 := by unfold I64; omega
  have e2 : Hid (ofF 2 = 8589934592) := by unfold Hid ofF; rw [if_neg (by omega), if_neg (by omega)]; rfl
  obtain ⟨s, es⟩ : ∃ x, subF R h = x := ⟨_, rfl⟩
  have is_ : I64 s := by rw [← es]; exact i64_sub _ _
  obtain ⟨u, eu⟩ : ∃ x, divF dx n = x := ⟨_, rfl⟩
  obtain ⟨v, ev⟩ : ∃ x, divF dy n = x := ⟨_, rfl⟩
  have iu : I64 u := by rw [← eu]; exact i64_div _ _
  have iv : I64 v := by rw [← ev]; exact i64_div _ _
  have eU : roundsN (X, Y) (X2, Y2) = (u, v) := by unfold roundsN; rw [eN, if_pos h0, eD]; unfold unitP uF; simp only []; rw [en, if_neg (by omega), eu, ev]
  have eUn : unitV dx dy = .tuple #[vecV u v, .bool true] := by unfold unitV; rw [en, if_neg (by omega), eu, ev]
  have EUn := hid eUn
  obtain ⟨p, ep⟩ : ∃ x, mulF u s = x := ⟨_, rfl⟩
  obtain ⟨q, eq⟩ : ∃ x, mulF v s = x := ⟨_, rfl⟩
  have ip : I64 p := by rw [← ep]; exact i64_mul _ _
  have iq : I64 q := by rw [← eq]; exact i64_mul _ _
  obtain ⟨ax, ea⟩ : ∃ x, addF X p = x := ⟨_, rfl⟩
  obtain ⟨ay, eb⟩ : ∃ x, addF Y q = x := ⟨_, rfl⟩
  have HW : Hid (roundsF (X, Y) R (X2, Y2) R2 = some (oneT (u, v) (ax, ay) dep 0)) := by
    unfold Hid roundsF
    rw [eN, er, if_neg hc, eU, ed, eh, es]
    unfold scaV addV
    simp only []
    rw [ep, eq, ea, eb]
  rw [HW.out]
  have ED := hid ed; have EH := hid eh; have ES := hid es; have EP := hid ep; have EQ := hid eq; have EA := hid ea; have EB := hid eb
  clear HW ed eh es ep eq ea eb eU eUn h0 eu ev
  have EX := hid ex; have EY := hid ey; have EN := hid en; have ER := hid er
  clear ex ey en er eN eD
  go_enter Try.func23, Try.ntmps23
  go_wp2_with fail
  refine (vsub_is X2 Y2 X Y dx dy _ i3 i4 i0 i1 EX.out EY.out).mono ?_
  rintro e w1 ⟨rfl, k1⟩
  have a1 := k1.reads (p := ⟨w.heap.size, 1, none⟩) (x := .int .i64 X) (by go_simp)
  have a2 := k1.reads (p := ⟨w.heap.size, 2, none⟩) (x := .int .i64 Y) (by go_simp)
  have a9 := k1.reads (p := ⟨w.heap.size, 9, none⟩) (x := .int .i64 R) (by go_simp)
  have b9 := k1.reads (p := ⟨w.heap.size + 1, 9, none⟩) (x := .int .i64 R2) (by go_simp)
  have o0 := k1.reads (p := ⟨w.heap.size + 1 + 1, 0, none⟩) (x := .int .i64 0) (by go_simp)
  have o1 := k1.reads (p := ⟨w.heap.size + 1 + 1, 1, none⟩) (x := .int .i64 0) (by go_simp)
  have o2 := k1.reads (p := ⟨w.heap.size + 1 + 1, 2, none⟩) (x := .slice none 0 0) (by go_simp)
  have of_ : ∀ i, w1.frozen? ⟨w.heap.size + 1 + 1, i, none⟩ = false := fun i => (k1.2 _).trans (by go_simp)
  have lo1 : w.heap.size + 1 + 1 < w1.heap.size := World.block_lt_of_cell? _ _ o0
  have lb1 : w.heap.size + 1 < w1.heap.size := by omega
  have la1 : w.heap.size < w1.heap.size := by omega
  have M1 := hid (made_box (made_box (made_box k1)))
  clear k1
  go_wp2_with fail
  refine (add_is _ _ _ _ i2 i5 ER.out).mono ?_
  rintro e w2 ⟨rfl, rfl⟩
  go_wp2_with fail
  refine (vlen_is _ _ _ _ ix iy EN.out).mono ?_
  rintro e w3 ⟨rfl, k3⟩
  have a1 := k3.reads (cell_more a1)
  have a2 := k3.reads (cell_more a2)
  have a9 := k3.reads (cell_more a9)
  have o0 := k3.reads (cell_more o0)
  have o1 := k3.reads (cell_more o1)
  have o2 := k3.reads (cell_more o2)
  have of_ : ∀ i, w3.frozen? ⟨w.heap.size + 1 + 1, i, none⟩ = false := fun i => (k3.2 _).trans ((frozen?_alloc_cells _ _ _ _).trans (of_ i))
  have d0 := k3.reads (p := ⟨w1.heap.size, 0, none⟩) (x := .int .i64 dx) (by go_simp)
  have d1 := k3.reads (p := ⟨w1.heap.size, 1, none⟩) (x := .int .i64 dy) (by go_simp)
  have ld := World.block_lt_of_cell? _ _ d0
  have lo3 : w.heap.size + 1 + 1 < w3.heap.size := World.block_lt_of_cell? _ _ o0
  have M3 : Hid (Made w.heap.size w w3) := M1.out.then_ ((made_box k3).low M1.out.1.size)
  clear k3 b9 lb1 la1
  go_wp2_with fail
  refine (vunit_is dx dy _ _ ix iy EUn.out).mono ?_
  rintro e w4 ⟨rfl, k4⟩
  have a1 := k4.reads (a1)
  have a2 := k4.reads (a2)
  have a9 := k4.reads (a9)
  have o0 := k4.reads (o0)
  have o1 := k4.reads (o1)
  have o2 := k4.reads (o2)
  have of_ : ∀ i, w4.frozen? ⟨w.heap.size + 1 + 1, i, none⟩ = false := fun i => (k4.2 _).trans (of_ i)
  have lo4 : w.heap.size + 1 + 1 < w4.heap.size := World.block_lt_of_cell? _ _ o0
  have M4 : Hid (Made w.heap.size w w4) := M3.out.then_ (k4.low M3.out.1.size)
  clear k4 d0 d1 ld lo3 lo1
  go_wp2_with fail
  refine (sub_is r n dep _ ir in_ ED.out).mono ?_
  rintro e w6 ⟨rfl, rfl⟩
  go_upto_region 10 with fail
  obtain ⟨W, eW⟩ : ∃ W, W = w4.alloc (.cells #[.int .i64 u, .int .i64 v] 26) := ⟨_, rfl⟩
  have hN : Has W w4.heap.size 26 #[.int .i64 u, .int .i64 v] := by rw [eW]; exact has_new _ _ _
  have MW : Made w4.heap.size w4 W := by rw [eW]; exact (Made.rfl_ _ _).cells (Nat.le_refl _) _ _
  have a1 := MW.reads (a1)
  have a2 := MW.reads (a2)
  have a9 := MW.reads (a9)
  have o0 := MW.reads (o0)
  have o1 := MW.reads (o1)
  have o2 := MW.reads (o2)
  have of_ : ∀ i, W.frozen? ⟨w.heap.size + 1 + 1, i, none⟩ = false := fun i => (MW.2 _).trans (of_ i)
  have MW' : Hid (Made w.heap.size w W) := M4.out.then_ (MW.low M4.out.1.size)
  rw [← eW]
  clear eW MW
  have n0 := hN.at_ 0
  have n1 := hN.at_ 1
  simp at n0 n1
  refine reg_made (by kernel_rfl) (by kernel_rfl) ?_
  intro T hT f hf
  have a9' := Class.reads hf a9
  repeat (go_big_quiet_step ((first
    | (go_at_call 47; with_reducible exact hf.same (of_is _ _ _ i22 e2.out))
    | (go_at_call 46; with_reducible exact hf.drawn (div_is _ _ _ _ idp i8 EH.out))
    | (go_at_call 45; with_reducible exact hf.same (sub_is _ _ _ _ i2 ih ES.out)))))
  refine wpQuiet_nil ?_
  intro w6 h6
  have k6 := hf.here h6
  have a1 := k6.reads (a1)
  have a2 := k6.reads (a2)
  have o0 := k6.reads (o0)
  have o1 := k6.reads (o1)
  have o2 := k6.reads (o2)
  have n0 := k6.reads (n0)
  have n1 := k6.reads (n1)
  have of_ : ∀ i, w6.frozen? ⟨w.heap.size + 1 + 1, i, none⟩ = false := fun i => (k6.2 _).trans (of_ i)
  have M6 : Hid (Made w.heap.size w w6) := MW'.out.then_ (k6.low MW'.out.1.size)
  have ln6 : w4.heap.size < w6.heap.size := World.block_lt_of_cell? _ _ n0
  clear k6 h6 hf a9' a9 hN
  go_upto_region 11 with fail
  refine reg_float1 6 62 13 26 #[.int .i64 0, .int .i64 0] _ (by kernel_rfl) (by kernel_rfl) (by kernel_rfl) rfl rfl alc_V ?_
  apply Exists.intro
  refine ⟨?h3, ?h4⟩
  case h3 =>
    intro T' hT fw hf
    have a1 := Class.reads hf a1
    have a2 := Class.reads hf a2
    have n0 := Class.reads hf n0
    have n1 := Class.reads hf n1
    simp only [List.take_succ_cons, List.take_zero]
    repeat (go_big_quiet_step ((first
      | (go_at_call 48; with_reducible exact hf.made (vscale_is _ _ _ _ _ _ iu iv is_ EP.out EQ.out))
      | (go_at_call 16; with_reducible exact hf.made (vadd_is _ _ _ _ _ _ _ i0 i1 ip iq EA.out EB.out)))))
    exact wpQuiet_nil rfl
  intro g w9 k9 hg hh
  have hh0 := hh.at_ 0
  have hh1 := hh.at_ 1
  simp at hh0 hh1
  have hhf : ∀ i, w9.frozen? ⟨g, i, none⟩ = false := hh.free
  have o0 := k9.reads (o0)
  have o1 := k9.reads (o1)
  have o2 := k9.reads (o2)
  have n0 := k9.reads (n0)
  have n1 := k9.reads (n1)
  have of_ : ∀ i, w9.frozen? ⟨w.heap.size + 1 + 1, i, none⟩ = false := fun i => (k9.2 _).trans (of_ i)
  have M9 : Hid (Made w.heap.size w w9) := M6.out.then_ (k9.low M6.out.1.size)
  have ln9 : w4.heap.size < w9.heap.size := World.block_lt_of_cell? _ _ n0
  have lg9 : g < w9.heap.size := hh.here
  have hg0 : w.heap.size + 1 + 1 < g := by omega
  have hg1 : w4.heap.size < g := by omega
  clear k9
  simp only [List.drop_succ_cons, List.drop_zero]
  go_upto_region 12 with fail
  obtain ⟨Wa, eW⟩ : ∃ W, W = (w9.setCell ⟨g, 0, none⟩ (.int .i64 ax)).setCell ⟨g, 1, none⟩ (.int .i64 ay) := ⟨_, rfl⟩
  have hG : Has Wa g 26 #[.int .i64 ax, .int .i64 ay] := by rw [eW]; simpa using (hh.put 0 (.int .i64 ax)).put 1 (.int .i64 ay)
  have ne : ∀ j, j < g → j ≠ g := fun j hj => by omega
  have o0 : Wa.cell? ⟨w.heap.size + 1 + 1, 0, none⟩ = some (.int .i64 0) := by rw [eW]; exact cell_else (ne _ (by simp; omega)) (cell_else (ne _ (by simp; omega)) o0)
  have o1 : Wa.cell? ⟨w.heap.size + 1 + 1, 1, none⟩ = some (.int .i64 0) := by rw [eW]; exact cell_else (ne _ (by simp; omega)) (cell_else (ne _ (by simp; omega)) o1)
  have o2 : Wa.cell? ⟨w.heap.size + 1 + 1, 2, none⟩ = some (.slice none 0 0) := by rw [eW]; exact cell_else (ne _ (by simp; omega)) (cell_else (ne _ (by simp; omega)) o2)
  have n0 : Wa.cell? ⟨w4.heap.size, 0, none⟩ = some (.int .i64 u) := by rw [eW]; exact cell_else (ne _ (by simp; omega)) (cell_else (ne _ (by simp; omega)) n0)
  have n1 : Wa.cell? ⟨w4.heap.size, 1, none⟩ = some (.int .i64 v) := by rw [eW]; exact cell_else (ne _ (by simp; omega)) (cell_else (ne _ (by simp; omega)) n1)
  have of_ : ∀ i, Wa.frozen? ⟨w.heap.size + 1 + 1, i, none⟩ = false := fun i => by rw [eW]; simpa using of_ i
  have Ma : Hid (Made w.heap.size w Wa) := by unfold Hid; rw [eW]; exact (M9.out.put (by simp; omega) _).put (by simp; omega) _
  have lga : g < Wa.heap.size := hG.here
  have loa : w.heap.size + 1 + 1 < Wa.heap.size := World.block_lt_of_cell? _ _ o0
  rw [← eW]
  clear eW hh hh0 hh1 hhf
  have g0 := hG.at_ 0
  have g1 := hG.at_ 1
  simp at g0 g1
  go_wp2_with fail
  refine bodyPost_ret (v := .tuple #[tchV u v (some ⟨Wa.heap.size, 0, none⟩) 1 1, .bool true]) (by simp [results, Try.results23, go_sem, o0, o1, o2, loa]) rfl (touchq_one Ma.out.1.size ?_ ?_ ?_ ?_ ?_)
  any_goals go_simp
  have Mb := ((Ma.out.put (p := ⟨w.heap.size + 1 + 1, 0, none⟩) (by simp; try omega) (.int .i64 u)).put (p := ⟨w.heap.size + 1 + 1, 1, none⟩) (by simp; try omega) (.int .i64 v)).put (p := ⟨w.heap.size + 1 + 1, 2, none⟩) (by simp; try omega) (.slice (some ⟨Wa.heap.size, 0, none⟩) 1 1)
  exact Mb.cells Mb.1.size _ _

set_option maxRecDepth 100000 in
set_option maxHeartbeats 1500000 in
theorem tcircles_zero (X Y A R X2 Y2 A2 R2 : Int) (w : World) (i0 : I64 X) (i1 : I64 Y) (i2 : I64 R) (i3 : I64 X2) (i4 : I64 Y2) (i5 : I64 R2) (hc : ¬ addF R R2 ≤ lenV (subV (X2, Y2) (X, Y))) (h0 : ¬ 0 < lenV (subV (X2, Y2) (X, Y))) :
    Calls Try.prog 23 #[bodyV 0 X Y 0 0 A 0 0 1 R (.slice none 0 0), bodyV 0 X2 Y2 0 0 A2 0 0 1 R2 (.slice none 0 0)] w (TouchQ (roundsF (X, Y) R (X2, Y2) R2) w) := by
  obtain ⟨dx, ex⟩ : ∃ x, subF X2 X = x := ⟨_, rfl⟩
  obtain ⟨dy, ey⟩ : ∃ x, subF Y2 Y = x := ⟨_, rfl⟩
  have eD : subV (X2, Y2) (X, Y) = (dx, dy) := by unfold subV; simp only []; rw [ex, ey]
  have ix : I64 dx := by rw [← ex]; exact i64_sub _ _
  have iy : I64 dy := by rw [← ey]; exact i64_sub _ _
  obtain ⟨n, en⟩ : ∃ x, lenF dx dy = x := ⟨_, rfl⟩
  have eN : lenV (subV (X2, Y2) (X, Y)) = n := by rw [eD]; exact en
  have in_ : I64 n := by rw [← en]; exact i64_sqrt _
  obtain ⟨r, er⟩ : ∃ x, addF R R2 = x := ⟨_, rfl⟩
  have ir : I64 r := by rw [← er]; exact i64_add _ _
  rw [eN, er] at hc
  rw [eN] at h0
  obtain ⟨dep, ed⟩ : ∃ x, subF r n = x := ⟨_, rfl⟩
  have idp : I64 dep := by rw [← ed]; exact i64_sub _ _
  obtain ⟨h, eh⟩ : ∃ x, divF dep 8589934592 = x := ⟨_, rfl⟩
  have ih : I64 h := by rw [← eh]; exact i64_div _ _
  have i8 : I64 8589934592 := by unfold I64; omega
  have i22 : I64 2 := by unfold I64; omega
  have e2 : Hid (ofF 2 = 8589934592) := by unfold Hid ofF; rw [if_neg (by omega), if_neg (by omega)]; rfl
  obtain ⟨s, es⟩ : ∃ x, subF R h = x := ⟨_, rfl⟩
  have is_ : I64 s := by rw [← es]; exact i64_sub _ _
  have n0 : n = 0 := by
    have : 0 ≤ n := by rw [← en]; exact len_nn _ _
    omega
  have iu : I64 4294967296 := by unfold I64; omega
  have iv : I64 0 := by unfold I64; omega
  have eU : roundsN (X, Y) (X2, Y2) = (4294967296, 0) := by unfold roundsN; rw [eN, if_neg h0]
  have eUn : unitV dx dy = .tuple #[vecV 0 0, .bool false] := by unfold unitV; rw [en, if_pos n0]
  clear n0
  have EUn := hid eUn
  obtain ⟨p, ep⟩ : ∃ x, mulF 4294967296 s = x := ⟨_, rfl⟩
  obtain ⟨q, eq⟩ : ∃ x, mulF 0 s = x := ⟨_, rfl⟩
  have ip : I64 p := by rw [← ep]; exact i64_mul _ _
  have iq : I64 q := by rw [← eq]; exact i64_mul _ _
  obtain ⟨ax, ea⟩ : ∃ x, addF X p = x := ⟨_, rfl⟩
  obtain ⟨ay, eb⟩ : ∃ x, addF Y q = x := ⟨_, rfl⟩
  have HW : Hid (roundsF (X, Y) R (X2, Y2) R2 = some (oneT (4294967296, 0) (ax, ay) dep 0)) := by
    unfold Hid roundsF
    rw [eN, er, if_neg hc, eU, ed, eh, es]
    unfold scaV addV
    simp only []
    rw [ep, eq, ea, eb]
  rw [HW.out]
  have ED := hid ed; have EH := hid eh; have ES := hid es; have EP := hid ep; have EQ := hid eq; have EA := hid ea; have EB := hid eb
  clear HW ed eh es ep eq ea eb eU eUn h0
  have EX := hid ex; have EY := hid ey; have EN := hid en; have ER := hid er
  clear ex ey en er eN eD
  go_enter Try.func23, Try.ntmps23
  go_wp2_with fail
  refine (vsub_is X2 Y2 X Y dx dy _ i3 i4 i0 i1 EX.out EY.out).mono ?_
  rintro e w1 ⟨rfl, k1⟩
  have a1 := k1.reads (p := ⟨w.heap.size, 1, none⟩) (x := .int .i64 X) (by go_simp)
  have a2 := k1.reads (p := ⟨w.heap.size, 2, none⟩) (x := .int .i64 Y) (by go_simp)
  have a9 := k1.reads (p := ⟨w.heap.size, 9, none⟩) (x := .int .i64 R) (by go_simp)
  have b9 := k1.reads (p := ⟨w.heap.size + 1, 9, none⟩) (x := .int .i64 R2) (by go_simp)
  have o0 := k1.reads (p := ⟨w.heap.size + 1 + 1, 0, none⟩) (x := .int .i64 0) (by go_simp)
  have o1 := k1.reads (p := ⟨w.heap.size + 1 + 1, 1, none⟩) (x := .int .i64 0) (by go_simp)
  have o2 := k1.reads (p := ⟨w.heap.size + 1 + 1, 2, none⟩) (x := .slice none 0 0) (by go_simp)
  have of_ : ∀ i, w1.frozen? ⟨w.heap.size + 1 + 1, i, none⟩ = false := fun i => (k1.2 _).trans (by go_simp)
  have lo1 : w.heap.size + 1 + 1 < w1.heap.size := World.block_lt_of_cell? _ _ o0
  have lb1 : w.heap.size + 1 < w1.heap.size := by omega
  have la1 : w.heap.size < w1.heap.size := by omega
  have M1 := hid (made_box (made_box (made_box k1)))
  clear k1
  go_wp2_with fail
  refine (add_is _ _ _ _ i2 i5 ER.out).mono ?_
  rintro e w2 ⟨rfl, rfl⟩
  go_wp2_with fail
  refine (vlen_is _ _ _ _ ix iy EN.out).mono ?_
  rintro e w3 ⟨rfl, k3⟩
  have a1 := k3.reads (cell_more a1)
  have a2 := k3.reads (cell_more a2)
  have a9 := k3.reads (cell_more a9)
  have o0 := k3.reads (cell_more o0)
  have o1 := k3.reads (cell_more o1)
  have o2 := k3.reads (cell_more o2)
  have of_ : ∀ i, w3.frozen? ⟨w.heap.size + 1 + 1, i, none⟩ = false := fun i => (k3.2 _).trans ((frozen?_alloc_cells _ _ _ _).trans (of_ i))
  have d0 := k3.reads (p := ⟨w1.heap.size, 0, none⟩) (x := .int .i64 dx) (by go_simp)
  have d1 := k3.reads (p := ⟨w1.heap.size, 1, none⟩) (x := .int .i64 dy) (by go_simp)
  have ld := World.block_lt_of_cell? _ _ d0
  have lo3 : w.heap.size + 1 + 1 < w3.heap.size := World.block_lt_of_cell? _ _ o0
  have M3 : Hid (Made w.heap.size w w3) := M1.out.then_ ((made_box k3).low M1.out.1.size)
  clear k3 b9 lb1 la1
  go_wp2_with fail
  refine (vunit_is dx dy _ _ ix iy EUn.out).mono ?_
  rintro e w4 ⟨rfl, k4⟩
  have a1 := k4.reads (a1)
  have a2 := k4.reads (a2)
  have a9 := k4.reads (a9)
  have o0 := k4.reads (o0)
  have o1 := k4.reads (o1)
  have o2 := k4.reads (o2)
  have of_ : ∀ i, w4.frozen? ⟨w.heap.size + 1 + 1, i, none⟩ = false := fun i => (k4.2 _).trans (of_ i)
  have lo4 : w.heap.size + 1 + 1 < w4.heap.size := World.block_lt_of_cell? _ _ o0
  have M4 : Hid (Made w.heap.size w w4) := M3.out.then_ (k4.low M3.out.1.size)
  clear k4 d0 d1 ld lo3 lo1
  go_wp2_with fail
  refine (sub_is r n dep _ ir in_ ED.out).mono ?_
  rintro e w6 ⟨rfl, rfl⟩
  go_upto_region 10 with fail
  obtain ⟨W, eW⟩ : ∃ W, W = w4.alloc (.cells #[.int .i64 4294967296, .int .i64 0] 26) := ⟨_, rfl⟩
  have hN : Has W w4.heap.size 26 #[.int .i64 4294967296, .int .i64 0] := by rw [eW]; exact has_new _ _ _
  have MW : Made w4.heap.size w4 W := by rw [eW]; exact (Made.rfl_ _ _).cells (Nat.le_refl _) _ _
  have a1 := MW.reads (a1)
  have a2 := MW.reads (a2)
  have a9 := MW.reads (a9)
  have o0 := MW.reads (o0)
  have o1 := MW.reads (o1)
  have o2 := MW.reads (o2)
  have of_ : ∀ i, W.frozen? ⟨w.heap.size + 1 + 1, i, none⟩ = false := fun i => (MW.2 _).trans (of_ i)
  have MW' : Hid (Made w.heap.size w W) := M4.out.then_ (MW.low M4.out.1.size)
  rw [← eW]
  clear eW MW
  have n0 := hN.at_ 0
  have n1 := hN.at_ 1
  simp at n0 n1
  refine reg_made (by kernel_rfl) (by kernel_rfl) ?_
  intro T hT f hf
  have a9' := Class.reads hf a9
  repeat (go_big_quiet_step ((first
    | (go_at_call 47; with_reducible exact hf.same (of_is _ _ _ i22 e2.out))
    | (go_at_call 46; with_reducible exact hf.drawn (div_is _ _ _ _ idp i8 EH.out))
    | (go_at_call 45; with_reducible exact hf.same (sub_is _ _ _ _ i2 ih ES.out)))))
  refine wpQuiet_nil ?_
  intro w6 h6
  have k6 := hf.here h6
  have a1 := k6.reads (a1)
  have a2 := k6.reads (a2)
  have o0 := k6.reads (o0)
  have o1 := k6.reads (o1)
  have o2 := k6.reads (o2)
  have n0 := k6.reads (n0)
  have n1 := k6.reads (n1)
  have of_ : ∀ i, w6.frozen? ⟨w.heap.size + 1 + 1, i, none⟩ = false := fun i => (k6.2 _).trans (of_ i)
  have M6 : Hid (Made w.heap.size w w6) := MW'.out.then_ (k6.low MW'.out.1.size)
  have ln6 : w4.heap.size < w6.heap.size := World.block_lt_of_cell? _ _ n0
  clear k6 h6 hf a9' a9 hN
  go_upto_region 11 with fail
  refine reg_float1 6 62 13 26 #[.int .i64 0, .int .i64 0] _ (by kernel_rfl) (by kernel_rfl) (by kernel_rfl) rfl rfl alc_V ?_
  apply Exists.intro
  refine ⟨?h3, ?h4⟩
  case h3 =>
    intro T' hT fw hf
    have a1 := Class.reads hf a1
    have a2 := Class.reads hf a2
    have n0 := Class.reads hf n0
    have n1 := Class.reads hf n1
    simp only [List.take_succ_cons, List.take_zero]
    repeat (go_big_quiet_step ((first
      | (go_at_call 48; with_reducible exact hf.made (vscale_is _ _ _ _ _ _ iu iv is_ EP.out EQ.out))
      | (go_at_call 16; with_reducible exact hf.made (vadd_is _ _ _ _ _ _ _ i0 i1 ip iq EA.out EB.out)))))
    exact wpQuiet_nil rfl
  intro g w9 k9 hg hh
  have hh0 := hh.at_ 0
  have hh1 := hh.at_ 1
  simp at hh0 hh1
  have hhf : ∀ i, w9.frozen? ⟨g, i, none⟩ = false := hh.free
  have o0 := k9.reads (o0)
  have o1 := k9.reads (o1)
  have o2 := k9.reads (o2)
  have n0 := k9.reads (n0)
  have n1 := k9.reads (n1)
  have of_ : ∀ i, w9.frozen? ⟨w.heap.size + 1 + 1, i, none⟩ = false := fun i => (k9.2 _).trans (of_ i)
  have M9 : Hid (Made w.heap.size w w9) := M6.out.then_ (k9.low M6.out.1.size)
  have ln9 : w4.heap.size < w9.heap.size := World.block_lt_of_cell? _ _ n0
  have lg9 : g < w9.heap.size := hh.here
  have hg0 : w.heap.size + 1 + 1 < g := by omega
  have hg1 : w4.heap.size < g := by omega
  clear k9
  simp only [List.drop_succ_cons, List.drop_zero]
  go_upto_region 12 with fail
  obtain ⟨Wa, eW⟩ : ∃ W, W = (w9.setCell ⟨g, 0, none⟩ (.int .i64 ax)).setCell ⟨g, 1, none⟩ (.int .i64 ay) := ⟨_, rfl⟩
  have hG : Has Wa g 26 #[.int .i64 ax, .int .i64 ay] := by rw [eW]; simpa using (hh.put 0 (.int .i64 ax)).put 1 (.int .i64 ay)
  have ne : ∀ j, j < g → j ≠ g := fun j hj => by omega
  have o0 : Wa.cell? ⟨w.heap.size + 1 + 1, 0, none⟩ = some (.int .i64 0) := by rw [eW]; exact cell_else (ne _ (by simp; omega)) (cell_else (ne _ (by simp; omega)) o0)
  have o1 : Wa.cell? ⟨w.heap.size + 1 + 1, 1, none⟩ = some (.int .i64 0) := by rw [eW]; exact cell_else (ne _ (by simp; omega)) (cell_else (ne _ (by simp; omega)) o1)
  have o2 : Wa.cell? ⟨w.heap.size + 1 + 1, 2, none⟩ = some (.slice none 0 0) := by rw [eW]; exact cell_else (ne _ (by simp; omega)) (cell_else (ne _ (by simp; omega)) o2)
  have n0 : Wa.cell? ⟨w4.heap.size, 0, none⟩ = some (.int .i64 4294967296) := by rw [eW]; exact cell_else (ne _ (by simp; omega)) (cell_else (ne _ (by simp; omega)) n0)
  have n1 : Wa.cell? ⟨w4.heap.size, 1, none⟩ = some (.int .i64 0) := by rw [eW]; exact cell_else (ne _ (by simp; omega)) (cell_else (ne _ (by simp; omega)) n1)
  have of_ : ∀ i, Wa.frozen? ⟨w.heap.size + 1 + 1, i, none⟩ = false := fun i => by rw [eW]; simpa using of_ i
  have Ma : Hid (Made w.heap.size w Wa) := by unfold Hid; rw [eW]; exact (M9.out.put (by simp; omega) _).put (by simp; omega) _
  have lga : g < Wa.heap.size := hG.here
  have loa : w.heap.size + 1 + 1 < Wa.heap.size := World.block_lt_of_cell? _ _ o0
  rw [← eW]
  clear eW hh hh0 hh1 hhf
  have g0 := hG.at_ 0
  have g1 := hG.at_ 1
  simp at g0 g1
  go_wp2_with fail
  refine bodyPost_ret (v := .tuple #[tchV 4294967296 0 (some ⟨Wa.heap.size, 0, none⟩) 1 1, .bool true]) (by simp [results, Try.results23, go_sem, o0, o1, o2, loa]) rfl (touchq_one Ma.out.1.size ?_ ?_ ?_ ?_ ?_)
  any_goals go_simp
  have Mb := ((Ma.out.put (p := ⟨w.heap.size + 1 + 1, 0, none⟩) (by simp; try omega) (.int .i64 4294967296)).put (p := ⟨w.heap.size + 1 + 1, 1, none⟩) (by simp; try omega) (.int .i64 0)).put (p := ⟨w.heap.size + 1 + 1, 2, none⟩) (by simp; try omega) (.slice (some ⟨Wa.heap.size, 0, none⟩) 1 1)
  exact Mb.cells Mb.1.size _ _

theorem tcircles_is (X Y A R X2 Y2 A2 R2 : Int) (w : World) (i0 : I64 X) (i1 : I64 Y) (i2 : I64 R) (i3 : I64 X2) (i4 : I64 Y2) (i5 : I64 R2) :
    Calls Try.prog 23 #[bodyV 0 X Y 0 0 A 0 0 1 R (.slice none 0 0), bodyV 0 X2 Y2 0 0 A2 0 0 1 R2 (.slice none 0 0)] w (TouchQ (roundsF (X, Y) R (X2, Y2) R2) w) := by
  by_cases hc : addF R R2 ≤ lenV (subV (X2, Y2) (X, Y))
  · exact tcircles_none X Y A R X2 Y2 A2 R2 w i0 i1 i2 i3 i4 i5 hc
  by_cases h0 : 0 < lenV (subV (X2, Y2) (X, Y))
  · exact tcircles_unit X Y A R X2 Y2 A2 R2 w i0 i1 i2 i3 i4 i5 hc h0
  · exact tcircles_zero X Y A R X2 Y2 A2 R2 w i0 i1 i2 i3 i4 i5 hc h0
end Go.Proofs.Ytmfkcdinfahjlaa.Fx
