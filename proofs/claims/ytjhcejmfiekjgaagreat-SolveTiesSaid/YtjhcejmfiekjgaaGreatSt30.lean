/- TgC SoW -/
import Derived.Test.YtjhcejmfiekjgaaGreatSt16
import Derived.Test.YtjhcejmfiekjgaaGreatSt20
import Derived.Test.YtjhcejmfiekjgaaGreatSt26
import Derived.Test.YtjhcejmfiekjgaaGreatSt29
set_option maxRecDepth 100000
set_option maxHeartbeats 64000000
/- Contracts of package touch: two circles, of any bodies. -/
namespace Go.Proofs.YtjhcejmfiekjgaaGreat.Fx
open Go.ChangeShapes Go.WideShapes Go.ChangeAt Go.RowKit
set_option linter.unusedVariables false
theorem Has.c11' {w : World} {g : Nat} {t : TypeId} {c0 c1 c2 c3 c4 c5 c6 c7 c8 c9 c10 : Value} (h : Has w g t #[c0, c1, c2, c3, c4, c5, c6, c7, c8, c9, c10]) : w.cell? ⟨g, 0, none⟩ = some c0 ∧ w.cell? ⟨g, 1, none⟩ = some c1 ∧ w.cell? ⟨g, 2, none⟩ = some c2 ∧ w.cell? ⟨g, 3, none⟩ = some c3 ∧ w.cell? ⟨g, 4, none⟩ = some c4 ∧ w.cell? ⟨g, 5, none⟩ = some c5 ∧ w.cell? ⟨g, 6, none⟩ = some c6 ∧ w.cell? ⟨g, 7, none⟩ = some c7 ∧ w.cell? ⟨g, 8, none⟩ = some c8 ∧ w.cell? ⟨g, 9, none⟩ = some c9 ∧ w.cell? ⟨g, 10, none⟩ = some c10 :=
 ⟨h.at_ 0, h.at_ 1, h.at_ 2, h.at_ 3, h.at_ 4, h.at_ 5, h.at_ 6, h.at_ 7, h.at_ 8, h.at_ 9, h.at_ 10⟩
theorem PtsT.putO' {w : World} {g O : Nat} {l : List Pnt} (h : PtsT w (some ⟨g, 0, none⟩) l) (hne : g ≠ O) (a b c : Value) : PtsT (((w.setCell ⟨O, 0, none⟩ a).setCell ⟨O, 1, none⟩ b).setCell ⟨O, 2, none⟩ c) (some ⟨g, 0, none⟩) l := fun hl => by
 obtain ⟨b', off, e, h⟩ := h hl
 simp at e
 obtain ⟨rfl, rfl⟩ := e
 exact ⟨g, 0, rfl, fun i p hi => ⟨cell_else hne (cell_else hne (cell_else hne (h i p hi).1)), cell_else hne (cell_else hne (cell_else hne (h i p hi).2.1)), cell_else hne (cell_else hne (cell_else hne (h i p hi).2.2.1)), cell_else hne (cell_else hne (cell_else hne (h i p hi).2.2.2))⟩⟩
theorem gtround_is {I1 U1 V1 S1 D1 : Int} (X Y A K R : Int) (s : Value) (k : Bool) (ek : (K == 1) = k) (w : World) :
  Calls Tryz.prog 110 #[bodyV I1 X Y U1 V1 A S1 D1 K R s] w fun e w' => e = .returned (.bool k) ∧ Made w.heap.size w w' := by
 go_enter Tryz.func110, Tryz.ntmps110
 go_wp2_with fail
 go_ret
 exact ⟨rfl, (Made.rfl_ _ _).cells (Nat.le_refl _) _ _⟩
theorem gtcircles_none {I1 U1 V1 S1 D1 I2 U2 V2 S2 D2 : Int} {ao1 ao2 : Option Addr} {cp1 cp2 : Nat} (X Y A R X2 Y2 A2 R2 : Int) (w : World) (i0 : I64 X) (i1 : I64 Y) (i2 : I64 R) (i3 : I64 X2) (i4 : I64 Y2) (i5 : I64 R2) (hc : addF R R2 ≤ lenV (subV (X2, Y2) (X, Y))) :
  Calls Tryz.prog 111 #[bodyV I1 X Y U1 V1 A S1 D1 1 R (.slice ao1 0 cp1), bodyV I2 X2 Y2 U2 V2 A2 S2 D2 1 R2 (.slice ao2 0 cp2)] w (TouchQ (roundsF (X, Y) R (X2, Y2) R2) w) := by
 obtain ⟨dx, ex⟩ : ∃ x, subF X2 X = x := ⟨_, rfl⟩
 obtain ⟨dy, ey⟩ : ∃ x, subF Y2 Y = x := ⟨_, rfl⟩
 have eD : subV (X2, Y2) (X, Y) = (dx, dy) := by unfold subV; simp only []; rw [ex, ey]
 have ix : I64 dx := by rw [← ex]; exact i64_sub _ _
 have iy : I64 dy := by rw [← ey]; exact i64_sub _ _
 obtain ⟨n, en⟩ : ∃ x, lenF dx dy = x := ⟨_, rfl⟩
 have eN : lenV (subV (X2, Y2) (X, Y)) = n := by rw [eD]; exact en
 have in_ : I64 n := by rw [← en]; exact i64_sqrt _
 obtain ⟨r, er⟩ : ∃ x, addF R R2 = x := ⟨_, rfl⟩
 have ir : I64 r := by rw [← er]; exact i64_add _ _
 rw [eN, er] at hc
 have HW : Hid (roundsF (X, Y) R (X2, Y2) R2 = none) := by unfold Hid roundsF; rw [eN, er, if_pos hc]
 rw [HW.out]
 clear HW
 have EX := hid ex; have EY := hid ey; have EN := hid en; have ER := hid er
 clear ex ey en er eN eD
 go_enter Tryz.func111, Tryz.ntmps111
 go_wp2_with fail
 refine (vsub_is X2 Y2 X Y dx dy _ i3 i4 i0 i1 EX.out EY.out).mono ?_
 rintro e w1 ⟨rfl, k1⟩
 have a1 := k1.reads (p := ⟨w.heap.size, 1, none⟩) (x := .int .i64 X) (by go_simp)
 have a2 := k1.reads (p := ⟨w.heap.size, 2, none⟩) (x := .int .i64 Y) (by go_simp)
 have a9 := k1.reads (p := ⟨w.heap.size, 9, none⟩) (x := .int .i64 R) (by go_simp)
 have b9 := k1.reads (p := ⟨w.heap.size + 1, 9, none⟩) (x := .int .i64 R2) (by go_simp)
 have o0 := k1.reads (p := ⟨w.heap.size + 1 + 1, 0, none⟩) (x := .int .i64 0) (by go_simp)
 have o1 := k1.reads (p := ⟨w.heap.size + 1 + 1, 1, none⟩) (x := .int .i64 0) (by go_simp)
 have o2 := k1.reads (p := ⟨w.heap.size + 1 + 1, 2, none⟩) (x := .slice none 0 0) (by go_simp)
 have of_ : ∀ i, w1.frozen? ⟨w.heap.size + 1 + 1, i, none⟩ = false := fun i => (k1.2 _).trans (by go_simp)
 have lo1 : w.heap.size + 1 + 1 < w1.heap.size := World.block_lt_of_cell? _ _ o0
 have lb1 : w.heap.size + 1 < w1.heap.size := by omega
 have la1 : w.heap.size < w1.heap.size := by omega
 have M1 := hid (made_box (made_box (made_box k1)))
 clear k1
 go_wp2_with fail
 refine (add_is _ _ _ _ i2 i5 ER.out).mono ?_
 rintro e w2 ⟨rfl, rfl⟩
 go_wp2_with fail
 refine (vlen_is _ _ _ _ ix iy EN.out).mono ?_
 rintro e w3 ⟨rfl, k3⟩
 have o0 := k3.reads (cell_more o0)
 have o1 := k3.reads (cell_more o1)
 have o2 := k3.reads (cell_more o2)
 have of_ : ∀ i, w3.frozen? ⟨w.heap.size + 1 + 1, i, none⟩ = false := fun i => (k3.2 _).trans ((frozen?_alloc_cells _ _ _ _).trans (of_ i))
 have d0 := k3.reads (p := ⟨w1.heap.size, 0, none⟩) (x := .int .i64 dx) (by go_simp)
 have d1 := k3.reads (p := ⟨w1.heap.size, 1, none⟩) (x := .int .i64 dy) (by go_simp)
 have ld := World.block_lt_of_cell? _ _ d0
 have lo3 : w.heap.size + 1 + 1 < w3.heap.size := World.block_lt_of_cell? _ _ o0
 have M3 : Hid (Made w.heap.size w w3) := M1.out.then_ ((made_box k3).low M1.out.1.size)
 clear k3 b9 lb1 la1
 go_wp2_with fail
 refine bodyPost_ret (v := .tuple #[tchV 0 0 none 0 0, .bool false]) (by simp [results, Tryz.results111, go_sem, o0, o1, o2]) rfl (touchq_none (by simp; omega) ?_)
 exact ((M3.out.put (by simp; try omega) _).put (by simp; try omega) _).put (by simp; try omega) _
theorem gtcircles_unit {I1 U1 V1 S1 D1 I2 U2 V2 S2 D2 : Int} {ao1 ao2 : Option Addr} {cp1 cp2 : Nat} (X Y A R X2 Y2 A2 R2 : Int) (w : World) (i0 : I64 X) (i1 : I64 Y) (i2 : I64 R) (i3 : I64 X2) (i4 : I64 Y2) (i5 : I64 R2) (hc : ¬ addF R R2 ≤ lenV (subV (X2, Y2) (X, Y))) (h0 : 0 < lenV (subV (X2, Y2) (X, Y))) :
  Calls Tryz.prog 111 #[bodyV I1 X Y U1 V1 A S1 D1 1 R (.slice ao1 0 cp1), bodyV I2 X2 Y2 U2 V2 A2 S2 D2 1 R2 (.slice ao2 0 cp2)] w (TouchQ (roundsF (X, Y) R (X2, Y2) R2) w) := by
 obtain ⟨dx, ex⟩ : ∃ x, subF X2 X = x := ⟨_, rfl⟩
 obtain ⟨dy, ey⟩ : ∃ x, subF Y2 Y = x := ⟨_, rfl⟩
 have eD : subV (X2, Y2) (X, Y) = (dx, dy) := by unfold subV; simp only []; rw [ex, ey]
 have ix : I64 dx := by rw [← ex]; exact i64_sub _ _
 have iy : I64 dy := by rw [← ey]; exact i64_sub _ _
 obtain ⟨n, en⟩ : ∃ x, lenF dx dy = x := ⟨_, rfl⟩
 have eN : lenV (subV (X2, Y2) (X, Y)) = n := by rw [eD]; exact en
 have in_ : I64 n := by rw [← en]; exact i64_sqrt _
 obtain ⟨r, er⟩ : ∃ x, addF R R2 = x := ⟨_, rfl⟩
 have ir : I64 r := by rw [← er]; exact i64_add _ _
 rw [eN, er] at hc
 rw [eN] at h0
 obtain ⟨dep, ed⟩ : ∃ x, subF r n = x := ⟨_, rfl⟩
 have idp : I64 dep := by rw [← ed]; exact i64_sub _ _
 obtain ⟨h, eh⟩ : ∃ x, divF dep 8589934592 = x := ⟨_, rfl⟩
 have ih : I64 h := by rw [← eh]; exact i64_div _ _
 have i8 : I64 8589934592 := by unfold I64; omega
 have i22 : I64 2 := by unfold I64; omega
 have e2 : Hid (ofF 2 = 8589934592) := by unfold Hid ofF; rw [if_neg (by omega), if_neg (by omega)]; rfl
 obtain ⟨s, es⟩ : ∃ x, subF R h = x := ⟨_, rfl⟩
 have is_ : I64 s := by rw [← es]; exact i64_sub _ _
 obtain ⟨u, eu⟩ : ∃ x, divF dx n = x := ⟨_, rfl⟩
 obtain ⟨v, ev⟩ : ∃ x, divF dy n = x := ⟨_, rfl⟩
 have iu : I64 u := by rw [← eu]; exact i64_div _ _
 have iv : I64 v := by rw [← ev]; exact i64_div _ _
 have eU : roundsN (X, Y) (X2, Y2) = (u, v) := by unfold roundsN; rw [eN, if_pos h0, eD]; unfold unitP uF; simp only []; rw [en, if_neg (by omega), eu, ev]
 have eUn : unitV dx dy = .tuple #[vecV u v, .bool true] := by unfold unitV; rw [en, if_neg (by omega), eu, ev]
 have EUn := hid eUn
 obtain ⟨p, ep⟩ : ∃ x, mulF u s = x := ⟨_, rfl⟩
 obtain ⟨q, eq⟩ : ∃ x, mulF v s = x := ⟨_, rfl⟩
 have ip : I64 p := by rw [← ep]; exact i64_mul _ _
 have iq : I64 q := by rw [← eq]; exact i64_mul _ _
 obtain ⟨ax, ea⟩ : ∃ x, addF X p = x := ⟨_, rfl⟩
 obtain ⟨ay, eb⟩ : ∃ x, addF Y q = x := ⟨_, rfl⟩
 have HW : Hid (roundsF (X, Y) R (X2, Y2) R2 = some (oneT (u, v) (ax, ay) dep 0)) := by
  unfold Hid roundsF
  rw [eN, er, if_neg hc, eU, ed, eh, es]
  unfold scaV addV
  simp only []
  rw [ep, eq, ea, eb]
 rw [HW.out]
 have ED := hid ed; have EH := hid eh; have ES := hid es; have EP := hid ep; have EQ := hid eq; have EA := hid ea; have EB := hid eb
 clear HW ed eh es ep eq ea eb eU eUn h0 eu ev
 have EX := hid ex; have EY := hid ey; have EN := hid en; have ER := hid er
 clear ex ey en er eN eD
 go_enter Tryz.func111, Tryz.ntmps111
 go_wp2_with fail
 refine (vsub_is X2 Y2 X Y dx dy _ i3 i4 i0 i1 EX.out EY.out).mono ?_
 rintro e w1 ⟨rfl, k1⟩
 have a1 := k1.reads (p := ⟨w.heap.size, 1, none⟩) (x := .int .i64 X) (by go_simp)
 have a2 := k1.reads (p := ⟨w.heap.size, 2, none⟩) (x := .int .i64 Y) (by go_simp)
 have a9 := k1.reads (p := ⟨w.heap.size, 9, none⟩) (x := .int .i64 R) (by go_simp)
 have b9 := k1.reads (p := ⟨w.heap.size + 1, 9, none⟩) (x := .int .i64 R2) (by go_simp)
 have o0 := k1.reads (p := ⟨w.heap.size + 1 + 1, 0, none⟩) (x := .int .i64 0) (by go_simp)
 have o1 := k1.reads (p := ⟨w.heap.size + 1 + 1, 1, none⟩) (x := .int .i64 0) (by go_simp)
 have o2 := k1.reads (p := ⟨w.heap.size + 1 + 1, 2, none⟩) (x := .slice none 0 0) (by go_simp)
 have of_ : ∀ i, w1.frozen? ⟨w.heap.size + 1 + 1, i, none⟩ = false := fun i => (k1.2 _).trans (by go_simp)
 have lo1 : w.heap.size + 1 + 1 < w1.heap.size := World.block_lt_of_cell? _ _ o0
 have lb1 : w.heap.size + 1 < w1.heap.size := by omega
 have la1 : w.heap.size < w1.heap.size := by omega
 have M1 := hid (made_box (made_box (made_box k1)))
 clear k1
 go_wp2_with fail
 refine (add_is _ _ _ _ i2 i5 ER.out).mono ?_
 rintro e w2 ⟨rfl, rfl⟩
 go_wp2_with fail
 refine (vlen_is _ _ _ _ ix iy EN.out).mono ?_
 rintro e w3 ⟨rfl, k3⟩
 have a1 := k3.reads (cell_more a1)
 have a2 := k3.reads (cell_more a2)
 have a9 := k3.reads (cell_more a9)
 have o0 := k3.reads (cell_more o0)
 have o1 := k3.reads (cell_more o1)
 have o2 := k3.reads (cell_more o2)
 have of_ : ∀ i, w3.frozen? ⟨w.heap.size + 1 + 1, i, none⟩ = false := fun i => (k3.2 _).trans ((frozen?_alloc_cells _ _ _ _).trans (of_ i))
 have d0 := k3.reads (p := ⟨w1.heap.size, 0, none⟩) (x := .int .i64 dx) (by go_simp)
 have d1 := k3.reads (p := ⟨w1.heap.size, 1, none⟩) (x := .int .i64 dy) (by go_simp)
 have ld := World.block_lt_of_cell? _ _ d0
 have lo3 : w.heap.size + 1 + 1 < w3.heap.size := World.block_lt_of_cell? _ _ o0
 have M3 : Hid (Made w.heap.size w w3) := M1.out.then_ ((made_box k3).low M1.out.1.size)
 clear k3 b9 lb1 la1
 go_wp2_with fail
 refine (vunit_is dx dy _ _ ix iy EUn.out).mono ?_
 rintro e w4 ⟨rfl, k4⟩
 have a1 := k4.reads (a1)
 have a2 := k4.reads (a2)
 have a9 := k4.reads (a9)
 have o0 := k4.reads (o0)
 have o1 := k4.reads (o1)
 have o2 := k4.reads (o2)
 have of_ : ∀ i, w4.frozen? ⟨w.heap.size + 1 + 1, i, none⟩ = false := fun i => (k4.2 _).trans (of_ i)
 have lo4 : w.heap.size + 1 + 1 < w4.heap.size := World.block_lt_of_cell? _ _ o0
 have M4 : Hid (Made w.heap.size w w4) := M3.out.then_ (k4.low M3.out.1.size)
 clear k4 d0 d1 ld lo3 lo1
 go_wp2_with fail
 refine (sub_is r n dep _ ir in_ ED.out).mono ?_
 rintro e w6 ⟨rfl, rfl⟩
 go_upto_region 10 with fail
 obtain ⟨W, eW⟩ : ∃ W, W = w4.alloc (.cells #[.int .i64 u, .int .i64 v] 26) := ⟨_, rfl⟩
 have hN : Has W w4.heap.size 26 #[.int .i64 u, .int .i64 v] := by rw [eW]; exact has_new _ _ _
 have MW : Made w4.heap.size w4 W := by rw [eW]; exact (Made.rfl_ _ _).cells (Nat.le_refl _) _ _
 have a1 := MW.reads (a1)
 have a2 := MW.reads (a2)
 have a9 := MW.reads (a9)
 have o0 := MW.reads (o0)
 have o1 := MW.reads (o1)
 have o2 := MW.reads (o2)
 have of_ : ∀ i, W.frozen? ⟨w.heap.size + 1 + 1, i, none⟩ = false := fun i => (MW.2 _).trans (of_ i)
 have MW' : Hid (Made w.heap.size w W) := M4.out.then_ (MW.low M4.out.1.size)
 rw [← eW]
 clear eW MW
 have n0 := hN.at_ 0
 have n1 := hN.at_ 1
 simp at n0 n1
 refine reg_made (by kernel_rfl) (by kernel_rfl) ?_
 intro T hT f hf
 have a9' := Class.reads hf a9
 repeat (go_big_quiet_step ((first
  | (go_at_call 33; with_reducible exact hf.same (of_is _ _ _ i22 e2.out))
  | (go_at_call 29; with_reducible exact hf.drawn (div_is _ _ _ _ idp i8 EH.out))
  | (go_at_call 14; with_reducible exact hf.same (sub_is _ _ _ _ i2 ih ES.out)))))
 refine wpQuiet_nil ?_
 intro w6 h6
 have k6 := hf.here h6
 have a1 := k6.reads (a1)
 have a2 := k6.reads (a2)
 have o0 := k6.reads (o0)
 have o1 := k6.reads (o1)
 have o2 := k6.reads (o2)
 have n0 := k6.reads (n0)
 have n1 := k6.reads (n1)
 have of_ : ∀ i, w6.frozen? ⟨w.heap.size + 1 + 1, i, none⟩ = false := fun i => (k6.2 _).trans (of_ i)
 have M6 : Hid (Made w.heap.size w w6) := MW'.out.then_ (k6.low MW'.out.1.size)
 have ln6 : w4.heap.size < w6.heap.size := World.block_lt_of_cell? _ _ n0
 clear k6 h6 hf a9' a9 hN
 go_upto_region 11 with fail
 refine reg_float1 6 62 13 26 #[.int .i64 0, .int .i64 0] _ (by kernel_rfl) (by kernel_rfl) (by kernel_rfl) rfl rfl alc_V ?_
 apply Exists.intro
 refine ⟨?h3, ?h4⟩
 case h3 =>
  intro T' hT fw hf
  have a1 := Class.reads hf a1
  have a2 := Class.reads hf a2
  have n0 := Class.reads hf n0
  have n1 := Class.reads hf n1
  simp only [List.take_succ_cons, List.take_zero]
  repeat (go_big_quiet_step ((first
   | (go_at_call 85; with_reducible exact hf.made (vscale_is _ _ _ _ _ _ iu iv is_ EP.out EQ.out))
   | (go_at_call 10; with_reducible exact hf.made (vadd_is _ _ _ _ _ _ _ i0 i1 ip iq EA.out EB.out)))))
  exact wpQuiet_nil rfl
 intro g w9 k9 hg hh
 have hh0 := hh.at_ 0
 have hh1 := hh.at_ 1
 simp at hh0 hh1
 have hhf : ∀ i, w9.frozen? ⟨g, i, none⟩ = false := hh.free
 have o0 := k9.reads (o0)
 have o1 := k9.reads (o1)
 have o2 := k9.reads (o2)
 have n0 := k9.reads (n0)
 have n1 := k9.reads (n1)
 have of_ : ∀ i, w9.frozen? ⟨w.heap.size + 1 + 1, i, none⟩ = false := fun i => (k9.2 _).trans (of_ i)
 have M9 : Hid (Made w.heap.size w w9) := M6.out.then_ (k9.low M6.out.1.size)
 have ln9 : w4.heap.size < w9.heap.size := World.block_lt_of_cell? _ _ n0
 have lg9 : g < w9.heap.size := hh.here
 have hg0 : w.heap.size + 1 + 1 < g := by omega
 have hg1 : w4.heap.size < g := by omega
 clear k9
 simp only [List.drop_succ_cons, List.drop_zero]
 go_upto_region 12 with fail
 obtain ⟨Wa, eW⟩ : ∃ W, W = (w9.setCell ⟨g, 0, none⟩ (.int .i64 ax)).setCell ⟨g, 1, none⟩ (.int .i64 ay) := ⟨_, rfl⟩
 have hG : Has Wa g 26 #[.int .i64 ax, .int .i64 ay] := by rw [eW]; simpa using (hh.put 0 (.int .i64 ax)).put 1 (.int .i64 ay)
 have ne : ∀ j, j < g → j ≠ g := fun j hj => by omega
 have o0 : Wa.cell? ⟨w.heap.size + 1 + 1, 0, none⟩ = some (.int .i64 0) := by rw [eW]; exact cell_else (ne _ (by simp; omega)) (cell_else (ne _ (by simp; omega)) o0)
 have o1 : Wa.cell? ⟨w.heap.size + 1 + 1, 1, none⟩ = some (.int .i64 0) := by rw [eW]; exact cell_else (ne _ (by simp; omega)) (cell_else (ne _ (by simp; omega)) o1)
 have o2 : Wa.cell? ⟨w.heap.size + 1 + 1, 2, none⟩ = some (.slice none 0 0) := by rw [eW]; exact cell_else (ne _ (by simp; omega)) (cell_else (ne _ (by simp; omega)) o2)
 have n0 : Wa.cell? ⟨w4.heap.size, 0, none⟩ = some (.int .i64 u) := by rw [eW]; exact cell_else (ne _ (by simp; omega)) (cell_else (ne _ (by simp; omega)) n0)
 have n1 : Wa.cell? ⟨w4.heap.size, 1, none⟩ = some (.int .i64 v) := by rw [eW]; exact cell_else (ne _ (by simp; omega)) (cell_else (ne _ (by simp; omega)) n1)
 have of_ : ∀ i, Wa.frozen? ⟨w.heap.size + 1 + 1, i, none⟩ = false := fun i => by rw [eW]; simpa using of_ i
 have Ma : Hid (Made w.heap.size w Wa) := by unfold Hid; rw [eW]; exact (M9.out.put (by simp; omega) _).put (by simp; omega) _
 have lga : g < Wa.heap.size := hG.here
 have loa : w.heap.size + 1 + 1 < Wa.heap.size := World.block_lt_of_cell? _ _ o0
 rw [← eW]
 clear eW hh hh0 hh1 hhf
 have g0 := hG.at_ 0
 have g1 := hG.at_ 1
 simp at g0 g1
 go_wp2_with fail
 refine bodyPost_ret (v := .tuple #[tchV u v (some ⟨Wa.heap.size, 0, none⟩) 1 1, .bool true]) (by simp [results, Tryz.results111, go_sem, o0, o1, o2, loa]) rfl (touchq_one Ma.out.1.size ?_ ?_ ?_ ?_ ?_)
 any_goals go_simp
 have Mb := ((Ma.out.put (p := ⟨w.heap.size + 1 + 1, 0, none⟩) (by simp; try omega) (.int .i64 u)).put (p := ⟨w.heap.size + 1 + 1, 1, none⟩) (by simp; try omega) (.int .i64 v)).put (p := ⟨w.heap.size + 1 + 1, 2, none⟩) (by simp; try omega) (.slice (some ⟨Wa.heap.size, 0, none⟩) 1 1)
 exact Mb.cells Mb.1.size _ _
theorem gtcircles_zero {I1 U1 V1 S1 D1 I2 U2 V2 S2 D2 : Int} {ao1 ao2 : Option Addr} {cp1 cp2 : Nat} (X Y A R X2 Y2 A2 R2 : Int) (w : World) (i0 : I64 X) (i1 : I64 Y) (i2 : I64 R) (i3 : I64 X2) (i4 : I64 Y2) (i5 : I64 R2) (hc : ¬ addF R R2 ≤ lenV (subV (X2, Y2) (X, Y))) (h0 : ¬ 0 < lenV (subV (X2, Y2) (X, Y))) :
  Calls Tryz.prog 111 #[bodyV I1 X Y U1 V1 A S1 D1 1 R (.slice ao1 0 cp1), bodyV I2 X2 Y2 U2 V2 A2 S2 D2 1 R2 (.slice ao2 0 cp2)] w (TouchQ (roundsF (X, Y) R (X2, Y2) R2) w) := by
 obtain ⟨dx, ex⟩ : ∃ x, subF X2 X = x := ⟨_, rfl⟩
 obtain ⟨dy, ey⟩ : ∃ x, subF Y2 Y = x := ⟨_, rfl⟩
 have eD : subV (X2, Y2) (X, Y) = (dx, dy) := by unfold subV; simp only []; rw [ex, ey]
 have ix : I64 dx := by rw [← ex]; exact i64_sub _ _
 have iy : I64 dy := by rw [← ey]; exact i64_sub _ _
 obtain ⟨n, en⟩ : ∃ x, lenF dx dy = x := ⟨_, rfl⟩
 have eN : lenV (subV (X2, Y2) (X, Y)) = n := by rw [eD]; exact en
 have in_ : I64 n := by rw [← en]; exact i64_sqrt _
 obtain ⟨r, er⟩ : ∃ x, addF R R2 = x := ⟨_, rfl⟩
 have ir : I64 r := by rw [← er]; exact i64_add _ _
 rw [eN, er] at hc
 rw [eN] at h0
 obtain ⟨dep, ed⟩ : ∃ x, subF r n = x := ⟨_, rfl⟩
 have idp : I64 dep := by rw [← ed]; exact i64_sub _ _
 obtain ⟨h, eh⟩ : ∃ x, divF dep 8589934592 = x := ⟨_, rfl⟩
 have ih : I64 h := by rw [← eh]; exact i64_div _ _
 have i8 : I64 8589934592 := by unfold I64; omega
 have i22 : I64 2 := by unfold I64; omega
 have e2 : Hid (ofF 2 = 8589934592) := by unfold Hid ofF; rw [if_neg (by omega), if_neg (by omega)]; rfl
 obtain ⟨s, es⟩ : ∃ x, subF R h = x := ⟨_, rfl⟩
 have is_ : I64 s := by rw [← es]; exact i64_sub _ _
 have n0 : n = 0 := by
  have : 0 ≤ n := by rw [← en]; exact len_nn _ _
  omega
 have iu : I64 4294967296 := by unfold I64; omega
 have iv : I64 0 := by unfold I64; omega
 have eU : roundsN (X, Y) (X2, Y2) = (4294967296, 0) := by unfold roundsN; rw [eN, if_neg h0]
 have eUn : unitV dx dy = .tuple #[vecV 0 0, .bool false] := by unfold unitV; rw [en, if_pos n0]
 clear n0
 have EUn := hid eUn
 obtain ⟨p, ep⟩ : ∃ x, mulF 4294967296 s = x := ⟨_, rfl⟩
 obtain ⟨q, eq⟩ : ∃ x, mulF 0 s = x := ⟨_, rfl⟩
 have ip : I64 p := by rw [← ep]; exact i64_mul _ _
 have iq : I64 q := by rw [← eq]; exact i64_mul _ _
 obtain ⟨ax, ea⟩ : ∃ x, addF X p = x := ⟨_, rfl⟩
 obtain ⟨ay, eb⟩ : ∃ x, addF Y q = x := ⟨_, rfl⟩
 have HW : Hid (roundsF (X, Y) R (X2, Y2) R2 = some (oneT (4294967296, 0) (ax, ay) dep 0)) := by
  unfold Hid roundsF
  rw [eN, er, if_neg hc, eU, ed, eh, es]
  unfold scaV addV
  simp only []
  rw [ep, eq, ea, eb]
 rw [HW.out]
 have ED := hid ed; have EH := hid eh; have ES := hid es; have EP := hid ep; have EQ := hid eq; have EA := hid ea; have EB := hid eb
 clear HW ed eh es ep eq ea eb eU eUn h0
 have EX := hid ex; have EY := hid ey; have EN := hid en; have ER := hid er
 clear ex ey en er eN eD
 go_enter Tryz.func111, Tryz.ntmps111
 go_wp2_with fail
 refine (vsub_is X2 Y2 X Y dx dy _ i3 i4 i0 i1 EX.out EY.out).mono ?_
 rintro e w1 ⟨rfl, k1⟩
 have a1 := k1.reads (p := ⟨w.heap.size, 1, none⟩) (x := .int .i64 X) (by go_simp)
 have a2 := k1.reads (p := ⟨w.heap.size, 2, none⟩) (x := .int .i64 Y) (by go_simp)
 have a9 := k1.reads (p := ⟨w.heap.size, 9, none⟩) (x := .int .i64 R) (by go_simp)
 have b9 := k1.reads (p := ⟨w.heap.size + 1, 9, none⟩) (x := .int .i64 R2) (by go_simp)
 have o0 := k1.reads (p := ⟨w.heap.size + 1 + 1, 0, none⟩) (x := .int .i64 0) (by go_simp)
 have o1 := k1.reads (p := ⟨w.heap.size + 1 + 1, 1, none⟩) (x := .int .i64 0) (by go_simp)
 have o2 := k1.reads (p := ⟨w.heap.size + 1 + 1, 2, none⟩) (x := .slice none 0 0) (by go_simp)
 have of_ : ∀ i, w1.frozen? ⟨w.heap.size + 1 + 1, i, none⟩ = false := fun i => (k1.2 _).trans (by go_simp)
 have lo1 : w.heap.size + 1 + 1 < w1.heap.size := World.block_lt_of_cell? _ _ o0
 have lb1 : w.heap.size + 1 < w1.heap.size := by omega
 have la1 : w.heap.size < w1.heap.size := by omega
 have M1 := hid (made_box (made_box (made_box k1)))
 clear k1
 go_wp2_with fail
 refine (add_is _ _ _ _ i2 i5 ER.out).mono ?_
 rintro e w2 ⟨rfl, rfl⟩
 go_wp2_with fail
 refine (vlen_is _ _ _ _ ix iy EN.out).mono ?_
 rintro e w3 ⟨rfl, k3⟩
 have a1 := k3.reads (cell_more a1)
 have a2 := k3.reads (cell_more a2)
 have a9 := k3.reads (cell_more a9)
 have o0 := k3.reads (cell_more o0)
 have o1 := k3.reads (cell_more o1)
 have o2 := k3.reads (cell_more o2)
 have of_ : ∀ i, w3.frozen? ⟨w.heap.size + 1 + 1, i, none⟩ = false := fun i => (k3.2 _).trans ((frozen?_alloc_cells _ _ _ _).trans (of_ i))
 have d0 := k3.reads (p := ⟨w1.heap.size, 0, none⟩) (x := .int .i64 dx) (by go_simp)
 have d1 := k3.reads (p := ⟨w1.heap.size, 1, none⟩) (x := .int .i64 dy) (by go_simp)
 have ld := World.block_lt_of_cell? _ _ d0
 have lo3 : w.heap.size + 1 + 1 < w3.heap.size := World.block_lt_of_cell? _ _ o0
 have M3 : Hid (Made w.heap.size w w3) := M1.out.then_ ((made_box k3).low M1.out.1.size)
 clear k3 b9 lb1 la1
 go_wp2_with fail
 refine (vunit_is dx dy _ _ ix iy EUn.out).mono ?_
 rintro e w4 ⟨rfl, k4⟩
 have a1 := k4.reads (a1)
 have a2 := k4.reads (a2)
 have a9 := k4.reads (a9)
 have o0 := k4.reads (o0)
 have o1 := k4.reads (o1)
 have o2 := k4.reads (o2)
 have of_ : ∀ i, w4.frozen? ⟨w.heap.size + 1 + 1, i, none⟩ = false := fun i => (k4.2 _).trans (of_ i)
 have lo4 : w.heap.size + 1 + 1 < w4.heap.size := World.block_lt_of_cell? _ _ o0
 have M4 : Hid (Made w.heap.size w w4) := M3.out.then_ (k4.low M3.out.1.size)
 clear k4 d0 d1 ld lo3 lo1
 go_wp2_with fail
 refine (sub_is r n dep _ ir in_ ED.out).mono ?_
 rintro e w6 ⟨rfl, rfl⟩
 go_upto_region 10 with fail
 obtain ⟨W, eW⟩ : ∃ W, W = w4.alloc (.cells #[.int .i64 4294967296, .int .i64 0] 26) := ⟨_, rfl⟩
 have hN : Has W w4.heap.size 26 #[.int .i64 4294967296, .int .i64 0] := by rw [eW]; exact has_new _ _ _
 have MW : Made w4.heap.size w4 W := by rw [eW]; exact (Made.rfl_ _ _).cells (Nat.le_refl _) _ _
 have a1 := MW.reads (a1)
 have a2 := MW.reads (a2)
 have a9 := MW.reads (a9)
 have o0 := MW.reads (o0)
 have o1 := MW.reads (o1)
 have o2 := MW.reads (o2)
 have of_ : ∀ i, W.frozen? ⟨w.heap.size + 1 + 1, i, none⟩ = false := fun i => (MW.2 _).trans (of_ i)
 have MW' : Hid (Made w.heap.size w W) := M4.out.then_ (MW.low M4.out.1.size)
 rw [← eW]
 clear eW MW
 have n0 := hN.at_ 0
 have n1 := hN.at_ 1
 simp at n0 n1
 refine reg_made (by kernel_rfl) (by kernel_rfl) ?_
 intro T hT f hf
 have a9' := Class.reads hf a9
 repeat (go_big_quiet_step ((first
  | (go_at_call 33; with_reducible exact hf.same (of_is _ _ _ i22 e2.out))
  | (go_at_call 29; with_reducible exact hf.drawn (div_is _ _ _ _ idp i8 EH.out))
  | (go_at_call 14; with_reducible exact hf.same (sub_is _ _ _ _ i2 ih ES.out)))))
 refine wpQuiet_nil ?_
 intro w6 h6
 have k6 := hf.here h6
 have a1 := k6.reads (a1)
 have a2 := k6.reads (a2)
 have o0 := k6.reads (o0)
 have o1 := k6.reads (o1)
 have o2 := k6.reads (o2)
 have n0 := k6.reads (n0)
 have n1 := k6.reads (n1)
 have of_ : ∀ i, w6.frozen? ⟨w.heap.size + 1 + 1, i, none⟩ = false := fun i => (k6.2 _).trans (of_ i)
 have M6 : Hid (Made w.heap.size w w6) := MW'.out.then_ (k6.low MW'.out.1.size)
 have ln6 : w4.heap.size < w6.heap.size := World.block_lt_of_cell? _ _ n0
 clear k6 h6 hf a9' a9 hN
 go_upto_region 11 with fail
 refine reg_float1 6 62 13 26 #[.int .i64 0, .int .i64 0] _ (by kernel_rfl) (by kernel_rfl) (by kernel_rfl) rfl rfl alc_V ?_
 apply Exists.intro
 refine ⟨?h3, ?h4⟩
 case h3 =>
  intro T' hT fw hf
  have a1 := Class.reads hf a1
  have a2 := Class.reads hf a2
  have n0 := Class.reads hf n0
  have n1 := Class.reads hf n1
  simp only [List.take_succ_cons, List.take_zero]
  repeat (go_big_quiet_step ((first
   | (go_at_call 85; with_reducible exact hf.made (vscale_is _ _ _ _ _ _ iu iv is_ EP.out EQ.out))
   | (go_at_call 10; with_reducible exact hf.made (vadd_is _ _ _ _ _ _ _ i0 i1 ip iq EA.out EB.out)))))
  exact wpQuiet_nil rfl
 intro g w9 k9 hg hh
 have hh0 := hh.at_ 0
 have hh1 := hh.at_ 1
 simp at hh0 hh1
 have hhf : ∀ i, w9.frozen? ⟨g, i, none⟩ = false := hh.free
 have o0 := k9.reads (o0)
 have o1 := k9.reads (o1)
 have o2 := k9.reads (o2)
 have n0 := k9.reads (n0)
 have n1 := k9.reads (n1)
 have of_ : ∀ i, w9.frozen? ⟨w.heap.size + 1 + 1, i, none⟩ = false := fun i => (k9.2 _).trans (of_ i)
 have M9 : Hid (Made w.heap.size w w9) := M6.out.then_ (k9.low M6.out.1.size)
 have ln9 : w4.heap.size < w9.heap.size := World.block_lt_of_cell? _ _ n0
 have lg9 : g < w9.heap.size := hh.here
 have hg0 : w.heap.size + 1 + 1 < g := by omega
 have hg1 : w4.heap.size < g := by omega
 clear k9
 simp only [List.drop_succ_cons, List.drop_zero]
 go_upto_region 12 with fail
 obtain ⟨Wa, eW⟩ : ∃ W, W = (w9.setCell ⟨g, 0, none⟩ (.int .i64 ax)).setCell ⟨g, 1, none⟩ (.int .i64 ay) := ⟨_, rfl⟩
 have hG : Has Wa g 26 #[.int .i64 ax, .int .i64 ay] := by rw [eW]; simpa using (hh.put 0 (.int .i64 ax)).put 1 (.int .i64 ay)
 have ne : ∀ j, j < g → j ≠ g := fun j hj => by omega
 have o0 : Wa.cell? ⟨w.heap.size + 1 + 1, 0, none⟩ = some (.int .i64 0) := by rw [eW]; exact cell_else (ne _ (by simp; omega)) (cell_else (ne _ (by simp; omega)) o0)
 have o1 : Wa.cell? ⟨w.heap.size + 1 + 1, 1, none⟩ = some (.int .i64 0) := by rw [eW]; exact cell_else (ne _ (by simp; omega)) (cell_else (ne _ (by simp; omega)) o1)
 have o2 : Wa.cell? ⟨w.heap.size + 1 + 1, 2, none⟩ = some (.slice none 0 0) := by rw [eW]; exact cell_else (ne _ (by simp; omega)) (cell_else (ne _ (by simp; omega)) o2)
 have n0 : Wa.cell? ⟨w4.heap.size, 0, none⟩ = some (.int .i64 4294967296) := by rw [eW]; exact cell_else (ne _ (by simp; omega)) (cell_else (ne _ (by simp; omega)) n0)
 have n1 : Wa.cell? ⟨w4.heap.size, 1, none⟩ = some (.int .i64 0) := by rw [eW]; exact cell_else (ne _ (by simp; omega)) (cell_else (ne _ (by simp; omega)) n1)
 have of_ : ∀ i, Wa.frozen? ⟨w.heap.size + 1 + 1, i, none⟩ = false := fun i => by rw [eW]; simpa using of_ i
 have Ma : Hid (Made w.heap.size w Wa) := by unfold Hid; rw [eW]; exact (M9.out.put (by simp; omega) _).put (by simp; omega) _
 have lga : g < Wa.heap.size := hG.here
 have loa : w.heap.size + 1 + 1 < Wa.heap.size := World.block_lt_of_cell? _ _ o0
 rw [← eW]
 clear eW hh hh0 hh1 hhf
 have g0 := hG.at_ 0
 have g1 := hG.at_ 1
 simp at g0 g1
 go_wp2_with fail
 refine bodyPost_ret (v := .tuple #[tchV 4294967296 0 (some ⟨Wa.heap.size, 0, none⟩) 1 1, .bool true]) (by simp [results, Tryz.results111, go_sem, o0, o1, o2, loa]) rfl (touchq_one Ma.out.1.size ?_ ?_ ?_ ?_ ?_)
 any_goals go_simp
 have Mb := ((Ma.out.put (p := ⟨w.heap.size + 1 + 1, 0, none⟩) (by simp; try omega) (.int .i64 4294967296)).put (p := ⟨w.heap.size + 1 + 1, 1, none⟩) (by simp; try omega) (.int .i64 0)).put (p := ⟨w.heap.size + 1 + 1, 2, none⟩) (by simp; try omega) (.slice (some ⟨Wa.heap.size, 0, none⟩) 1 1)
 exact Mb.cells Mb.1.size _ _
theorem gtcircles_is {I1 U1 V1 S1 D1 I2 U2 V2 S2 D2 : Int} {ao1 ao2 : Option Addr} {cp1 cp2 : Nat} (X Y A R X2 Y2 A2 R2 : Int) (w : World) (i0 : I64 X) (i1 : I64 Y) (i2 : I64 R) (i3 : I64 X2) (i4 : I64 Y2) (i5 : I64 R2) :
  Calls Tryz.prog 111 #[bodyV I1 X Y U1 V1 A S1 D1 1 R (.slice ao1 0 cp1), bodyV I2 X2 Y2 U2 V2 A2 S2 D2 1 R2 (.slice ao2 0 cp2)] w (TouchQ (roundsF (X, Y) R (X2, Y2) R2) w) := by
 by_cases hc : addF R R2 ≤ lenV (subV (X2, Y2) (X, Y))
 ·exact gtcircles_none X Y A R X2 Y2 A2 R2 w i0 i1 i2 i3 i4 i5 hc
 by_cases h0 : 0 < lenV (subV (X2, Y2) (X, Y))
 ·exact gtcircles_unit X Y A R X2 Y2 A2 R2 w i0 i1 i2 i3 i4 i5 hc h0
 ·exact gtcircles_zero X Y A R X2 Y2 A2 R2 w i0 i1 i2 i3 i4 i5 hc h0
theorem gtof_ccn {I1 U1 V1 S1 D1 I2 U2 V2 S2 D2 : Int} {ao1 ao2 : Option Addr} {cp1 cp2 : Nat} (X Y A R X2 Y2 A2 R2 : Int) (w : World) (iX : I64 X) (iY : I64 Y) (iA : I64 A) (iX2 : I64 X2) (iY2 : I64 Y2) (iA2 : I64 A2) (iR : I64 R) (iR2 : I64 R2) (et : roundsF (X, Y) R (X2, Y2) R2 = none) :
  Calls Tryz.prog 79 #[bodyV I1 X Y U1 V1 A S1 D1 1 R (.slice ao1 0 cp1), bodyV I2 X2 Y2 U2 V2 A2 S2 D2 1 R2 (.slice ao2 0 cp2)] w (TouchQ none w) := by
 have HC := hid (fun w => gtcircles_is (I1 := I1) (U1 := U1) (V1 := V1) (S1 := S1) (D1 := D1) (ao1 := ao1) (cp1 := cp1) (I2 := I2) (U2 := U2) (V2 := V2) (S2 := S2) (D2 := D2) (ao2 := ao2) (cp2 := cp2) X Y A R X2 Y2 A2 R2 w iX iY iR iX2 iY2 iR2)
 rw [et] at HC
 clear et
 go_enter Tryz.func79, Tryz.ntmps79
 go_upto_region 1 with fail
 obtain ⟨W0, eW⟩ : ∃ W, W = ((w.alloc (.cells #[.int .i64 I1, .int .i64 X, .int .i64 Y, .int .i64 U1, .int .i64 V1, .int .i64 A, .int .i64 S1, .int .i64 D1, .int .i64 1, .int .i64 R, .slice ao1 0 cp1] 43)).alloc (.cells #[.int .i64 I2, .int .i64 X2, .int .i64 Y2, .int .i64 U2, .int .i64 V2, .int .i64 A2, .int .i64 S2, .int .i64 D2, .int .i64 1, .int .i64 R2, .slice ao2 0 cp2] 43)).alloc (.cells #[.int .i64 0, .int .i64 0, .slice none 0 0] 139) := ⟨_, rfl⟩
 have M0 : Hid (Made w.heap.size w W0) := by unfold Hid; rw [eW]; exact (((Made.rfl_ _ _).cells (Nat.le_refl _) _ _).cells (by simp) _ _).cells (by simp; omega) _ _
 have HA : Has W0 (w.heap.size) 43 #[.int .i64 I1, .int .i64 X, .int .i64 Y, .int .i64 U1, .int .i64 V1, .int .i64 A, .int .i64 S1, .int .i64 D1, .int .i64 1, .int .i64 R, .slice ao1 0 cp1] := by rw [eW]; exact ((has_new _ _ _).more _).more _
 have HB : Has W0 (w.heap.size + 1) 43 #[.int .i64 I2, .int .i64 X2, .int .i64 Y2, .int .i64 U2, .int .i64 V2, .int .i64 A2, .int .i64 S2, .int .i64 D2, .int .i64 1, .int .i64 R2, .slice ao2 0 cp2] := by rw [eW]; exact (has_next _ _ _ _).more _
 obtain ⟨a0, a1, a2, a3, a4, a5, a6, a7, a8, a9, a10⟩ := HA.c11'
 obtain ⟨c0, c1, c2, c3, c4, c5, c6, c7, c8, c9, c10⟩ := HB.c11'
 have o0 : W0.cell? ⟨w.heap.size + 1 + 1, 0, none⟩ = some (.int .i64 0) := by rw [eW]; go_simp
 have o1 : W0.cell? ⟨w.heap.size + 1 + 1, 1, none⟩ = some (.int .i64 0) := by rw [eW]; go_simp
 have o2 : W0.cell? ⟨w.heap.size + 1 + 1, 2, none⟩ = some (.slice none 0 0) := by rw [eW]; go_simp
 have of_ : ∀ i, W0.frozen? ⟨w.heap.size + 1 + 1, i, none⟩ = false := fun i => by rw [eW]; go_simp
 rw [← eW]
 clear eW
 go_wp2_with fail
 refine (gtround_is (I1 := I1) (U1 := U1) (V1 := V1) (S1 := S1) (D1 := D1) X Y A 1 (R) (.slice ao1 0 cp1) true (by decide) _).mono ?_
 rintro e w1 ⟨rfl, k1⟩
 have HA := HA.stays k1 HA.here
 have HB := HB.stays k1 HB.here
 obtain ⟨a0, a1, a2, a3, a4, a5, a6, a7, a8, a9, a10⟩ := HA.c11'
 obtain ⟨c0, c1, c2, c3, c4, c5, c6, c7, c8, c9, c10⟩ := HB.c11'
 have o0 := k1.reads o0
 have o1 := k1.reads o1
 have o2 := k1.reads o2
 have of_ : ∀ i, w1.frozen? ⟨w.heap.size + 1 + 1, i, none⟩ = false := fun i => (k1.2 _).trans (of_ i)
 have M1 : Hid (Made w.heap.size w w1) := M0.out.then_ (k1.low M0.out.1.size)
 clear k1
 go_wp2_with fail
 refine (gtround_is (I1 := I2) (U1 := U2) (V1 := V2) (S1 := S2) (D1 := D2) X2 Y2 A2 1 (R2) (.slice ao2 0 cp2) true (by decide) _).mono ?_
 rintro e w2 ⟨rfl, k1⟩
 have HA := HA.stays k1 HA.here
 have HB := HB.stays k1 HB.here
 obtain ⟨a0, a1, a2, a3, a4, a5, a6, a7, a8, a9, a10⟩ := HA.c11'
 obtain ⟨c0, c1, c2, c3, c4, c5, c6, c7, c8, c9, c10⟩ := HB.c11'
 have o0 := k1.reads o0
 have o1 := k1.reads o1
 have o2 := k1.reads o2
 have of_ : ∀ i, w2.frozen? ⟨w.heap.size + 1 + 1, i, none⟩ = false := fun i => (k1.2 _).trans (of_ i)
 have M2 : Hid (Made w.heap.size w w2) := M1.out.then_ (k1.low M1.out.1.size)
 clear k1
 have loc : w.heap.size + 1 + 1 < w2.heap.size := World.block_lt_of_cell? _ _ o0
 go_wp2_with fail
 refine (HC.out _).mono ?_
 intro e w9 hT
 have hk := hT.made
 have o0 := hk.reads o0
 have o1 := hk.reads o1
 have o2 := hk.reads o2
 have of_ : ∀ i, w9.frozen? ⟨w.heap.size + 1 + 1, i, none⟩ = false := fun i => (hk.2 _).trans (of_ i)
 have M9 : Hid (Made w.heap.size w w9) := M2.out.then_ (hk.low M2.out.1.size)
 have lo9 : w.heap.size + 1 + 1 < w9.heap.size := World.block_lt_of_cell? _ _ o0
 clear hk HA HB a0 a1 a2 a3 a4 a5 a6 a7 a8 a9 a10 c0 c1 c2 c3 c4 c5 c6 c7 c8 c9 c10
 obtain ⟨rfl, _⟩ := hT
 go_wp2_with fail
 refine bodyPost_ret (v := .tuple #[tchV 0 0 none 0 0, .bool false]) (by simp [results, Tryz.results79, go_sem, o0, o1, o2]) rfl (touchq_none (by simp; omega) ?_)
 exact ((M9.out.put (by simp; try omega) _).put (by simp; try omega) _).put (by simp; try omega) _
theorem gtof_ccs {I1 U1 V1 S1 D1 I2 U2 V2 S2 D2 : Int} {ao1 ao2 : Option Addr} {cp1 cp2 : Nat} (X Y A R X2 Y2 A2 R2 : Int) (w : World) (iX : I64 X) (iY : I64 Y) (iA : I64 A) (iX2 : I64 X2) (iY2 : I64 Y2) (iA2 : I64 A2) (iR : I64 R) (iR2 : I64 R2) (t : Tch) (et : roundsF (X, Y) R (X2, Y2) R2 = some t) :
  Calls Tryz.prog 79 #[bodyV I1 X Y U1 V1 A S1 D1 1 R (.slice ao1 0 cp1), bodyV I2 X2 Y2 U2 V2 A2 S2 D2 1 R2 (.slice ao2 0 cp2)] w (TouchQ (some t) w) := by
 obtain ⟨tx, ty, l⟩ := t
 have HC := hid (fun w => gtcircles_is (I1 := I1) (U1 := U1) (V1 := V1) (S1 := S1) (D1 := D1) (ao1 := ao1) (cp1 := cp1) (I2 := I2) (U2 := U2) (V2 := V2) (S2 := S2) (D2 := D2) (ao2 := ao2) (cp2 := cp2) X Y A R X2 Y2 A2 R2 w iX iY iR iX2 iY2 iR2)
 rw [et] at HC
 clear et
 go_enter Tryz.func79, Tryz.ntmps79
 go_upto_region 1 with fail
 obtain ⟨W0, eW⟩ : ∃ W, W = ((w.alloc (.cells #[.int .i64 I1, .int .i64 X, .int .i64 Y, .int .i64 U1, .int .i64 V1, .int .i64 A, .int .i64 S1, .int .i64 D1, .int .i64 1, .int .i64 R, .slice ao1 0 cp1] 43)).alloc (.cells #[.int .i64 I2, .int .i64 X2, .int .i64 Y2, .int .i64 U2, .int .i64 V2, .int .i64 A2, .int .i64 S2, .int .i64 D2, .int .i64 1, .int .i64 R2, .slice ao2 0 cp2] 43)).alloc (.cells #[.int .i64 0, .int .i64 0, .slice none 0 0] 139) := ⟨_, rfl⟩
 have M0 : Hid (Made w.heap.size w W0) := by unfold Hid; rw [eW]; exact (((Made.rfl_ _ _).cells (Nat.le_refl _) _ _).cells (by simp) _ _).cells (by simp; omega) _ _
 have HA : Has W0 (w.heap.size) 43 #[.int .i64 I1, .int .i64 X, .int .i64 Y, .int .i64 U1, .int .i64 V1, .int .i64 A, .int .i64 S1, .int .i64 D1, .int .i64 1, .int .i64 R, .slice ao1 0 cp1] := by rw [eW]; exact ((has_new _ _ _).more _).more _
 have HB : Has W0 (w.heap.size + 1) 43 #[.int .i64 I2, .int .i64 X2, .int .i64 Y2, .int .i64 U2, .int .i64 V2, .int .i64 A2, .int .i64 S2, .int .i64 D2, .int .i64 1, .int .i64 R2, .slice ao2 0 cp2] := by rw [eW]; exact (has_next _ _ _ _).more _
 obtain ⟨a0, a1, a2, a3, a4, a5, a6, a7, a8, a9, a10⟩ := HA.c11'
 obtain ⟨c0, c1, c2, c3, c4, c5, c6, c7, c8, c9, c10⟩ := HB.c11'
 have o0 : W0.cell? ⟨w.heap.size + 1 + 1, 0, none⟩ = some (.int .i64 0) := by rw [eW]; go_simp
 have o1 : W0.cell? ⟨w.heap.size + 1 + 1, 1, none⟩ = some (.int .i64 0) := by rw [eW]; go_simp
 have o2 : W0.cell? ⟨w.heap.size + 1 + 1, 2, none⟩ = some (.slice none 0 0) := by rw [eW]; go_simp
 have of_ : ∀ i, W0.frozen? ⟨w.heap.size + 1 + 1, i, none⟩ = false := fun i => by rw [eW]; go_simp
 rw [← eW]
 clear eW
 go_wp2_with fail
 refine (gtround_is (I1 := I1) (U1 := U1) (V1 := V1) (S1 := S1) (D1 := D1) X Y A 1 (R) (.slice ao1 0 cp1) true (by decide) _).mono ?_
 rintro e w1 ⟨rfl, k1⟩
 have HA := HA.stays k1 HA.here
 have HB := HB.stays k1 HB.here
 obtain ⟨a0, a1, a2, a3, a4, a5, a6, a7, a8, a9, a10⟩ := HA.c11'
 obtain ⟨c0, c1, c2, c3, c4, c5, c6, c7, c8, c9, c10⟩ := HB.c11'
 have o0 := k1.reads o0
 have o1 := k1.reads o1
 have o2 := k1.reads o2
 have of_ : ∀ i, w1.frozen? ⟨w.heap.size + 1 + 1, i, none⟩ = false := fun i => (k1.2 _).trans (of_ i)
 have M1 : Hid (Made w.heap.size w w1) := M0.out.then_ (k1.low M0.out.1.size)
 clear k1
 go_wp2_with fail
 refine (gtround_is (I1 := I2) (U1 := U2) (V1 := V2) (S1 := S2) (D1 := D2) X2 Y2 A2 1 (R2) (.slice ao2 0 cp2) true (by decide) _).mono ?_
 rintro e w2 ⟨rfl, k1⟩
 have HA := HA.stays k1 HA.here
 have HB := HB.stays k1 HB.here
 obtain ⟨a0, a1, a2, a3, a4, a5, a6, a7, a8, a9, a10⟩ := HA.c11'
 obtain ⟨c0, c1, c2, c3, c4, c5, c6, c7, c8, c9, c10⟩ := HB.c11'
 have o0 := k1.reads o0
 have o1 := k1.reads o1
 have o2 := k1.reads o2
 have of_ : ∀ i, w2.frozen? ⟨w.heap.size + 1 + 1, i, none⟩ = false := fun i => (k1.2 _).trans (of_ i)
 have M2 : Hid (Made w.heap.size w w2) := M1.out.then_ (k1.low M1.out.1.size)
 clear k1
 have loc : w.heap.size + 1 + 1 < w2.heap.size := World.block_lt_of_cell? _ _ o0
 go_wp2_with fail
 refine (HC.out _).mono ?_
 intro e w9 hT
 have hk := hT.made
 have o0 := hk.reads o0
 have o1 := hk.reads o1
 have o2 := hk.reads o2
 have of_ : ∀ i, w9.frozen? ⟨w.heap.size + 1 + 1, i, none⟩ = false := fun i => (hk.2 _).trans (of_ i)
 have M9 : Hid (Made w.heap.size w w9) := M2.out.then_ (hk.low M2.out.1.size)
 have lo9 : w.heap.size + 1 + 1 < w9.heap.size := World.block_lt_of_cell? _ _ o0
 clear hk HA HB a0 a1 a2 a3 a4 a5 a6 a7 a8 a9 a10 c0 c1 c2 c3 c4 c5 c6 c7 c8 c9 c10
 obtain ⟨gp, cp, hgp, rfl, hl, hpt, _⟩ := hT
 have HPp := hid hpt
 have hne : gp ≠ w.heap.size + 1 + 1 := by omega
 clear hpt
 go_wp2_with fail
 refine bodyPost_ret (v := .tuple #[tchV tx ty (some ⟨gp, 0, none⟩) l.length cp, .bool true]) (by simp [results, Tryz.results79, go_sem, o0, o1, o2]) rfl ⟨gp, cp, by omega, rfl, hl, ?_, ?_⟩
 ·exact HPp.out.putO' hne _ _ _
 ·exact ((M9.out.put (by simp; try omega) _).put (by simp; try omega) _).put (by simp; try omega) _
end Go.Proofs.YtjhcejmfiekjgaaGreat.Fx
/- The anchor of layer 11: numbers. -/
namespace Go.Proofs.YtjhcejmfiekjgaaGreat.Fx
open Go.ChangeShapes Go.WideShapes Go.ChangeAt Go.RowKit
set_option linter.unusedVariables false
def dot1 (ao : Option Addr) (c : Nat) (f : Cs) : Bd := ⟨1, 0, 0, 0, 0, 0, 0, 4294967296, 1, 4294967296, ao, 0, c, f⟩
def dot2 (ao : Option Addr) (c : Nat) (f : Cs) : Bd := ⟨2, 6442450944, 0, -4294967296, 0, 0, 0, 4294967296, 1, 4294967296, ao, 0, c, f⟩
def rowD : Ro := ⟨0, 1, 0, (4294967296, 0), (3221225472, 0), (-3221225472, 0), 6746518853, 3174832402, 17179869184, 0, 0⟩
theorem rounds_d1 : roundsF (0, 0) 4294967296 (6442450944, 0) 4294967296 = some ⟨4294967296, 0, [⟨3221225472, 0, 2147483648, 0⟩]⟩ := by kernel_rfl
theorem rounds_d0 : roundsF (0, 0) 4294967296 (0, 0) 4294967296 = some ⟨4294967296, 0, [⟨0, 0, 8589934592, 0⟩]⟩ := by kernel_rfl
theorem rounds_d2 : roundsF (6442450944, 0) 4294967296 (0, 0) 4294967296 = some ⟨-4294967296, 0, [⟨3221225472, 0, 2147483648, 0⟩]⟩ := by kernel_rfl
theorem rounds_d3 : roundsF (6442450944, 0) 4294967296 (6442450944, 0) 4294967296 = some ⟨4294967296, 0, [⟨6442450944, 0, 8589934592, 0⟩]⟩ := by kernel_rfl
theorem row_fit (ao ao' : Option Addr) (c c' : Nat) (f f' : Cs) : rowS 0 1 (dot1 ao c f) (dot2 ao' c' f') (4294967296, 0) (3221225472, 0) 0 2147483648 0 0 = rowD := by kernel_rfl
theorem solve_fit1 (ao ao' : Option Addr) (c c' : Nat) (f f' : Cs) : (solveS [dot1 ao c f, dot2 ao' c' f'] [rowD] []).1.map (fun b => (b.id, b.vx)) = [(1, -10737418239), (2, 6442450943)] := by kernel_rfl
theorem solve_fit2 (ao ao' : Option Addr) (c c' : Nat) (f f' : Cs) : (solveS [dot1 ao c f, dot2 ao' c' f'] [rowD] []).2.map (fun r => (r.a, r.b, r.key, r.N, r.T)) = [(0, 1, 0, 33732594286, 0)] := by kernel_rfl
theorem touch_cc {a b : Bd} (ha : a.k = 1) (hb : b.k = 1) (na : a.n = 0) (nb : b.n = 0) (ia : BdI a) (ib : BdI b) (w : World) :
  Calls Tryz.prog 79 #[bdV a, bdV b] w (TouchQ (roundsF (a.x, a.y) a.r (b.x, b.y) b.r) w) := by
 have h1 := ia.x; have h2 := ia.y; have h3 := ia.an; have h4 := ia.r
 have k1 := ib.x; have k2 := ib.y; have k3 := ib.an; have k4 := ib.r
 obtain ⟨i1, x1, y1, u1, v1, a1, s1, d1, kd1, r1, o1, n1, c1, f1⟩ := a
 obtain ⟨i2, x2, y2, u2, v2, a2, s2, d2, kd2, r2, o2, n2, c2, f2⟩ := b
 simp only at ha hb na nb h1 h2 h3 h4 k1 k2 k3 k4
 subst ha hb na nb
 cases et : roundsF (x1, y1) r1 (x2, y2) r2 with
 | none => exact gtof_ccn x1 y1 a1 r1 x2 y2 a2 r2 w h1 h2 h3 k1 k2 k3 h4 k4 et
 | some t => exact gtof_ccs x1 y1 a1 r1 x2 y2 a2 r2 w h1 h2 h3 k1 k2 k3 h4 k4 t et
theorem addDot {X : Nat → Prop} {w : World} {gw : Nat} {P : PW} (b : Bd) (ok : BodyP b) (hi : BdI b) (hs : b.n = 0) (ho : b.ao = none ∧ b.n = 0 ∧ b.c = 0) (hV : WV X w gw P) (hP : POk P) (hXg : X gw) (hXw : ∀ b, X b → b < w.heap.size) (hl : P.B.length < 1024) (hn : P.nb < 4611686018427387904) :
  Calls Tryz.prog 18 #[.pointer (some ⟨gw, 0, none⟩), bdV b] w fun e v => e = .returned (.tuple #[.int .i64 P.nb, .int .i64 0]) ∧ But (fun g => g = gw) w v ∧ ∃ ao c, WV X v gw ⟨P.nb + 1, P.nj, P.B ++ [newB P.nb b ao c], P.J, P.C⟩ ∧ POk ⟨P.nb + 1, P.nj, P.B ++ [newB P.nb b ao c], P.J, P.C⟩ := by
 refine (addB_w b hV hP hXg hXw (fun h => absurd h (by omega)) hi (.inl ho)).mono ?_
 rintro e v ⟨n, er, P', rfl, hA, hv, k⟩
 have ok' := addB_ok hP hA
 rcases hA with ⟨a, _⟩ | ⟨_, a, _⟩ | ⟨_, _, _, rfl, rfl, ao, c, rfl⟩
 ·exact absurd ok a
 ·omega
 ·exact ⟨rfl, k, ao, c, hv, ok'⟩
end Go.Proofs.YtjhcejmfiekjgaaGreat.Fx