/- Contracts of package touch: polygonCircle, sides; whole. -/
import Derived.Test.YtmfkcdinfahjlaaTcI
import Derived.Test.YtmfkcdinfahjlaaTcB
import Derived.Test.YtmfkcdinfahjlaaTcD
namespace Go.Proofs.Ytmfkcdinfahjlaa.Fx
open Go.ChangeShapes Go.WideShapes Go.ChangeAt Go.RowKit
set_option linter.unusedVariables false

set_option maxRecDepth 100000 in
set_option maxHeartbeats 4000000 in
theorem tpc_flat (X Y A R : Int) (b off cap gN c2 n : Nat) (P : Cs) (i j : Nat) (px py qx qy nx ny g : Int) (w : World) (hn3 : 3 ≤ n) (h8 : n ≤ 8) (iX : I64 X) (iY : I64 Y) (iR : I64 R) (ho : OutAt w b off gN n P) (iP : Cin P n) (ei : sideF P n (fun _ => (X, Y)) 1 = i) (ej : (i + 1) % n = j) (ep : P i = (px, py)) (eq : P j = (qx, qy)) (en : normF P n i = (nx, ny)) (eg : gapF P n (fun _ => (X, Y)) 1 i = g) (hc : ¬ R ≤ g) (h0 : g ≤ 0) :
    Calls Try.prog 24 #[outV b off cap gN c2 n, bodyV 0 X Y 0 0 A 0 0 1 R (.slice none 0 0)] w (TouchQ (some (oneT (nx, ny) (subV (X, Y) (scaV (nx, ny) R)) (subF R g) (16 + i))) w) := by
  have hi : i < n := by
    rw [← ei]
    have := firstF_le (gapF P n (fun _ => (X, Y)) 1) (n - 1)
    unfold sideF; omega
  have hj : j < n := by rw [← ej]; exact Nat.mod_lt _ (by omega)
  have HO := hid ho
  have IP := hid iP
  have HG := hid (fun w bb ho hq => togap_is b off cap gN c2 n bb 0 1 1 P (fun _ => (X, Y)) i g w (by omega) h8 (by omega) (by omega) ho hq iP (fun _ _ => ⟨iX, iY⟩) ei eg)
  have HSd := hid (fun w (ho : OutAt w b off gN n P) => tside_is b off cap gN c2 n i j P (normF P n) px py qx qy nx ny w hi h8 ej ho.1 ho.2 ep eq en)
  obtain ⟨ipx, ipy⟩ := iP i hi
  rw [ep] at ipx ipy
  obtain ⟨iqx, iqy⟩ := iP j hj
  rw [eq] at iqx iqy
  have iN := i64_norm P n i
  rw [en] at iN
  obtain ⟨inx, iny⟩ := iN
  have ig : I64 g := by rw [← eg]; exact i64_rg (gap_rg _ _ _ _ _)
  have hi8 : (i : Int) < 8 := by omega
  have n0 : ((n : Int) == 0) = false := by simp; omega
  obtain ⟨sx, esx⟩ : ∃ z, mulF nx R = z := ⟨_, rfl⟩
  obtain ⟨sy, esy⟩ : ∃ z, mulF ny R = z := ⟨_, rfl⟩
  have isx : I64 sx := by rw [← esx]; exact i64_mul _ _
  have isy : I64 sy := by rw [← esy]; exact i64_mul _ _
  obtain ⟨ax, eax⟩ : ∃ z, subF X sx = z := ⟨_, rfl⟩
  obtain ⟨ay, eay⟩ : ∃ z, subF Y sy = z := ⟨_, rfl⟩
  obtain ⟨dep, ed⟩ : ∃ z, subF R g = z := ⟨_, rfl⟩
  have HW : Hid (some (oneT (nx, ny) (subV (X, Y) (scaV (nx, ny) R)) (subF R g) (16 + i)) = some (oneT (nx, ny) (ax, ay) dep (16 + i))) := by unfold Hid scaV subV; simp only []; rw [esx, esy, eax, eay, ed]
  rw [HW.out]
  have ESX := hid esx; have ESY := hid esy; have EAX := hid eax; have EAY := hid eay; have ED := hid ed
  clear esx esy eax eay ed HW
  clear ho iP ei ej ep eq en eg hi hj
  go_enter Try.func24, Try.ntmps24
  go_upto_region 4 with fail
  obtain ⟨W0, eW⟩ : ∃ W, W = ((w.alloc (.cells #[.slice (some ⟨b, off, none⟩) n cap, .slice (some ⟨gN, 0, none⟩) n c2] 69)).alloc (.cells #[.int .i64 0, .int .i64 X, .int .i64 Y, .int .i64 0, .int .i64 0, .int .i64 A, .int .i64 0, .int .i64 0, .int .i64 1, .int .i64 R, .slice none 0 0] 34)).alloc (.cells #[.int .i64 0, .int .i64 0, .slice none 0 0] 38) := ⟨_, rfl⟩
  have M0 : Hid (Made w.heap.size w W0) := by unfold Hid; rw [eW]; exact (((Made.rfl_ _ _).cells (Nat.le_refl _) _ _).cells (by simp) _ _).cells (by simp; omega) _ _
  have HB : Has W0 (w.heap.size + 1) 34 #[.int .i64 0, .int .i64 X, .int .i64 Y, .int .i64 0, .int .i64 0, .int .i64 A, .int .i64 0, .int .i64 0, .int .i64 1, .int .i64 R, .slice none 0 0] := by rw [eW]; exact (has_next _ _ _ _).more _
  obtain ⟨b0, b1, b2, b3, b4, b5, b6, b7, b8, b9, b10⟩ := HB.c11
  have u0 : W0.cell? ⟨w.heap.size, 0, none⟩ = some (.slice (some ⟨b, off, none⟩) n cap) := by rw [eW]; go_simp
  have u1 : W0.cell? ⟨w.heap.size, 1, none⟩ = some (.slice (some ⟨gN, 0, none⟩) n c2) := by rw [eW]; go_simp
  have o0 : W0.cell? ⟨w.heap.size + 1 + 1, 0, none⟩ = some (.int .i64 0) := by rw [eW]; go_simp
  have o1 : W0.cell? ⟨w.heap.size + 1 + 1, 1, none⟩ = some (.int .i64 0) := by rw [eW]; go_simp
  have o2 : W0.cell? ⟨w.heap.size + 1 + 1, 2, none⟩ = some (.slice none 0 0) := by rw [eW]; go_simp
  have of_ : ∀ i, W0.frozen? ⟨w.heap.size + 1 + 1, i, none⟩ = false := fun i => by rw [eW]; go_simp
  have HO0 : Hid (OutAt W0 b off gN n P) := HO.out.kept M0.out
  have lo0 : w.heap.size + 1 + 1 < W0.heap.size := World.block_lt_of_cell? _ _ o0
  rw [← eW]
  clear eW
  go_wp2_with fail
  refine (HG.out _ W0.heap.size (HO0.out.kept ((Made.rfl_ _ _).cells (Nat.le_refl _) _ _)) (fun t ht => by
    obtain rfl : t = 0 := by omega
    constructor <;> go_simp)).mono ?_
  rintro e w1 ⟨rfl, k1⟩
  have HB := (HB.more _).stays k1 (HB.more _).here
  obtain ⟨b0, b1, b2, b3, b4, b5, b6, b7, b8, b9, b10⟩ := HB.c11
  have u0 := k1.reads (cell_more u0)
  have u1 := k1.reads (cell_more u1)
  have o0 := k1.reads (cell_more o0)
  have o1 := k1.reads (cell_more o1)
  have o2 := k1.reads (cell_more o2)
  have of_ : ∀ i, w1.frozen? ⟨w.heap.size + 1 + 1, i, none⟩ = false := fun i => (k1.2 _).trans ((frozen?_alloc_cells _ _ _ _).trans (of_ i))
  have M1 : Hid (Made w.heap.size w w1) := M0.out.then_ ((made_box k1).low M0.out.1.size)
  have HO1 : Hid (OutAt w1 b off gN n P) := HO0.out.kept (made_box k1)
  have lo1 : w.heap.size + 1 + 1 < w1.heap.size := World.block_lt_of_cell? _ _ o0
  clear k1 HO0 lo0 HG
  have h0' : decide (0 < g) = false := by exact decide_eq_false (by omega)
  go_wp2_with fail
  refine (HSd.out _ HO1.out).mono ?_
  rintro e w2 ⟨rfl, k2⟩
  have HB := HB.stays k2 HB.here
  obtain ⟨b0, b1, b2, b3, b4, b5, b6, b7, b8, b9, b10⟩ := HB.c11
  have o0 := k2.reads (o0)
  have o1 := k2.reads (o1)
  have o2 := k2.reads (o2)
  have of_ : ∀ i, w2.frozen? ⟨w.heap.size + 1 + 1, i, none⟩ = false := fun i => (k2.2 _).trans (of_ i)
  have M2 : Hid (Made w.heap.size w w2) := M1.out.then_ (k2.low M1.out.1.size)
  have lo2 : w.heap.size + 1 + 1 < w2.heap.size := World.block_lt_of_cell? _ _ o0
  clear k2 HO1 u0 u1 lo1
  go_upto_region 14 with fail
  obtain ⟨W3, eW⟩ : ∃ W, W = w2.alloc (.cells #[.int .i64 px, .int .i64 py, .int .i64 qx, .int .i64 qy, .int .i64 nx, .int .i64 ny] 95) := ⟨_, rfl⟩
  have hS : Has W3 w2.heap.size 95 #[.int .i64 px, .int .i64 py, .int .i64 qx, .int .i64 qy, .int .i64 nx, .int .i64 ny] := by rw [eW]; exact has_new _ _ _
  have MW3 : Made w2.heap.size w2 W3 := by rw [eW]; exact (Made.rfl_ _ _).cells (Nat.le_refl _) _ _
  have HB := HB.stays MW3 HB.here
  obtain ⟨b0, b1, b2, b3, b4, b5, b6, b7, b8, b9, b10⟩ := HB.c11
  have o0 := MW3.reads (o0)
  have o1 := MW3.reads (o1)
  have o2 := MW3.reads (o2)
  have of_ : ∀ i, W3.frozen? ⟨w.heap.size + 1 + 1, i, none⟩ = false := fun i => (MW3.2 _).trans (of_ i)
  have M3 : Hid (Made w.heap.size w W3) := M2.out.then_ (MW3.low M2.out.1.size)
  rw [← eW]
  clear eW MW3
  have s0 := hS.at_ 0
  have s1 := hS.at_ 1
  have s2 := hS.at_ 2
  have s3 := hS.at_ 3
  have s4 := hS.at_ 4
  have s5 := hS.at_ 5
  simp at s0 s1 s2 s3 s4 s5
  have ls3 := hS.here
  clear hS
  have loc : w.heap.size + 1 + 1 < W3.heap.size := World.block_lt_of_cell? _ _ o0
  have lsc : w2.heap.size < W3.heap.size := World.block_lt_of_cell? _ _ s4
  go_upto_region 14 with fail
  refine reg_float1 7 100 11 26 #[.int .i64 0, .int .i64 0] _ (by kernel_rfl) (by kernel_rfl) (by kernel_rfl) rfl rfl alc_V ?_
  apply Exists.intro
  refine ⟨?h3, ?h4⟩
  case h3 =>
    intro T' hT fw hf
    have b1 := Class.reads hf b1
    have b2 := Class.reads hf b2
    have s4 := Class.reads hf s4
    have s5 := Class.reads hf s5
    simp only [List.take_succ_cons, List.take_zero]
    repeat (go_big_quiet_step ((first
      | (go_at_call 48; with_reducible exact hf.made (vscale_is _ _ _ _ _ _ inx iny iR ESX.out ESY.out))
      | (go_at_call 29; with_reducible exact hf.made (vsub_is _ _ _ _ _ _ _ iX iY isx isy EAX.out EAY.out)))))
    exact wpQuiet_nil rfl
  intro ga w8 k8 hg hh
  have hh0 := hh.at_ 0
  have hh1 := hh.at_ 1
  simp at hh0 hh1
  have hhf : ∀ i, w8.frozen? ⟨ga, i, none⟩ = false := hh.free
  have o0 := k8.reads (o0)
  have o1 := k8.reads (o1)
  have o2 := k8.reads (o2)
  have s4 := k8.reads (s4)
  have s5 := k8.reads (s5)
  have of_ : ∀ i, w8.frozen? ⟨w.heap.size + 1 + 1, i, none⟩ = false := fun i => (k8.2 _).trans (of_ i)
  have M8 : Hid (Made w.heap.size w w8) := M3.out.then_ (k8.low M3.out.1.size)
  have lg8 : ga < w8.heap.size := hh.here
  have lsg : w2.heap.size < ga := by omega
  have log : w.heap.size + 1 + 1 < ga := by omega
  clear k8
  simp only [List.drop_succ_cons, List.drop_zero]
  go_upto_region 15 with fail
  obtain ⟨Wa, eW⟩ : ∃ W, W = (w8.setCell ⟨ga, 0, none⟩ (.int .i64 ax)).setCell ⟨ga, 1, none⟩ (.int .i64 ay) := ⟨_, rfl⟩
  have hG : Has Wa ga 26 #[.int .i64 ax, .int .i64 ay] := by rw [eW]; simpa using (hh.put 0 (.int .i64 ax)).put 1 (.int .i64 ay)
  have ne : ∀ j, j < ga → j ≠ ga := fun j hj => by omega
  have o0 : Wa.cell? ⟨w.heap.size + 1 + 1, 0, none⟩ = some (.int .i64 0) := by rw [eW]; exact cell_else (ne _ (by simp; omega)) (cell_else (ne _ (by simp; omega)) o0)
  have o1 : Wa.cell? ⟨w.heap.size + 1 + 1, 1, none⟩ = some (.int .i64 0) := by rw [eW]; exact cell_else (ne _ (by simp; omega)) (cell_else (ne _ (by simp; omega)) o1)
  have o2 : Wa.cell? ⟨w.heap.size + 1 + 1, 2, none⟩ = some (.slice none 0 0) := by rw [eW]; exact cell_else (ne _ (by simp; omega)) (cell_else (ne _ (by simp; omega)) o2)
  have s4 : Wa.cell? ⟨w2.heap.size, 4, none⟩ = some (.int .i64 nx) := by rw [eW]; exact cell_else (ne _ (by simp; omega)) (cell_else (ne _ (by simp; omega)) s4)
  have s5 : Wa.cell? ⟨w2.heap.size, 5, none⟩ = some (.int .i64 ny) := by rw [eW]; exact cell_else (ne _ (by simp; omega)) (cell_else (ne _ (by simp; omega)) s5)
  have of_ : ∀ i, Wa.frozen? ⟨w.heap.size + 1 + 1, i, none⟩ = false := fun i => by rw [eW]; simpa using of_ i
  have Ma : Hid (Made w.heap.size w Wa) := by unfold Hid; rw [eW]; exact (M8.out.put (by simp; omega) _).put (by simp; omega) _
  have loa : w.heap.size + 1 + 1 < Wa.heap.size := World.block_lt_of_cell? _ _ o0
  rw [← eW]
  clear eW hh hh0 hh1 hhf
  have g0 := hG.at_ 0
  have g1 := hG.at_ 1
  simp at g0 g1
  refine region_makes 10 100 [0, 1, 2, 3, 4, 5, 6, 7, 8] [9] (alQ ax ay dep (16 + i)) valQ (by kernel_rfl) (alQ_lasts _ _ _ _) (by kernel_rfl) rfl (by kernel_rfl) rfl ?_
  apply Exists.intro
  refine ⟨?h1, ?h2⟩
  case h1 =>
    intro T hT f hf
    have s4' := Class.reads hf s4
    have s5' := Class.reads hf s5
    have g0' := Class.reads hf g0
    have g1' := Class.reads hf g1
    change wpQuiet _ _ _ _ [_, _, _, _, _, _, _, _, _] _
    repeat (go_big_quiet_step ((go_at_call 45; with_reducible exact hf.same (sub_is _ _ _ _ iR ig ED.out))))
    exact wpQuiet_nil rfl
  refine ⟨_, 98, rfl, ⟨rfl, rfl, fun G u hu => ?mk1⟩, fun gp c => ?rest⟩
  case mk1 =>
    rw [show (execOp _ _).run Try.prog u = .ok (.value (.slice (some ⟨u.heap.size, 0, none⟩) 1 1)) (u.alloc (.cells #[.int .i64 ax, .int .i64 ay, .int .i64 dep, .int .i64 (16 + i)] 47)) by kernel_rfl]
    exact ⟨u.heap.size, 0, rfl, hu.next (alQ_lasts _ _ _ _) ((Made.rfl_ _ _).cells (Nat.le_refl _) _ _) (Nat.le_refl _) (by simp) (has_new _ _ _)⟩
  intro wz hu
  have q : upd (fun _ => none) 9 gp 9 = some gp := by unfold upd; simp
  obtain ⟨lgp, _, hrow⟩ := hu.2.1 9 gp q
  have hP : Has wz gp 47 #[.int .i64 ax, .int .i64 ay, .int .i64 dep, .int .i64 (16 + i)] := hrow
  have kz := hu.1
  have o0 := kz.reads (o0)
  have o1 := kz.reads (o1)
  have o2 := kz.reads (o2)
  have of_ : ∀ i, wz.frozen? ⟨w.heap.size + 1 + 1, i, none⟩ = false := fun i => (kz.2 _).trans (of_ i)
  have Mz : Hid (Made w.heap.size w wz) := Ma.out.then_ (kz.low Ma.out.1.size)
  have lgo : w.heap.size + 1 + 1 < gp := by omega
  have gne : gp ≠ w.heap.size + 1 + 1 := by omega
  have p0 := hP.at_ 0
  have p1 := hP.at_ 1
  have p2 := hP.at_ 2
  have p3 := hP.at_ 3
  simp at p0 p1 p2 p3
  rw [show valQ 9 gp c = .slice (some ⟨gp, 0, none⟩) 1 1 from rfl]
  simp only [List.drop_succ_cons, List.drop_zero]
  clear kz hu q lgp hrow hP
  go_wp2_with fail
  refine bodyPost_ret (v := .tuple #[tchV nx ny (some ⟨gp, 0, none⟩) 1 1, .bool true]) (by simp [results, Try.results24, go_sem, o0, o1, o2]) rfl (touchq_one (by omega) ?_ ?_ ?_ ?_ ?_)
  · exact cell_else gne (cell_else gne (cell_else gne p0))
  · exact cell_else gne (cell_else gne (cell_else gne p1))
  · exact cell_else gne (cell_else gne (cell_else gne p2))
  · exact cell_else gne (cell_else gne (cell_else gne p3))
  · exact ((Mz.out.put (by simp; try omega) _).put (by simp; try omega) _).put (by simp; try omega) _

set_option maxRecDepth 100000 in
set_option maxHeartbeats 4000000 in
theorem tpc_side (X Y A R : Int) (b off cap gN c2 n : Nat) (P : Cs) (i j : Nat) (px py qx qy nx ny g : Int) (w : World) (hn3 : 3 ≤ n) (h8 : n ≤ 8) (iX : I64 X) (iY : I64 Y) (iR : I64 R) (ho : OutAt w b off gN n P) (iP : Cin P n) (ei : sideF P n (fun _ => (X, Y)) 1 = i) (ej : (i + 1) % n = j) (ep : P i = (px, py)) (eq : P j = (qx, qy)) (en : normF P n i = (nx, ny)) (eg : gapF P n (fun _ => (X, Y)) 1 i = g) (hc : ¬ R ≤ g) (h0 : ¬ g ≤ 0) (h1 : ¬ dotV (subV (X, Y) (px, py)) (subV (qx, qy) (px, py)) ≤ 0) (h2 : ¬ dotV (subV (X, Y) (qx, qy)) (negV (subV (qx, qy) (px, py))) ≤ 0) :
    Calls Try.prog 24 #[outV b off cap gN c2 n, bodyV 0 X Y 0 0 A 0 0 1 R (.slice none 0 0)] w (TouchQ (some (oneT (nx, ny) (subV (X, Y) (scaV (nx, ny) R)) (subF R g) (16 + i))) w) := by
  have hi : i < n := by
    rw [← ei]
    have := firstF_le (gapF P n (fun _ => (X, Y)) 1) (n - 1)
    unfold sideF; omega
  have hj : j < n := by rw [← ej]; exact Nat.mod_lt _ (by omega)
  have HO := hid ho
  have IP := hid iP
  have HG := hid (fun w bb ho hq => togap_is b off cap gN c2 n bb 0 1 1 P (fun _ => (X, Y)) i g w (by omega) h8 (by omega) (by omega) ho hq iP (fun _ _ => ⟨iX, iY⟩) ei eg)
  have HSd := hid (fun w (ho : OutAt w b off gN n P) => tside_is b off cap gN c2 n i j P (normF P n) px py qx qy nx ny w hi h8 ej ho.1 ho.2 ep eq en)
  obtain ⟨ipx, ipy⟩ := iP i hi
  rw [ep] at ipx ipy
  obtain ⟨iqx, iqy⟩ := iP j hj
  rw [eq] at iqx iqy
  have iN := i64_norm P n i
  rw [en] at iN
  obtain ⟨inx, iny⟩ := iN
  have ig : I64 g := by rw [← eg]; exact i64_rg (gap_rg _ _ _ _ _)
  have hi8 : (i : Int) < 8 := by omega
  have n0 : ((n : Int) == 0) = false := by simp; omega
  obtain ⟨ex, eex⟩ : ∃ z, subF qx px = z := ⟨_, rfl⟩
  obtain ⟨ey, eey⟩ : ∃ z, subF qy py = z := ⟨_, rfl⟩
  obtain ⟨ux, eux⟩ : ∃ z, subF X px = z := ⟨_, rfl⟩
  obtain ⟨uy, euy⟩ : ∃ z, subF Y py = z := ⟨_, rfl⟩
  have iex : I64 ex := by rw [← eex]; exact i64_sub _ _
  have iey : I64 ey := by rw [← eey]; exact i64_sub _ _
  have iux : I64 ux := by rw [← eux]; exact i64_sub _ _
  have iuy : I64 uy := by rw [← euy]; exact i64_sub _ _
  obtain ⟨d1, ed1⟩ : ∃ z, dotV (subV (X, Y) (px, py)) (subV (qx, qy) (px, py)) = z := ⟨_, rfl⟩
  have ED1 : Hid (addF (mulF ux ex) (mulF uy ey) = d1) := by unfold Hid; rw [← ed1, ← eex, ← eey, ← eux, ← euy]; rfl
  rw [ed1] at h1
  have EEX := hid eex; have EEY := hid eey; have EUX := hid eux; have EUY := hid euy
  have gd1 : decide (d1 ≤ 0) = false := by exact decide_eq_false h1
  obtain ⟨vx, evx⟩ : ∃ z, subF X qx = z := ⟨_, rfl⟩
  obtain ⟨vy, evy⟩ : ∃ z, subF Y qy = z := ⟨_, rfl⟩
  obtain ⟨mx, emx⟩ : ∃ z, negF ex = z := ⟨_, rfl⟩
  obtain ⟨my, emy⟩ : ∃ z, negF ey = z := ⟨_, rfl⟩
  have ivx : I64 vx := by rw [← evx]; exact i64_sub _ _
  have ivy : I64 vy := by rw [← evy]; exact i64_sub _ _
  have imx : I64 mx := by rw [← emx]; exact i64_neg iex
  have imy : I64 my := by rw [← emy]; exact i64_neg iey
  obtain ⟨d2, ed2⟩ : ∃ z, dotV (subV (X, Y) (qx, qy)) (negV (subV (qx, qy) (px, py))) = z := ⟨_, rfl⟩
  have ED2 : Hid (addF (mulF vx mx) (mulF vy my) = d2) := by unfold Hid; rw [← ed2, ← evx, ← evy, ← emx, ← emy, ← eex, ← eey]; rfl
  rw [ed2] at h2
  have EVX := hid evx; have EVY := hid evy; have EMX := hid emx; have EMY := hid emy
  have gd2 : decide (d2 ≤ 0) = false := by exact decide_eq_false h2
  clear evx evy emx emy ed2
  clear eex eey eux euy ed1
  obtain ⟨sx, esx⟩ : ∃ z, mulF nx R = z := ⟨_, rfl⟩
  obtain ⟨sy, esy⟩ : ∃ z, mulF ny R = z := ⟨_, rfl⟩
  have isx : I64 sx := by rw [← esx]; exact i64_mul _ _
  have isy : I64 sy := by rw [← esy]; exact i64_mul _ _
  obtain ⟨ax, eax⟩ : ∃ z, subF X sx = z := ⟨_, rfl⟩
  obtain ⟨ay, eay⟩ : ∃ z, subF Y sy = z := ⟨_, rfl⟩
  obtain ⟨dep, ed⟩ : ∃ z, subF R g = z := ⟨_, rfl⟩
  have HW : Hid (some (oneT (nx, ny) (subV (X, Y) (scaV (nx, ny) R)) (subF R g) (16 + i)) = some (oneT (nx, ny) (ax, ay) dep (16 + i))) := by unfold Hid scaV subV; simp only []; rw [esx, esy, eax, eay, ed]
  rw [HW.out]
  have ESX := hid esx; have ESY := hid esy; have EAX := hid eax; have EAY := hid eay; have ED := hid ed
  clear esx esy eax eay ed HW
  clear ho iP ei ej ep eq en eg hi hj
  go_enter Try.func24, Try.ntmps24
  go_upto_region 4 with fail
  obtain ⟨W0, eW⟩ : ∃ W, W = ((w.alloc (.cells #[.slice (some ⟨b, off, none⟩) n cap, .slice (some ⟨gN, 0, none⟩) n c2] 69)).alloc (.cells #[.int .i64 0, .int .i64 X, .int .i64 Y, .int .i64 0, .int .i64 0, .int .i64 A, .int .i64 0, .int .i64 0, .int .i64 1, .int .i64 R, .slice none 0 0] 34)).alloc (.cells #[.int .i64 0, .int .i64 0, .slice none 0 0] 38) := ⟨_, rfl⟩
  have M0 : Hid (Made w.heap.size w W0) := by unfold Hid; rw [eW]; exact (((Made.rfl_ _ _).cells (Nat.le_refl _) _ _).cells (by simp) _ _).cells (by simp; omega) _ _
  have HB : Has W0 (w.heap.size + 1) 34 #[.int .i64 0, .int .i64 X, .int .i64 Y, .int .i64 0, .int .i64 0, .int .i64 A, .int .i64 0, .int .i64 0, .int .i64 1, .int .i64 R, .slice none 0 0] := by rw [eW]; exact (has_next _ _ _ _).more _
  obtain ⟨b0, b1, b2, b3, b4, b5, b6, b7, b8, b9, b10⟩ := HB.c11
  have u0 : W0.cell? ⟨w.heap.size, 0, none⟩ = some (.slice (some ⟨b, off, none⟩) n cap) := by rw [eW]; go_simp
  have u1 : W0.cell? ⟨w.heap.size, 1, none⟩ = some (.slice (some ⟨gN, 0, none⟩) n c2) := by rw [eW]; go_simp
  have o0 : W0.cell? ⟨w.heap.size + 1 + 1, 0, none⟩ = some (.int .i64 0) := by rw [eW]; go_simp
  have o1 : W0.cell? ⟨w.heap.size + 1 + 1, 1, none⟩ = some (.int .i64 0) := by rw [eW]; go_simp
  have o2 : W0.cell? ⟨w.heap.size + 1 + 1, 2, none⟩ = some (.slice none 0 0) := by rw [eW]; go_simp
  have of_ : ∀ i, W0.frozen? ⟨w.heap.size + 1 + 1, i, none⟩ = false := fun i => by rw [eW]; go_simp
  have HO0 : Hid (OutAt W0 b off gN n P) := HO.out.kept M0.out
  have lo0 : w.heap.size + 1 + 1 < W0.heap.size := World.block_lt_of_cell? _ _ o0
  rw [← eW]
  clear eW
  go_wp2_with fail
  refine (HG.out _ W0.heap.size (HO0.out.kept ((Made.rfl_ _ _).cells (Nat.le_refl _) _ _)) (fun t ht => by
    obtain rfl : t = 0 := by omega
    constructor <;> go_simp)).mono ?_
  rintro e w1 ⟨rfl, k1⟩
  have HB := (HB.more _).stays k1 (HB.more _).here
  obtain ⟨b0, b1, b2, b3, b4, b5, b6, b7, b8, b9, b10⟩ := HB.c11
  have u0 := k1.reads (cell_more u0)
  have u1 := k1.reads (cell_more u1)
  have o0 := k1.reads (cell_more o0)
  have o1 := k1.reads (cell_more o1)
  have o2 := k1.reads (cell_more o2)
  have of_ : ∀ i, w1.frozen? ⟨w.heap.size + 1 + 1, i, none⟩ = false := fun i => (k1.2 _).trans ((frozen?_alloc_cells _ _ _ _).trans (of_ i))
  have M1 : Hid (Made w.heap.size w w1) := M0.out.then_ ((made_box k1).low M0.out.1.size)
  have HO1 : Hid (OutAt w1 b off gN n P) := HO0.out.kept (made_box k1)
  have lo1 : w.heap.size + 1 + 1 < w1.heap.size := World.block_lt_of_cell? _ _ o0
  clear k1 HO0 lo0 HG
  have h0' : decide (0 < g) = true := by exact decide_eq_true (by omega)
  go_wp2_with fail
  refine (HSd.out _ HO1.out).mono ?_
  rintro e w2 ⟨rfl, k2⟩
  have HB := HB.stays k2 HB.here
  obtain ⟨b0, b1, b2, b3, b4, b5, b6, b7, b8, b9, b10⟩ := HB.c11
  have o0 := k2.reads (o0)
  have o1 := k2.reads (o1)
  have o2 := k2.reads (o2)
  have of_ : ∀ i, w2.frozen? ⟨w.heap.size + 1 + 1, i, none⟩ = false := fun i => (k2.2 _).trans (of_ i)
  have M2 : Hid (Made w.heap.size w w2) := M1.out.then_ (k2.low M1.out.1.size)
  have lo2 : w.heap.size + 1 + 1 < w2.heap.size := World.block_lt_of_cell? _ _ o0
  clear k2 HO1 u0 u1 lo1
  go_upto_region 9 with fail
  obtain ⟨W3, eW⟩ : ∃ W, W = w2.alloc (.cells #[.int .i64 px, .int .i64 py, .int .i64 qx, .int .i64 qy, .int .i64 nx, .int .i64 ny] 95) := ⟨_, rfl⟩
  have hS : Has W3 w2.heap.size 95 #[.int .i64 px, .int .i64 py, .int .i64 qx, .int .i64 qy, .int .i64 nx, .int .i64 ny] := by rw [eW]; exact has_new _ _ _
  have MW3 : Made w2.heap.size w2 W3 := by rw [eW]; exact (Made.rfl_ _ _).cells (Nat.le_refl _) _ _
  have HB := HB.stays MW3 HB.here
  obtain ⟨b0, b1, b2, b3, b4, b5, b6, b7, b8, b9, b10⟩ := HB.c11
  have o0 := MW3.reads (o0)
  have o1 := MW3.reads (o1)
  have o2 := MW3.reads (o2)
  have of_ : ∀ i, W3.frozen? ⟨w.heap.size + 1 + 1, i, none⟩ = false := fun i => (MW3.2 _).trans (of_ i)
  have M3 : Hid (Made w.heap.size w W3) := M2.out.then_ (MW3.low M2.out.1.size)
  rw [← eW]
  clear eW MW3
  have s0 := hS.at_ 0
  have s1 := hS.at_ 1
  have s2 := hS.at_ 2
  have s3 := hS.at_ 3
  have s4 := hS.at_ 4
  have s5 := hS.at_ 5
  simp at s0 s1 s2 s3 s4 s5
  have ls3 := hS.here
  clear hS
  go_wp2_with fail
  refine (vsub_is _ _ _ _ _ _ _ iqx iqy ipx ipy EEX.out EEY.out).mono ?_
  rintro e w4 ⟨rfl, k4⟩
  have HB := HB.stays k4 HB.here
  obtain ⟨b0, b1, b2, b3, b4, b5, b6, b7, b8, b9, b10⟩ := HB.c11
  have o0 := k4.reads (o0)
  have o1 := k4.reads (o1)
  have o2 := k4.reads (o2)
  have s0 := k4.reads (s0)
  have s1 := k4.reads (s1)
  have s2 := k4.reads (s2)
  have s3 := k4.reads (s3)
  have s4 := k4.reads (s4)
  have s5 := k4.reads (s5)
  have of_ : ∀ i, w4.frozen? ⟨w.heap.size + 1 + 1, i, none⟩ = false := fun i => (k4.2 _).trans (of_ i)
  have M4 : Hid (Made w.heap.size w w4) := M3.out.then_ (k4.low M3.out.1.size)
  have lo4 : w.heap.size + 1 + 1 < w4.heap.size := World.block_lt_of_cell? _ _ o0
  clear k4
  go_upto_region 10 with fail
  obtain ⟨W5, eW⟩ : ∃ W, W = w4.alloc (.cells #[.int .i64 ex, .int .i64 ey] 26) := ⟨_, rfl⟩
  have hE : Has W5 w4.heap.size 26 #[.int .i64 ex, .int .i64 ey] := by rw [eW]; exact has_new _ _ _
  have MW5 : Made w4.heap.size w4 W5 := by rw [eW]; exact (Made.rfl_ _ _).cells (Nat.le_refl _) _ _
  have HB := HB.stays MW5 HB.here
  obtain ⟨b0, b1, b2, b3, b4, b5, b6, b7, b8, b9, b10⟩ := HB.c11
  have o0 := MW5.reads (o0)
  have o1 := MW5.reads (o1)
  have o2 := MW5.reads (o2)
  have s0 := MW5.reads (s0)
  have s1 := MW5.reads (s1)
  have s2 := MW5.reads (s2)
  have s3 := MW5.reads (s3)
  have s4 := MW5.reads (s4)
  have s5 := MW5.reads (s5)
  have of_ : ∀ i, W5.frozen? ⟨w.heap.size + 1 + 1, i, none⟩ = false := fun i => (MW5.2 _).trans (of_ i)
  have M5 : Hid (Made w.heap.size w W5) := M4.out.then_ (MW5.low M4.out.1.size)
  rw [← eW]
  clear eW MW5
  have a0 := hE.at_ 0
  have a1 := hE.at_ 1
  simp at a0 a1
  clear hE
  go_upto_region 10 with fail
  refine reg_made (by kernel_rfl) (by kernel_rfl) ?_
  intro T hT f hf
  have b1' := Class.reads hf b1
  have b2' := Class.reads hf b2
  have s0' := Class.reads hf s0
  have s1' := Class.reads hf s1
  have a0' := Class.reads hf a0
  have a1' := Class.reads hf a1
  repeat (go_big_quiet_step ((first
    | (go_at_call 29; with_reducible exact hf.made (vsub_is _ _ _ _ _ _ _ iX iY ipx ipy EUX.out EUY.out))
    | (go_at_call 51; with_reducible exact hf.made (vdot_is _ _ _ _ _ _ iux iuy iex iey ED1.out)))))
  refine wpQuiet_nil ?_
  intro w6 h1_
  have k1 := hf.here h1_
  have HB := HB.stays k1 HB.here
  obtain ⟨b0, b1, b2, b3, b4, b5, b6, b7, b8, b9, b10⟩ := HB.c11
  have o0 := k1.reads (o0)
  have o1 := k1.reads (o1)
  have o2 := k1.reads (o2)
  have s0 := k1.reads (s0)
  have s1 := k1.reads (s1)
  have s2 := k1.reads (s2)
  have s3 := k1.reads (s3)
  have s4 := k1.reads (s4)
  have s5 := k1.reads (s5)
  have a0 := k1.reads (a0)
  have a1 := k1.reads (a1)
  have of_ : ∀ i, w6.frozen? ⟨w.heap.size + 1 + 1, i, none⟩ = false := fun i => (k1.2 _).trans (of_ i)
  have M6 : Hid (Made w.heap.size w w6) := M5.out.then_ (k1.low M5.out.1.size)
  clear k1 h1_ hf b1' b2' s0' s1' a0' a1'
  go_upto_region 12 with fail
  refine reg_made (by kernel_rfl) (by kernel_rfl) ?_
  intro T hT f hf
  have b1' := Class.reads hf b1
  have b2' := Class.reads hf b2
  have s2' := Class.reads hf s2
  have s3' := Class.reads hf s3
  have a0' := Class.reads hf a0
  have a1' := Class.reads hf a1
  repeat (go_big_quiet_step ((first
    | (go_at_call 29; with_reducible exact hf.made (vsub_is _ _ _ _ _ _ _ iX iY iqx iqy EVX.out EVY.out))
    | (go_at_call 53; with_reducible exact hf.made (vneg_is _ _ _ _ _ iex iey EMX.out EMY.out))
    | (go_at_call 51; with_reducible exact hf.made (vdot_is _ _ _ _ _ _ ivx ivy imx imy ED2.out)))))
  refine wpQuiet_nil ?_
  intro w7 h1_
  have k1 := hf.here h1_
  have HB := HB.stays k1 HB.here
  obtain ⟨b0, b1, b2, b3, b4, b5, b6, b7, b8, b9, b10⟩ := HB.c11
  have o0 := k1.reads (o0)
  have o1 := k1.reads (o1)
  have o2 := k1.reads (o2)
  have s0 := k1.reads (s0)
  have s1 := k1.reads (s1)
  have s2 := k1.reads (s2)
  have s3 := k1.reads (s3)
  have s4 := k1.reads (s4)
  have s5 := k1.reads (s5)
  have a0 := k1.reads (a0)
  have a1 := k1.reads (a1)
  have of_ : ∀ i, w7.frozen? ⟨w.heap.size + 1 + 1, i, none⟩ = false := fun i => (k1.2 _).trans (of_ i)
  have M7 : Hid (Made w.heap.size w w7) := M6.out.then_ (k1.low M6.out.1.size)
  clear k1 h1_ hf b1' b2' s2' s3' a0' a1'
  have loc : w.heap.size + 1 + 1 < w7.heap.size := World.block_lt_of_cell? _ _ o0
  have lsc : w2.heap.size < w7.heap.size := World.block_lt_of_cell? _ _ s4
  go_upto_region 14 with fail
  refine reg_float1 7 100 11 26 #[.int .i64 0, .int .i64 0] _ (by kernel_rfl) (by kernel_rfl) (by kernel_rfl) rfl rfl alc_V ?_
  apply Exists.intro
  refine ⟨?h3, ?h4⟩
  case h3 =>
    intro T' hT fw hf
    have b1 := Class.reads hf b1
    have b2 := Class.reads hf b2
    have s4 := Class.reads hf s4
    have s5 := Class.reads hf s5
    simp only [List.take_succ_cons, List.take_zero]
    repeat (go_big_quiet_step ((first
      | (go_at_call 48; with_reducible exact hf.made (vscale_is _ _ _ _ _ _ inx iny iR ESX.out ESY.out))
      | (go_at_call 29; with_reducible exact hf.made (vsub_is _ _ _ _ _ _ _ iX iY isx isy EAX.out EAY.out)))))
    exact wpQuiet_nil rfl
  intro ga w8 k8 hg hh
  have hh0 := hh.at_ 0
  have hh1 := hh.at_ 1
  simp at hh0 hh1
  have hhf : ∀ i, w8.frozen? ⟨ga, i, none⟩ = false := hh.free
  have o0 := k8.reads (o0)
  have o1 := k8.reads (o1)
  have o2 := k8.reads (o2)
  have s4 := k8.reads (s4)
  have s5 := k8.reads (s5)
  have of_ : ∀ i, w8.frozen? ⟨w.heap.size + 1 + 1, i, none⟩ = false := fun i => (k8.2 _).trans (of_ i)
  have M8 : Hid (Made w.heap.size w w8) := M7.out.then_ (k8.low M7.out.1.size)
  have lg8 : ga < w8.heap.size := hh.here
  have lsg : w2.heap.size < ga := by omega
  have log : w.heap.size + 1 + 1 < ga := by omega
  clear k8
  simp only [List.drop_succ_cons, List.drop_zero]
  go_upto_region 15 with fail
  obtain ⟨Wa, eW⟩ : ∃ W, W = (w8.setCell ⟨ga, 0, none⟩ (.int .i64 ax)).setCell ⟨ga, 1, none⟩ (.int .i64 ay) := ⟨_, rfl⟩
  have hG : Has Wa ga 26 #[.int .i64 ax, .int .i64 ay] := by rw [eW]; simpa using (hh.put 0 (.int .i64 ax)).put 1 (.int .i64 ay)
  have ne : ∀ j, j < ga → j ≠ ga := fun j hj => by omega
  have o0 : Wa.cell? ⟨w.heap.size + 1 + 1, 0, none⟩ = some (.int .i64 0) := by rw [eW]; exact cell_else (ne _ (by simp; omega)) (cell_else (ne _ (by simp; omega)) o0)
  have o1 : Wa.cell? ⟨w.heap.size + 1 + 1, 1, none⟩ = some (.int .i64 0) := by rw [eW]; exact cell_else (ne _ (by simp; omega)) (cell_else (ne _ (by simp; omega)) o1)
  have o2 : Wa.cell? ⟨w.heap.size + 1 + 1, 2, none⟩ = some (.slice none 0 0) := by rw [eW]; exact cell_else (ne _ (by simp; omega)) (cell_else (ne _ (by simp; omega)) o2)
  have s4 : Wa.cell? ⟨w2.heap.size, 4, none⟩ = some (.int .i64 nx) := by rw [eW]; exact cell_else (ne _ (by simp; omega)) (cell_else (ne _ (by simp; omega)) s4)
  have s5 : Wa.cell? ⟨w2.heap.size, 5, none⟩ = some (.int .i64 ny) := by rw [eW]; exact cell_else (ne _ (by simp; omega)) (cell_else (ne _ (by simp; omega)) s5)
  have of_ : ∀ i, Wa.frozen? ⟨w.heap.size + 1 + 1, i, none⟩ = false := fun i => by rw [eW]; simpa using of_ i
  have Ma : Hid (Made w.heap.size w Wa) := by unfold Hid; rw [eW]; exact (M8.out.put (by simp; omega) _).put (by simp; omega) _
  have loa : w.heap.size + 1 + 1 < Wa.heap.size := World.block_lt_of_cell? _ _ o0
  rw [← eW]
  clear eW hh hh0 hh1 hhf
  have g0 := hG.at_ 0
  have g1 := hG.at_ 1
  simp at g0 g1
  refine region_makes 10 100 [0, 1, 2, 3, 4, 5, 6, 7, 8] [9] (alQ ax ay dep (16 + i)) valQ (by kernel_rfl) (alQ_lasts _ _ _ _) (by kernel_rfl) rfl (by kernel_rfl) rfl ?_
  apply Exists.intro
  refine ⟨?h1, ?h2⟩
  case h1 =>
    intro T hT f hf
    have s4' := Class.reads hf s4
    have s5' := Class.reads hf s5
    have g0' := Class.reads hf g0
    have g1' := Class.reads hf g1
    change wpQuiet _ _ _ _ [_, _, _, _, _, _, _, _, _] _
    repeat (go_big_quiet_step ((go_at_call 45; with_reducible exact hf.same (sub_is _ _ _ _ iR ig ED.out))))
    exact wpQuiet_nil rfl
  refine ⟨_, 98, rfl, ⟨rfl, rfl, fun G u hu => ?mk1⟩, fun gp c => ?rest⟩
  case mk1 =>
    rw [show (execOp _ _).run Try.prog u = .ok (.value (.slice (some ⟨u.heap.size, 0, none⟩) 1 1)) (u.alloc (.cells #[.int .i64 ax, .int .i64 ay, .int .i64 dep, .int .i64 (16 + i)] 47)) by kernel_rfl]
    exact ⟨u.heap.size, 0, rfl, hu.next (alQ_lasts _ _ _ _) ((Made.rfl_ _ _).cells (Nat.le_refl _) _ _) (Nat.le_refl _) (by simp) (has_new _ _ _)⟩
  intro wz hu
  have q : upd (fun _ => none) 9 gp 9 = some gp := by unfold upd; simp
  obtain ⟨lgp, _, hrow⟩ := hu.2.1 9 gp q
  have hP : Has wz gp 47 #[.int .i64 ax, .int .i64 ay, .int .i64 dep, .int .i64 (16 + i)] := hrow
  have kz := hu.1
  have o0 := kz.reads (o0)
  have o1 := kz.reads (o1)
  have o2 := kz.reads (o2)
  have of_ : ∀ i, wz.frozen? ⟨w.heap.size + 1 + 1, i, none⟩ = false := fun i => (kz.2 _).trans (of_ i)
  have Mz : Hid (Made w.heap.size w wz) := Ma.out.then_ (kz.low Ma.out.1.size)
  have lgo : w.heap.size + 1 + 1 < gp := by omega
  have gne : gp ≠ w.heap.size + 1 + 1 := by omega
  have p0 := hP.at_ 0
  have p1 := hP.at_ 1
  have p2 := hP.at_ 2
  have p3 := hP.at_ 3
  simp at p0 p1 p2 p3
  rw [show valQ 9 gp c = .slice (some ⟨gp, 0, none⟩) 1 1 from rfl]
  simp only [List.drop_succ_cons, List.drop_zero]
  clear kz hu q lgp hrow hP
  go_wp2_with fail
  refine bodyPost_ret (v := .tuple #[tchV nx ny (some ⟨gp, 0, none⟩) 1 1, .bool true]) (by simp [results, Try.results24, go_sem, o0, o1, o2]) rfl (touchq_one (by omega) ?_ ?_ ?_ ?_ ?_)
  · exact cell_else gne (cell_else gne (cell_else gne p0))
  · exact cell_else gne (cell_else gne (cell_else gne p1))
  · exact cell_else gne (cell_else gne (cell_else gne p2))
  · exact cell_else gne (cell_else gne (cell_else gne p3))
  · exact ((Mz.out.put (by simp; try omega) _).put (by simp; try omega) _).put (by simp; try omega) _

theorem tpc_is (X Y A R : Int) (b off cap gN c2 n : Nat) (P : Cs) (w : World) (hn3 : 3 ≤ n) (h8 : n ≤ 8) (iX : I64 X) (iY : I64 Y) (iR : I64 R) (ho : OutAt w b off gN n P) (iP : Cin P n) (t : Option Tch) (et : mixedF P n (X, Y) R = t) :
    Calls Try.prog 24 #[outV b off cap gN c2 n, bodyV 0 X Y 0 0 A 0 0 1 R (.slice none 0 0)] w (TouchQ t w) := by
  subst et
  unfold mixedF mixedI
  by_cases hc : R ≤ gapF P n (fun _ => (X, Y)) 1 (sideF P n (fun _ => (X, Y)) 1)
  · rw [if_pos hc]
    exact tpc_none X Y A R b off cap gN c2 n P _ _ _ _ _ _ _ _ _ w hn3 h8 iX iY iR ho iP rfl rfl rfl rfl rfl rfl hc
  rw [if_neg hc]
  by_cases h0 : gapF P n (fun _ => (X, Y)) 1 (sideF P n (fun _ => (X, Y)) 1) ≤ 0
  · rw [if_pos h0]
    exact tpc_flat X Y A R b off cap gN c2 n P _ _ _ _ _ _ _ _ _ w hn3 h8 iX iY iR ho iP rfl rfl rfl rfl rfl rfl hc h0
  rw [if_neg h0]
  split
  · rename_i h1
    exact tpc_c1 X Y A R b off cap gN c2 n P _ _ _ _ _ _ _ _ _ w hn3 h8 iX iY iR ho iP rfl rfl rfl rfl rfl rfl hc h0 h1
  · rename_i h1
    split
    · rename_i h2
      exact tpc_c2 X Y A R b off cap gN c2 n P _ _ _ _ _ _ _ _ _ w hn3 h8 iX iY iR ho iP rfl rfl rfl rfl rfl rfl hc h0 h1 h2
    · rename_i h2
      exact tpc_side X Y A R b off cap gN c2 n P _ _ _ _ _ _ _ _ _ w hn3 h8 iX iY iR ho iP rfl rfl rfl rfl rfl rfl hc h0 h1 h2
end Go.Proofs.Ytmfkcdinfahjlaa.Fx
