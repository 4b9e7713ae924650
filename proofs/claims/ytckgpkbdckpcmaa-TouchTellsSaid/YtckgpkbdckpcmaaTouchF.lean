/- The statements' own mixed: a polygon and a circle. -/
import Derived.Test.YtckgpkbdckpcmaaTouchC
import Derived.Test.YtckgpkbdckpcmaaMex
import Derived.Deep.DeepCutAuto
namespace Go.Proofs.Ytckgpkbdckpcmaa.Fx
open Go.ChangeShapes Go.WideShapes Go.ChangeAt Go.RowKit
set_option linter.unusedVariables false

set_option maxRecDepth 100000 in
set_option maxHeartbeats 1000000 in
theorem lmixed_bfar (X Y A : Int) (b off n cap : Nat) (f : Cs) (cx cy R A2 : Int) (P : Cs) (w : World) (iX : I64 X) (iY : I64 Y) (iA : I64 A) (hn3 : 3 ≤ n) (h8 : n ≤ 8) (hp : Pts w b off n f) (hi : Cin f n) (hP : placeF f (cs (stepF A)) (sn (stepF A)) X Y = P) (icx : I64 cx) (icy : I64 cy) (iR : I64 R) (i : Nat) (ei : sideF P n (fun _ => (cx, cy)) 1 = i) (h1 : ¬ R ≤ gapF P n (fun _ => (cx, cy)) 1 i) (h2 : ¬ gapF P n (fun _ => (cx, cy)) 1 i ≤ 0) (h3 : ¬ dotV (subV (cx, cy) (P i)) (subV (P ((i + 1) % n)) (P i)) ≤ 0) (h4 : dotV (subV (cx, cy) (P ((i + 1) % n))) (negV (subV (P ((i + 1) % n)) (P i))) ≤ 0) (h5 : R ≤ lenV (subV (cx, cy) (P ((i + 1) % n)))) :
    Calls Try.prog 34 #[bodyV 0 X Y 0 0 A 0 0 2 0 (.slice (some ⟨b, off, none⟩) n cap), bodyV 0 cx cy 0 0 A2 0 0 1 R (.slice none 0 0)] w (TouchR (mixedI P n (cx, cy) R i) w) := by
  have hn : 0 < n := by omega
  have hin : i < n := by rw [← ei]; have := firstF_le (gapF P n (fun _ => (cx, cy)) 1) (n - 1); unfold sideF; omega
  have iP : Cin P n := by rw [← hP]; exact fun j hj => ⟨i64_add _ _, i64_add _ _⟩
  obtain ⟨k, ek⟩ : ∃ k, (i + 1) % n = k := ⟨_, rfl⟩
  have hkn : k < n := by rw [← ek]; exact Nat.mod_lt _ hn
  have km : ((i : Int) + 1).tmod (n : Int) = (k : Int) := by
    rw [Int.tmod_eq_emod_of_nonneg (by omega), ← ek, Int.natCast_emod, Int.natCast_add]; rfl
  have km' : ((i : Int) + 1) % (n : Int) = (k : Int) := by
    rw [← ek, Int.natCast_emod, Int.natCast_add]; rfl
  obtain ⟨g, eg⟩ : ∃ z, gapF P n (fun _ => (cx, cy)) 1 i = z := ⟨_, rfl⟩
  have ig : I64 g := by rw [← eg]; exact i64_gap _ _ _ _ _
  obtain ⟨N, eN⟩ : ∃ z, normF P n i = z := ⟨_, rfl⟩
  obtain ⟨nx, ny⟩ := N
  have iN := i64_norm P n i
  rw [eN] at iN
  obtain ⟨inx, iny⟩ := iN
  obtain ⟨VI, eVI⟩ : ∃ z, P i = z := ⟨_, rfl⟩
  obtain ⟨px, py⟩ := VI
  obtain ⟨ipx, ipy⟩ := iP i hin
  rw [eVI] at ipx ipy
  obtain ⟨VK, eVK⟩ : ∃ z, P k = z := ⟨_, rfl⟩
  obtain ⟨qx, qy⟩ := VK
  obtain ⟨iqx, iqy⟩ := iP k hkn
  rw [eVK] at iqx iqy
  obtain ⟨ex, eex⟩ : ∃ z, subF qx px = z := ⟨_, rfl⟩
  have iex : I64 ex := by rw [← eex]; exact i64_sub _ _
  obtain ⟨ey, eey⟩ : ∃ z, subF qy py = z := ⟨_, rfl⟩
  have iey : I64 ey := by rw [← eey]; exact i64_sub _ _
  have eE : subV (qx, qy) (px, py) = (ex, ey) := by unfold subV; simp only []; rw [eex, eey]
  obtain ⟨ux, eux⟩ : ∃ z, subF cx px = z := ⟨_, rfl⟩
  have iux : I64 ux := by rw [← eux]; exact i64_sub _ _
  obtain ⟨uy, euy⟩ : ∃ z, subF cy py = z := ⟨_, rfl⟩
  have iuy : I64 uy := by rw [← euy]; exact i64_sub _ _
  have eU : subV (cx, cy) (px, py) = (ux, uy) := by unfold subV; simp only []; rw [eux, euy]
  obtain ⟨zx, ezx⟩ : ∃ z, subF cx qx = z := ⟨_, rfl⟩
  have izx : I64 zx := by rw [← ezx]; exact i64_sub _ _
  obtain ⟨zy, ezy⟩ : ∃ z, subF cy qy = z := ⟨_, rfl⟩
  have izy : I64 zy := by rw [← ezy]; exact i64_sub _ _
  have eZ : subV (cx, cy) (qx, qy) = (zx, zy) := by unfold subV; simp only []; rw [ezx, ezy]
  obtain ⟨fx, efx⟩ : ∃ z, negF ex = z := ⟨_, rfl⟩
  have ifx : I64 fx := by rw [← efx]; exact i64_neg iex
  obtain ⟨fy, efy⟩ : ∃ z, negF ey = z := ⟨_, rfl⟩
  have ify : I64 fy := by rw [← efy]; exact i64_neg iey
  have eF : negV (ex, ey) = (fx, fy) := by unfold negV; simp only []; rw [efx, efy]
  obtain ⟨d0, ed0⟩ : ∃ z, addF (mulF ux ex) (mulF uy ey) = z := ⟨_, rfl⟩
  obtain ⟨d1, ed1⟩ : ∃ z, addF (mulF zx fx) (mulF zy fy) = z := ⟨_, rfl⟩
  have eD0 : dotV (ux, uy) (ex, ey) = d0 := ed0
  have eD1 : dotV (zx, zy) (fx, fy) = d1 := ed1
  simp only [eg] at h1 h2
  simp only [ek, eVI, eVK, eE, eU, eZ, eF, eD0, eD1] at h3 h4 h5
  obtain ⟨m, em⟩ : ∃ z, lenF zx zy = z := ⟨_, rfl⟩
  have im : I64 m := by rw [← em]; exact i64_sqrt _
  have eM : lenV (zx, zy) = m := em
  rw [eM] at h5
  have HW : Hid (mixedI P n (cx, cy) R i = none) := by unfold Hid mixedI; simp only [eg, ek, eVI, eVK, eE, eU, eZ, eF, eD0, eD1]; rw [if_neg h1, if_neg h2, if_neg h3, if_pos h4]; unfold cornerF; rw [eM, if_pos h5]
  have EM := hid em
  clear em eM
  rw [HW.out]
  clear HW
  have EEX := hid eex; have EEY := hid eey; have EUX := hid eux; have EUY := hid euy; have EZX := hid ezx; have EZY := hid ezy; have EFX := hid efx; have EFY := hid efy; have ED0 := hid ed0; have ED1 := hid ed1
  clear eex eey eux euy ezx ezy efx efy ed0 ed1 eE eU eZ eF eD0 eD1
  have HC := hid (fun w hp => lcorners_is X Y A b off n cap f w iX iY iA hn3 h8 hp hi P hP)
  have HG := hid (fun g g2 w hq hp => gaps_is g 0 n n g2 0 1 P (fun _ => (cx, cy)) w hn h8 (by omega) (by omega) hp hq iP (fun _ _ => ⟨icx, icy⟩))
  have HF := hid (fun g c w q => first_is g n c (gapF P n (fun _ => (cx, cy)) 1) w hn h8 q)
  rw [show firstF (gapF P n (fun _ => (cx, cy)) 1) (n - 1) = i from ei] at HF
  have HNn := hid (fun g w hp => normals_is g 0 n n P w hn h8 hp iP)
  have HP := hid hp
  have EGG := hid eg
  have EN := hid eN; have EVI := hid eVI; have EVK := hid eVK
  clear hp hi hP ei ek eg eN eVI eVK iP
  go_enter Try.func34, Try.ntmps34
  go_wp2_with fail
  obtain ⟨W0, eW⟩ : ∃ W, W = ((w.alloc (.cells #[.int .i64 0, .int .i64 X, .int .i64 Y, .int .i64 0, .int .i64 0, .int .i64 A, .int .i64 0, .int .i64 0, .int .i64 2, .int .i64 0, .slice (some ⟨b, off, none⟩) n cap] 34)).alloc (.cells #[.int .i64 0, .int .i64 cx, .int .i64 cy, .int .i64 0, .int .i64 0, .int .i64 A2, .int .i64 0, .int .i64 0, .int .i64 1, .int .i64 R, .slice none 0 0] 34)).alloc (.cells #[.int .i64 0, .int .i64 0, .slice none 0 0] 38) := ⟨_, rfl⟩
  have hA0 : Has W0 w.heap.size 34 #[.int .i64 0, .int .i64 X, .int .i64 Y, .int .i64 0, .int .i64 0, .int .i64 A, .int .i64 0, .int .i64 0, .int .i64 2, .int .i64 0, .slice (some ⟨b, off, none⟩) n cap] := by rw [eW]; exact ((has_new _ _ _).more _).more _
  have hB0 : Has W0 (w.heap.size + 1) 34 #[.int .i64 0, .int .i64 cx, .int .i64 cy, .int .i64 0, .int .i64 0, .int .i64 A2, .int .i64 0, .int .i64 0, .int .i64 1, .int .i64 R, .slice none 0 0] := by rw [eW]; exact (has_next _ _ _ _).more _
  have hO0 : Has W0 (w.heap.size + 1 + 1) 38 #[.int .i64 0, .int .i64 0, .slice none 0 0] := by rw [eW]; simpa using has_new ((w.alloc (.cells #[.int .i64 0, .int .i64 X, .int .i64 Y, .int .i64 0, .int .i64 0, .int .i64 A, .int .i64 0, .int .i64 0, .int .i64 2, .int .i64 0, .slice (some ⟨b, off, none⟩) n cap] 34)).alloc (.cells #[.int .i64 0, .int .i64 cx, .int .i64 cy, .int .i64 0, .int .i64 0, .int .i64 A2, .int .i64 0, .int .i64 0, .int .i64 1, .int .i64 R, .slice none 0 0] 34)) 38 #[.int .i64 0, .int .i64 0, .slice none 0 0]
  have M0 : Hid (Made w.heap.size w W0) := by unfold Hid; rw [eW]; exact (((Made.rfl_ _ _).cells (Nat.le_refl _) _ _).cells (by simp) _ _).cells (by simp; omega) _ _
  have HPW : Hid (∀ v, Made W0.heap.size W0 v → Pts v b off n f) := fun v kv => HP.out.kept (M0.out.then_ (kv.low M0.out.1.size))
  rw [← eW]
  clear eW
  have a0 := hA0.at_ 0
  have a1 := hA0.at_ 1
  have a2 := hA0.at_ 2
  have a3 := hA0.at_ 3
  have a4 := hA0.at_ 4
  have a5 := hA0.at_ 5
  have a6 := hA0.at_ 6
  have a7 := hA0.at_ 7
  have a8 := hA0.at_ 8
  have a9 := hA0.at_ 9
  have a10 := hA0.at_ 10
  have b9 := hB0.at_ 9
  simp at a0 a1 a2 a3 a4 a5 a6 a7 a8 a9 a10 b9
  have HB0 := hid hB0
  have HO0 := hid hO0
  go_cut [6, 7] (fun s6 s7 wx => ∃ gp, s6 = .slice (some ⟨gp, 0, none⟩) n n ∧ s7 = .int .i64 R ∧ Hid (Row wx gp 26 n P) ∧ Hid (Made W0.heap.size W0 wx))
  case first =>
    go_region_with (go_at_call 21; refine (HC.out _ (HPW.out _ ((Made.rfl_ _ _).draws 1))).mono ?_; rintro e w1 ⟨gp, rfl, hr, hgp, k1⟩; have b9 := k1.reads (p := ⟨w.heap.size + 1, 9, none⟩) (x := .int .i64 R) (by go_simp); have HR1 := hid hr; have HK1 := hid ((((Made.rfl_ _ _).draws 1 : Made W0.heap.size W0 _)).then_ k1); clear hr k1 hgp)
    all_goals (go_wp2_with fail)
    all_goals go_meet
    all_goals exact ⟨gp, rfl, rfl, HR1, HK1⟩
  obtain ⟨gp, rfl, rfl, RP, HK⟩ := hcut
  rename World => w1
  have hB1 := HB0.out.stays HK.out HB0.out.here
  have hO1 := HO0.out.stays HK.out HO0.out.here
  have M1 : Hid (Made w.heap.size w w1) := M0.out.then_ (HK.out.low M0.out.1.size)
  have lo1 : w.heap.size + 1 + 1 < w1.heap.size := hO1.here
  have HB1 := hid hB1
  have HO1 := hid hO1
  have x1 := hB1.at_ 1
  have x2 := hB1.at_ 2
  simp at x1 x2
  clear hB0 hO0 hA0 M0 HPW hB1 hO1 a0 a1 a2 a3 a4 a5 a6 a7 a8 a9 a10 b9 HB0 HO0 HK
  go_wp2_with fail
  refine (HG.out gp w1.heap.size _ (fun j hj => by obtain rfl : j = 0 := (by omega); exact ⟨by go_simp, by go_simp⟩) (RP.out.more _).pts).mono ?_
  rintro e w2 ⟨gl, cl, rfl, hI, k2⟩
  have K2 : Hid (Made w1.heap.size w1 w2) := made_box k2
  have HI2 := hid hI
  clear k2 hI x1 x2
  go_wp2_with fail
  refine (HF.out gl cl w2 HI2.out).mono ?_
  rintro e w3 ⟨rfl, k3⟩
  have K3 : Hid (Made w1.heap.size w1 w3) := K2.out.then_ (k3.low K2.out.1.size)
  have HI3 := hid (HI2.out.kept k3)
  clear k3 HI2
  go_wp2_with fail
  refine (HNn.out gp w3 (RP.out.stays K3.out RP.out.here).pts).mono ?_
  rintro e w4 ⟨gn, rfl, hgn, hRN, k4⟩
  have K4 : Hid (Made w1.heap.size w1 w4) := K3.out.then_ (k4.low K3.out.1.size)
  have HI4 := hid (HI3.out.kept k4)
  obtain ⟨n0, n1⟩ := hRN.pts i hin
  rw [EN.out, Nat.zero_add] at n0 n1
  clear k4 hgn hRN HI3
  go_upto_region 5 with fail
  obtain ⟨W5, eW⟩ : ∃ W, W = w4.alloc (.cells #[.int .i64 nx, .int .i64 ny] 26) := ⟨_, rfl⟩
  obtain ⟨Bn, eBn⟩ : ∃ B, w4.heap.size = B := ⟨_, rfl⟩
  have K5 : Hid (Made w1.heap.size w1 W5) := by unfold Hid; rw [eW]; exact K4.out.cells K4.out.1.size _ _
  have hN5 : Has W5 Bn 26 #[.int .i64 nx, .int .i64 ny] := by rw [eW, ← eBn]; exact has_new _ _ _
  have c0 := (HI4.out i hin)
  have c0 := cell_new eW c0
  rw [EGG.out] at c0
  have lgl5 : gl < W5.heap.size := World.block_lt_of_cell? _ _ c0
  have lBn : Bn < W5.heap.size := hN5.here
  have lwn : w1.heap.size ≤ Bn := by rw [← eBn]; exact K4.out.1.size
  rw [← eW, eBn]
  clear eW eBn n0 n1
  have HN5 := hid hN5
  have HC0 := hid c0
  obtain ⟨p0, p1⟩ := (RP.out.stays K5.out RP.out.here).pts i hin
  rw [EVI.out, Nat.zero_add] at p0 p1
  obtain ⟨q0, q1⟩ := (RP.out.stays K5.out RP.out.here).pts k hkn
  rw [EVK.out, Nat.zero_add] at q0 q1
  go_upto_region 9 with fail
  refine reg_float1 9 137 13 26 #[.int .i64 0, .int .i64 0] _ (by kernel_rfl) (by kernel_rfl) (by kernel_rfl) rfl rfl alc_V ?_
  apply Exists.intro
  refine ⟨?h3, ?h4⟩
  case h3 =>
    intro T' hT fw hf
    have p0 := Class.reads hf p0
    have p1 := Class.reads hf p1
    have q0 := Class.reads hf q0
    have q1 := Class.reads hf q1
    simp only [List.take_succ_cons, List.take_zero]
    repeat (go_big_quiet_step ((go_at_call 19; with_reducible exact hf.made (vsub_is _ _ _ _ _ _ _ iqx iqy ipx ipy EEX.out EEY.out))))
    exact wpQuiet_nil rfl
  intro Be w9 k9 hg hh
  have hh0 := hh.at_ 0
  have hh1 := hh.at_ 1
  simp at hh0 hh1
  have hhf : ∀ i, w9.frozen? ⟨Be, i, none⟩ = false := hh.free
  simp only [List.drop_succ_cons, List.drop_zero]
  go_upto_region 10 with fail
  obtain ⟨Wa, eW⟩ : ∃ W, W = (w9.setCell ⟨Be, 0, none⟩ (.int .i64 ex)).setCell ⟨Be, 1, none⟩ (.int .i64 ey) := ⟨_, rfl⟩
  have hEa : Has Wa Be 26 #[.int .i64 ex, .int .i64 ey] := by rw [eW]; simpa using (hh.put 0 (.int .i64 ex)).put 1 (.int .i64 ey)
  have k9a : Made W5.heap.size W5 Wa := by rw [eW]; exact (k9.put (by simp; omega) _).put (by simp; omega) _
  have Ka : Hid (Made w1.heap.size w1 Wa) := K5.out.then_ (k9a.low K5.out.1.size)
  have hNa := HN5.out.stays k9a lBn
  have HCa := hid (k9a.reads HC0.out)
  have HNa := hid hNa
  have HEa := hid hEa
  have lBe : Be < Wa.heap.size := hEa.here
  have lBna : Bn < Wa.heap.size := hNa.here
  have lgp : gp < w1.heap.size := RP.out.here
  have nBe : Bn ≠ Be := by omega
  have lgl : gl < Be := by omega
  have lbr : Bn < Be := by omega
  have lwe : w1.heap.size ≤ Be := by have := K5.out.1.size; omega
  obtain ⟨p0, p1⟩ := (RP.out.stays Ka.out lgp).pts i hin
  rw [EVI.out, Nat.zero_add] at p0 p1
  obtain ⟨q0, q1⟩ := (RP.out.stays Ka.out lgp).pts k hkn
  rw [EVK.out, Nat.zero_add] at q0 q1
  rw [← eW]
  clear eW k9 hh hh0 hh1 hhf c0 HC0 HN5 hN5 hg k9a hNa hEa HI4 K5 K4 K3 K2
  go_upto_region 10 with fail
  go_cut [71, 72, 73] (fun s1 s2 s3 wx => ∃ Bv, s1 = .slice (some ⟨Bv, 0, none⟩) 2 2 ∧ s2 = .int .i64 2 ∧ s3 = .int .i64 0 ∧ Wa.heap.size ≤ Bv ∧ Hid (Has wx Bv 26 #[.int .i64 px, .int .i64 py, .int .i64 qx, .int .i64 qy]) ∧ Hid (Made Wa.heap.size Wa wx))
  case first =>
    go_region
    all_goals (go_wp2_with fail)
    all_goals go_meet
    all_goals exact ⟨Wa.heap.size, rfl, rfl, rfl, by omega, (has_new _ _ _).drawn 1, ((Made.rfl_ _ _).cells (Nat.le_refl _) _ _).draws 1⟩
  obtain ⟨Bv, rfl, rfl, rfl, lBv, HV, HM⟩ := hcut
  have Kb : Hid (Made w1.heap.size w1 wc) := Ka.out.then_ (HM.out.low Ka.out.1.size)
  have HNb := hid (HNa.out.stays HM.out lBna)
  have HEb := hid (HEa.out.stays HM.out lBe)
  have HCb := hid (HM.out.reads HCa.out)
  have lVc : Bv < wc.heap.size := HV.out.here
  rename World => Wb
  clear p0 p1 q0 q1 HM HNa HEa HCa Ka
  have lwBe : Be < Wb.heap.size := HEb.out.here
  go_wp2_with fail
  go_loopg [73] 2 (fun gg j wr => Hid (Has wr Bv 26 #[.int .i64 px, .int .i64 py, .int .i64 qx, .int .i64 qy]) ∧ Hid (Made Be Wb wr) ∧ ((gg = 2 ∧ j = .int .i64 0 ∧ Hid (Has wr Be 26 #[.int .i64 ex, .int .i64 ey])) ∨ (gg = 1 ∧ j = .int .i64 1 ∧ Hid (Has wr Be 26 #[.int .i64 ex, .int .i64 ey]))))
  case atStart => exact ⟨HV, Made.rfl_ _ _, .inl ⟨rfl, rfl, HEb⟩⟩
  case round =>
    obtain ⟨HVr, HMr, (⟨hgg, rfl, HE⟩ | ⟨hgg, rfl, HE⟩)⟩ := hrel
    have Kr : Hid (Made w1.heap.size w1 wr) := Kb.out.then_ (HMr.out.low lwe)
    · have Kr : Hid (Made w1.heap.size w1 wr) := Kb.out.then_ (HMr.out.low lwe)
      have hV := HVr.out
      have v0 := hV.at_ 0
      have v1 := hV.at_ 1
      simp at v0 v1
      have hB := HB1.out.stays Kr.out HB1.out.here
      have b1 := hB.at_ 1
      have b2 := hB.at_ 2
      simp at b1 b2
      have lb1 : w.heap.size + 1 < wr.heap.size := World.block_lt_of_cell? _ _ b1
      have lrv : Bv < wr.heap.size := HVr.out.here
      clear hB hV
      go_wp2_with fail
      refine (vsub_is cx cy px py ux uy _ icx icy ipx ipy EUX.out EUY.out).mono ?_
      rintro e w2 ⟨rfl, k2⟩
      have lr : Be < wr.heap.size := HE.out.here
      have lrv : Bv < wr.heap.size := HVr.out.here
      have HE2 := hid (HE.out.stays (made_box k2) lr)
      have HV2 := hid (HVr.out.stays (made_box k2) lrv)
      have HC2 : Hid (Has w2 wr.heap.size 26 #[.int .i64 px, .int .i64 py]) := (has_new _ _ _).stays k2 (by simp)
      have HM2 : Hid (Made Be Wb w2) := HMr.out.then_ ((made_box k2).low (Nat.le_of_lt lr))
      clear k2 v0 v1 b1 b2
      go_upto_region 14 with fail
      obtain ⟨W3, eW⟩ : ∃ W, W = w2.alloc (.cells #[.int .i64 ux, .int .i64 uy] 26) := ⟨_, rfl⟩
      obtain ⟨Bu, eBu⟩ : ∃ B, w2.heap.size = B := ⟨_, rfl⟩
      obtain ⟨Bc, eBc⟩ : ∃ B, wr.heap.size = B := ⟨_, rfl⟩
      have HU3 : Hid (Has W3 Bu 26 #[.int .i64 ux, .int .i64 uy]) := by unfold Hid; rw [eW, ← eBu]; exact has_new _ _ _
      have HE3 : Hid (Has W3 Be 26 #[.int .i64 ex, .int .i64 ey]) := by unfold Hid; rw [eW]; exact HE2.out.more _
      have HV3 : Hid (Has W3 Bv 26 #[.int .i64 px, .int .i64 py, .int .i64 qx, .int .i64 qy]) := by unfold Hid; rw [eW]; exact HV2.out.more _
      have HC3 : Hid (Has W3 Bc 26 #[.int .i64 px, .int .i64 py]) := by unfold Hid; rw [eW, ← eBc]; exact HC2.out.more _
      have HM3 : Hid (Made Be Wb W3) := by unfold Hid; rw [eW]; exact HM2.out.cells (by have := HE2.out.here; omega) _ _
      have lc3 : Bc < Bu := by rw [← eBc, ← eBu]; exact HC2.out.here
      have lce : Be < Bc := by omega
      have lcv : Bv < Bc := by omega
      rw [← eW, eBu, eBc]
      clear eW eBu eBc HE2 HV2 HC2 HM2
      have e0 := HE3.out.at_ 0
      have e1 := HE3.out.at_ 1
      have u0 := HU3.out.at_ 0
      have u1 := HU3.out.at_ 1
      simp at e0 e1 u0 u1
      go_wp2_with fail
      refine (vdot_is ux uy ex ey d0 _ iux iuy iex iey ED0.out).mono ?_
      rintro e w5 ⟨rfl, k5⟩
      have HM5 : Hid (Made Be Wb w5) := HM3.out.then_ (k5.low (by have := HE3.out.here; omega))
      have HV5 := hid (HV3.out.stays k5 HV3.out.here)
      have HE5 := hid (HE3.out.stays k5 HE3.out.here)
      have HU5 := hid (HU3.out.stays k5 HU3.out.here)
      have HC5 := hid (HC3.out.stays k5 HC3.out.here)
      clear k5 e0 e1 u0 u1
      have gd : decide (0 < d0) = true := by exact decide_eq_true (by omega)
      go_wp2_with fail
      go_roundg 1
      case rel => exact ⟨HV5, HM5, .inr ⟨rfl, by go_num, HE5⟩⟩
      case measure => omega
    · have Kr : Hid (Made w1.heap.size w1 wr) := Kb.out.then_ (HMr.out.low lwe)
      have hV := HVr.out
      have v0 := hV.at_ 2
      have v1 := hV.at_ 3
      simp at v0 v1
      have hB := HB1.out.stays Kr.out HB1.out.here
      have b1 := hB.at_ 1
      have b2 := hB.at_ 2
      simp at b1 b2
      have lb1 : w.heap.size + 1 < wr.heap.size := World.block_lt_of_cell? _ _ b1
      have lrv : Bv < wr.heap.size := HVr.out.here
      clear hB hV
      go_wp2_with fail
      refine (vsub_is cx cy qx qy zx zy _ icx icy iqx iqy EZX.out EZY.out).mono ?_
      rintro e w2 ⟨rfl, k2⟩
      have lr : Be < wr.heap.size := HE.out.here
      have lrv : Bv < wr.heap.size := HVr.out.here
      have HE2 := hid (HE.out.stays (made_box k2) lr)
      have HV2 := hid (HVr.out.stays (made_box k2) lrv)
      have HC2 : Hid (Has w2 wr.heap.size 26 #[.int .i64 qx, .int .i64 qy]) := (has_new _ _ _).stays k2 (by simp)
      have HM2 : Hid (Made Be Wb w2) := HMr.out.then_ ((made_box k2).low (Nat.le_of_lt lr))
      clear k2 v0 v1 b1 b2
      go_upto_region 14 with fail
      obtain ⟨W3, eW⟩ : ∃ W, W = w2.alloc (.cells #[.int .i64 zx, .int .i64 zy] 26) := ⟨_, rfl⟩
      obtain ⟨Bu, eBu⟩ : ∃ B, w2.heap.size = B := ⟨_, rfl⟩
      obtain ⟨Bc, eBc⟩ : ∃ B, wr.heap.size = B := ⟨_, rfl⟩
      have HU3 : Hid (Has W3 Bu 26 #[.int .i64 zx, .int .i64 zy]) := by unfold Hid; rw [eW, ← eBu]; exact has_new _ _ _
      have HE3 : Hid (Has W3 Be 26 #[.int .i64 ex, .int .i64 ey]) := by unfold Hid; rw [eW]; exact HE2.out.more _
      have HV3 : Hid (Has W3 Bv 26 #[.int .i64 px, .int .i64 py, .int .i64 qx, .int .i64 qy]) := by unfold Hid; rw [eW]; exact HV2.out.more _
      have HC3 : Hid (Has W3 Bc 26 #[.int .i64 qx, .int .i64 qy]) := by unfold Hid; rw [eW, ← eBc]; exact HC2.out.more _
      have HM3 : Hid (Made Be Wb W3) := by unfold Hid; rw [eW]; exact HM2.out.cells (by have := HE2.out.here; omega) _ _
      have lc3 : Bc < Bu := by rw [← eBc, ← eBu]; exact HC2.out.here
      have lce : Be < Bc := by omega
      have lcv : Bv < Bc := by omega
      rw [← eW, eBu, eBc]
      clear eW eBu eBc HE2 HV2 HC2 HM2
      have e0 := HE3.out.at_ 0
      have e1 := HE3.out.at_ 1
      simp at e0 e1
      go_wp2_with fail
      refine (vneg_is ex ey fx fy _ iex iey EFX.out EFY.out).mono ?_
      rintro e w4 ⟨rfl, k4⟩
      have hE4 := HE3.out.stays k4 HE3.out.here
      have HU4 := hid (HU3.out.stays k4 HU3.out.here)
      have HV4 := hid (HV3.out.stays k4 HV3.out.here)
      have HC4 := hid (HC3.out.stays k4 HC3.out.here)
      have HM4 : Hid (Made Be Wb w4) := HM3.out.then_ (k4.low (by have := HE3.out.here; omega))
      have e0 := hE4.at_ 0
      have e1 := hE4.at_ 1
      simp at e0 e1
      have ef : ∀ i, w4.frozen? ⟨Be, i, none⟩ = false := hE4.free
      have lve : Bv ≠ Be := by have := HEb.out.here; omega
      clear k4 HU3 HV3 HC3 HM3
      go_upto_region 16 with fail
      obtain ⟨W3, eW⟩ : ∃ W, W = (w4.setCell ⟨Be, 0, none⟩ (.int .i64 fx)).setCell ⟨Be, 1, none⟩ (.int .i64 fy) := ⟨_, rfl⟩
      have HE3 : Hid (Has W3 Be 26 #[.int .i64 fx, .int .i64 fy]) := by unfold Hid; rw [eW]; simpa using (hE4.put 0 (.int .i64 fx)).put 1 (.int .i64 fy)
      have HU3 : Hid (Has W3 Bu 26 #[.int .i64 zx, .int .i64 zy]) := by unfold Hid; rw [eW]; exact (HU4.out.other _ (by simp; omega) _).other _ (by simp; omega) _
      have HV3 : Hid (Has W3 Bv 26 #[.int .i64 px, .int .i64 py, .int .i64 qx, .int .i64 qy]) := by unfold Hid; rw [eW]; exact (HV4.out.other _ (by simp; omega) _).other _ (by simp; omega) _
      have HC3 : Hid (Has W3 Bc 26 #[.int .i64 qx, .int .i64 qy]) := by unfold Hid; rw [eW]; exact (HC4.out.other _ (by simp; omega) _).other _ (by simp; omega) _
      have HM3 : Hid (Made Be Wb W3) := by unfold Hid; rw [eW]; exact (HM4.out.put (by simp) _).put (by simp) _
      rw [← eW]
      clear eW HU4 HV4 HC4 HM4 hE4 ef e0 e1
      have e0 := HE3.out.at_ 0
      have e1 := HE3.out.at_ 1
      have u0 := HU3.out.at_ 0
      have u1 := HU3.out.at_ 1
      simp at e0 e1 u0 u1
      go_wp2_with fail
      refine (vdot_is zx zy fx fy d1 _ izx izy ifx ify ED1.out).mono ?_
      rintro e w5 ⟨rfl, k5⟩
      have HM5 : Hid (Made Be Wb w5) := HM3.out.then_ (k5.low (by have := HE3.out.here; omega))
      have HV5 := hid (HV3.out.stays k5 HV3.out.here)
      have HE5 := hid (HE3.out.stays k5 HE3.out.here)
      have HU5 := hid (HU3.out.stays k5 HU3.out.here)
      have HC5 := hid (HC3.out.stays k5 HC3.out.here)
      clear k5 e0 e1 u0 u1
      have gd : decide (0 < d1) = false := by exact decide_eq_false (by omega)
      have u0 := HU5.out.at_ 0
      have u1 := HU5.out.at_ 1
      simp at u0 u1
      go_wp2_with fail
      refine (vlen_is zx zy m _ izx izy EM.out).mono ?_
      rintro e w6 ⟨rfl, k6⟩
      have HM6 : Hid (Made Be Wb w6) := HM5.out.then_ (k6.low (by have := HE5.out.here; omega))
      have K6 : Hid (Made w1.heap.size w1 w6) := Kb.out.then_ (HM6.out.low lwe)
      clear k6 u0 u1
      have hO := HO1.out.stays K6.out lo1
      have o0 := hO.at_ 0
      have o1 := hO.at_ 1
      have o2 := hO.at_ 2
      simp at o0 o1 o2
      have of_ : ∀ i, w6.frozen? ⟨w.heap.size + 1 + 1, i, none⟩ = false := hO.free
      have MO : Hid (Made w.heap.size w w6) := M1.out.then_ (K6.out.low M1.out.1.size)
      clear hO
      go_wp2_with fail
      refine bodyPost_ret (v := .tuple #[tchV 0 0 none 0 0, .bool false]) (by simp [results, Try.results34, go_sem, o0, o1, o2]) rfl (touch_none ?_)
      exact ((MO.out.put (by simp; try omega) _).put (by simp; try omega) _).put (by simp; try omega) _

set_option maxRecDepth 100000 in
set_option maxHeartbeats 1000000 in
theorem lmixed_bunit (X Y A : Int) (b off n cap : Nat) (f : Cs) (cx cy R A2 : Int) (P : Cs) (w : World) (iX : I64 X) (iY : I64 Y) (iA : I64 A) (hn3 : 3 ≤ n) (h8 : n ≤ 8) (hp : Pts w b off n f) (hi : Cin f n) (hP : placeF f (cs (stepF A)) (sn (stepF A)) X Y = P) (icx : I64 cx) (icy : I64 cy) (iR : I64 R) (i : Nat) (ei : sideF P n (fun _ => (cx, cy)) 1 = i) (h1 : ¬ R ≤ gapF P n (fun _ => (cx, cy)) 1 i) (h2 : ¬ gapF P n (fun _ => (cx, cy)) 1 i ≤ 0) (h3 : ¬ dotV (subV (cx, cy) (P i)) (subV (P ((i + 1) % n)) (P i)) ≤ 0) (h4 : dotV (subV (cx, cy) (P ((i + 1) % n))) (negV (subV (P ((i + 1) % n)) (P i))) ≤ 0) (h5 : ¬ R ≤ lenV (subV (cx, cy) (P ((i + 1) % n)))) (h6 : lenV (subV (cx, cy) (P ((i + 1) % n))) ≠ 0) :
    Calls Try.prog 34 #[bodyV 0 X Y 0 0 A 0 0 2 0 (.slice (some ⟨b, off, none⟩) n cap), bodyV 0 cx cy 0 0 A2 0 0 1 R (.slice none 0 0)] w (TouchR (mixedI P n (cx, cy) R i) w) := by
  have hn : 0 < n := by omega
  have hin : i < n := by rw [← ei]; have := firstF_le (gapF P n (fun _ => (cx, cy)) 1) (n - 1); unfold sideF; omega
  have iP : Cin P n := by rw [← hP]; exact fun j hj => ⟨i64_add _ _, i64_add _ _⟩
  obtain ⟨k, ek⟩ : ∃ k, (i + 1) % n = k := ⟨_, rfl⟩
  have hkn : k < n := by rw [← ek]; exact Nat.mod_lt _ hn
  have km : ((i : Int) + 1).tmod (n : Int) = (k : Int) := by
    rw [Int.tmod_eq_emod_of_nonneg (by omega), ← ek, Int.natCast_emod, Int.natCast_add]; rfl
  have km' : ((i : Int) + 1) % (n : Int) = (k : Int) := by
    rw [← ek, Int.natCast_emod, Int.natCast_add]; rfl
  obtain ⟨g, eg⟩ : ∃ z, gapF P n (fun _ => (cx, cy)) 1 i = z := ⟨_, rfl⟩
  have ig : I64 g := by rw [← eg]; exact i64_gap _ _ _ _ _
  obtain ⟨N, eN⟩ : ∃ z, normF P n i = z := ⟨_, rfl⟩
  obtain ⟨nx, ny⟩ := N
  have iN := i64_norm P n i
  rw [eN] at iN
  obtain ⟨inx, iny⟩ := iN
  obtain ⟨VI, eVI⟩ : ∃ z, P i = z := ⟨_, rfl⟩
  obtain ⟨px, py⟩ := VI
  obtain ⟨ipx, ipy⟩ := iP i hin
  rw [eVI] at ipx ipy
  obtain ⟨VK, eVK⟩ : ∃ z, P k = z := ⟨_, rfl⟩
  obtain ⟨qx, qy⟩ := VK
  obtain ⟨iqx, iqy⟩ := iP k hkn
  rw [eVK] at iqx iqy
  obtain ⟨ex, eex⟩ : ∃ z, subF qx px = z := ⟨_, rfl⟩
  have iex : I64 ex := by rw [← eex]; exact i64_sub _ _
  obtain ⟨ey, eey⟩ : ∃ z, subF qy py = z := ⟨_, rfl⟩
  have iey : I64 ey := by rw [← eey]; exact i64_sub _ _
  have eE : subV (qx, qy) (px, py) = (ex, ey) := by unfold subV; simp only []; rw [eex, eey]
  obtain ⟨ux, eux⟩ : ∃ z, subF cx px = z := ⟨_, rfl⟩
  have iux : I64 ux := by rw [← eux]; exact i64_sub _ _
  obtain ⟨uy, euy⟩ : ∃ z, subF cy py = z := ⟨_, rfl⟩
  have iuy : I64 uy := by rw [← euy]; exact i64_sub _ _
  have eU : subV (cx, cy) (px, py) = (ux, uy) := by unfold subV; simp only []; rw [eux, euy]
  obtain ⟨zx, ezx⟩ : ∃ z, subF cx qx = z := ⟨_, rfl⟩
  have izx : I64 zx := by rw [← ezx]; exact i64_sub _ _
  obtain ⟨zy, ezy⟩ : ∃ z, subF cy qy = z := ⟨_, rfl⟩
  have izy : I64 zy := by rw [← ezy]; exact i64_sub _ _
  have eZ : subV (cx, cy) (qx, qy) = (zx, zy) := by unfold subV; simp only []; rw [ezx, ezy]
  obtain ⟨fx, efx⟩ : ∃ z, negF ex = z := ⟨_, rfl⟩
  have ifx : I64 fx := by rw [← efx]; exact i64_neg iex
  obtain ⟨fy, efy⟩ : ∃ z, negF ey = z := ⟨_, rfl⟩
  have ify : I64 fy := by rw [← efy]; exact i64_neg iey
  have eF : negV (ex, ey) = (fx, fy) := by unfold negV; simp only []; rw [efx, efy]
  obtain ⟨d0, ed0⟩ : ∃ z, addF (mulF ux ex) (mulF uy ey) = z := ⟨_, rfl⟩
  obtain ⟨d1, ed1⟩ : ∃ z, addF (mulF zx fx) (mulF zy fy) = z := ⟨_, rfl⟩
  have eD0 : dotV (ux, uy) (ex, ey) = d0 := ed0
  have eD1 : dotV (zx, zy) (fx, fy) = d1 := ed1
  simp only [eg] at h1 h2
  simp only [ek, eVI, eVK, eE, eU, eZ, eF, eD0, eD1] at h3 h4 h5 h6
  obtain ⟨m, em⟩ : ∃ z, lenF zx zy = z := ⟨_, rfl⟩
  have im : I64 m := by rw [← em]; exact i64_sqrt _
  have eM : lenV (zx, zy) = m := em
  rw [eM] at h5 h6
  obtain ⟨dep, edep⟩ : ∃ z, subF R m = z := ⟨_, rfl⟩
  obtain ⟨tx, etx⟩ : ∃ z, divF zx m = z := ⟨_, rfl⟩
  have itx : I64 tx := by rw [← etx]; exact i64_div _ _
  obtain ⟨ty, ety⟩ : ∃ z, divF zy m = z := ⟨_, rfl⟩
  have ity : I64 ty := by rw [← ety]; exact i64_div _ _
  have eT : unitP (zx, zy) = (tx, ty) := by unfold unitP uF; simp only []; rw [em, if_neg h6, etx, ety]
  have eUn : unitV zx zy = .tuple #[vecV tx ty, .bool true] := by unfold unitV; rw [em, if_neg h6, etx, ety]
  have EUn := hid eUn
  have HW : Hid (mixedI P n (cx, cy) R i = some (oneT (tx, ty) (qx, qy) dep (2 * (i : Int) + 1))) := by unfold Hid mixedI; simp only [eg, ek, eVI, eVK, eE, eU, eZ, eF, eD0, eD1]; rw [if_neg h1, if_neg h2, if_neg h3, if_pos h4]; unfold cornerF; rw [eM, if_neg h5, if_neg h6, eT, edep]
  clear eT eUn etx ety
  have EDEP := hid edep
  clear edep
  have EM := hid em
  clear em eM
  rw [HW.out]
  clear HW
  have EEX := hid eex; have EEY := hid eey; have EUX := hid eux; have EUY := hid euy; have EZX := hid ezx; have EZY := hid ezy; have EFX := hid efx; have EFY := hid efy; have ED0 := hid ed0; have ED1 := hid ed1
  clear eex eey eux euy ezx ezy efx efy ed0 ed1 eE eU eZ eF eD0 eD1
  have HC := hid (fun w hp => lcorners_is X Y A b off n cap f w iX iY iA hn3 h8 hp hi P hP)
  have HG := hid (fun g g2 w hq hp => gaps_is g 0 n n g2 0 1 P (fun _ => (cx, cy)) w hn h8 (by omega) (by omega) hp hq iP (fun _ _ => ⟨icx, icy⟩))
  have HF := hid (fun g c w q => first_is g n c (gapF P n (fun _ => (cx, cy)) 1) w hn h8 q)
  rw [show firstF (gapF P n (fun _ => (cx, cy)) 1) (n - 1) = i from ei] at HF
  have HNn := hid (fun g w hp => normals_is g 0 n n P w hn h8 hp iP)
  have HP := hid hp
  have EGG := hid eg
  have EN := hid eN; have EVI := hid eVI; have EVK := hid eVK
  clear hp hi hP ei ek eg eN eVI eVK iP
  go_enter Try.func34, Try.ntmps34
  go_wp2_with fail
  obtain ⟨W0, eW⟩ : ∃ W, W = ((w.alloc (.cells #[.int .i64 0, .int .i64 X, .int .i64 Y, .int .i64 0, .int .i64 0, .int .i64 A, .int .i64 0, .int .i64 0, .int .i64 2, .int .i64 0, .slice (some ⟨b, off, none⟩) n cap] 34)).alloc (.cells #[.int .i64 0, .int .i64 cx, .int .i64 cy, .int .i64 0, .int .i64 0, .int .i64 A2, .int .i64 0, .int .i64 0, .int .i64 1, .int .i64 R, .slice none 0 0] 34)).alloc (.cells #[.int .i64 0, .int .i64 0, .slice none 0 0] 38) := ⟨_, rfl⟩
  have hA0 : Has W0 w.heap.size 34 #[.int .i64 0, .int .i64 X, .int .i64 Y, .int .i64 0, .int .i64 0, .int .i64 A, .int .i64 0, .int .i64 0, .int .i64 2, .int .i64 0, .slice (some ⟨b, off, none⟩) n cap] := by rw [eW]; exact ((has_new _ _ _).more _).more _
  have hB0 : Has W0 (w.heap.size + 1) 34 #[.int .i64 0, .int .i64 cx, .int .i64 cy, .int .i64 0, .int .i64 0, .int .i64 A2, .int .i64 0, .int .i64 0, .int .i64 1, .int .i64 R, .slice none 0 0] := by rw [eW]; exact (has_next _ _ _ _).more _
  have hO0 : Has W0 (w.heap.size + 1 + 1) 38 #[.int .i64 0, .int .i64 0, .slice none 0 0] := by rw [eW]; simpa using has_new ((w.alloc (.cells #[.int .i64 0, .int .i64 X, .int .i64 Y, .int .i64 0, .int .i64 0, .int .i64 A, .int .i64 0, .int .i64 0, .int .i64 2, .int .i64 0, .slice (some ⟨b, off, none⟩) n cap] 34)).alloc (.cells #[.int .i64 0, .int .i64 cx, .int .i64 cy, .int .i64 0, .int .i64 0, .int .i64 A2, .int .i64 0, .int .i64 0, .int .i64 1, .int .i64 R, .slice none 0 0] 34)) 38 #[.int .i64 0, .int .i64 0, .slice none 0 0]
  have M0 : Hid (Made w.heap.size w W0) := by unfold Hid; rw [eW]; exact (((Made.rfl_ _ _).cells (Nat.le_refl _) _ _).cells (by simp) _ _).cells (by simp; omega) _ _
  have HPW : Hid (∀ v, Made W0.heap.size W0 v → Pts v b off n f) := fun v kv => HP.out.kept (M0.out.then_ (kv.low M0.out.1.size))
  rw [← eW]
  clear eW
  have a0 := hA0.at_ 0
  have a1 := hA0.at_ 1
  have a2 := hA0.at_ 2
  have a3 := hA0.at_ 3
  have a4 := hA0.at_ 4
  have a5 := hA0.at_ 5
  have a6 := hA0.at_ 6
  have a7 := hA0.at_ 7
  have a8 := hA0.at_ 8
  have a9 := hA0.at_ 9
  have a10 := hA0.at_ 10
  have b9 := hB0.at_ 9
  simp at a0 a1 a2 a3 a4 a5 a6 a7 a8 a9 a10 b9
  have HB0 := hid hB0
  have HO0 := hid hO0
  go_cut [6, 7] (fun s6 s7 wx => ∃ gp, s6 = .slice (some ⟨gp, 0, none⟩) n n ∧ s7 = .int .i64 R ∧ Hid (Row wx gp 26 n P) ∧ Hid (Made W0.heap.size W0 wx))
  case first =>
    go_region_with (go_at_call 21; refine (HC.out _ (HPW.out _ ((Made.rfl_ _ _).draws 1))).mono ?_; rintro e w1 ⟨gp, rfl, hr, hgp, k1⟩; have b9 := k1.reads (p := ⟨w.heap.size + 1, 9, none⟩) (x := .int .i64 R) (by go_simp); have HR1 := hid hr; have HK1 := hid ((((Made.rfl_ _ _).draws 1 : Made W0.heap.size W0 _)).then_ k1); clear hr k1 hgp)
    all_goals (go_wp2_with fail)
    all_goals go_meet
    all_goals exact ⟨gp, rfl, rfl, HR1, HK1⟩
  obtain ⟨gp, rfl, rfl, RP, HK⟩ := hcut
  rename World => w1
  have hB1 := HB0.out.stays HK.out HB0.out.here
  have hO1 := HO0.out.stays HK.out HO0.out.here
  have M1 : Hid (Made w.heap.size w w1) := M0.out.then_ (HK.out.low M0.out.1.size)
  have lo1 : w.heap.size + 1 + 1 < w1.heap.size := hO1.here
  have HB1 := hid hB1
  have HO1 := hid hO1
  have x1 := hB1.at_ 1
  have x2 := hB1.at_ 2
  simp at x1 x2
  clear hB0 hO0 hA0 M0 HPW hB1 hO1 a0 a1 a2 a3 a4 a5 a6 a7 a8 a9 a10 b9 HB0 HO0 HK
  go_wp2_with fail
  refine (HG.out gp w1.heap.size _ (fun j hj => by obtain rfl : j = 0 := (by omega); exact ⟨by go_simp, by go_simp⟩) (RP.out.more _).pts).mono ?_
  rintro e w2 ⟨gl, cl, rfl, hI, k2⟩
  have K2 : Hid (Made w1.heap.size w1 w2) := made_box k2
  have HI2 := hid hI
  clear k2 hI x1 x2
  go_wp2_with fail
  refine (HF.out gl cl w2 HI2.out).mono ?_
  rintro e w3 ⟨rfl, k3⟩
  have K3 : Hid (Made w1.heap.size w1 w3) := K2.out.then_ (k3.low K2.out.1.size)
  have HI3 := hid (HI2.out.kept k3)
  clear k3 HI2
  go_wp2_with fail
  refine (HNn.out gp w3 (RP.out.stays K3.out RP.out.here).pts).mono ?_
  rintro e w4 ⟨gn, rfl, hgn, hRN, k4⟩
  have K4 : Hid (Made w1.heap.size w1 w4) := K3.out.then_ (k4.low K3.out.1.size)
  have HI4 := hid (HI3.out.kept k4)
  obtain ⟨n0, n1⟩ := hRN.pts i hin
  rw [EN.out, Nat.zero_add] at n0 n1
  clear k4 hgn hRN HI3
  go_upto_region 5 with fail
  obtain ⟨W5, eW⟩ : ∃ W, W = w4.alloc (.cells #[.int .i64 nx, .int .i64 ny] 26) := ⟨_, rfl⟩
  obtain ⟨Bn, eBn⟩ : ∃ B, w4.heap.size = B := ⟨_, rfl⟩
  have K5 : Hid (Made w1.heap.size w1 W5) := by unfold Hid; rw [eW]; exact K4.out.cells K4.out.1.size _ _
  have hN5 : Has W5 Bn 26 #[.int .i64 nx, .int .i64 ny] := by rw [eW, ← eBn]; exact has_new _ _ _
  have c0 := (HI4.out i hin)
  have c0 := cell_new eW c0
  rw [EGG.out] at c0
  have lgl5 : gl < W5.heap.size := World.block_lt_of_cell? _ _ c0
  have lBn : Bn < W5.heap.size := hN5.here
  have lwn : w1.heap.size ≤ Bn := by rw [← eBn]; exact K4.out.1.size
  rw [← eW, eBn]
  clear eW eBn n0 n1
  have HN5 := hid hN5
  have HC0 := hid c0
  obtain ⟨p0, p1⟩ := (RP.out.stays K5.out RP.out.here).pts i hin
  rw [EVI.out, Nat.zero_add] at p0 p1
  obtain ⟨q0, q1⟩ := (RP.out.stays K5.out RP.out.here).pts k hkn
  rw [EVK.out, Nat.zero_add] at q0 q1
  go_upto_region 9 with fail
  refine reg_float1 9 137 13 26 #[.int .i64 0, .int .i64 0] _ (by kernel_rfl) (by kernel_rfl) (by kernel_rfl) rfl rfl alc_V ?_
  apply Exists.intro
  refine ⟨?h3, ?h4⟩
  case h3 =>
    intro T' hT fw hf
    have p0 := Class.reads hf p0
    have p1 := Class.reads hf p1
    have q0 := Class.reads hf q0
    have q1 := Class.reads hf q1
    simp only [List.take_succ_cons, List.take_zero]
    repeat (go_big_quiet_step ((go_at_call 19; with_reducible exact hf.made (vsub_is _ _ _ _ _ _ _ iqx iqy ipx ipy EEX.out EEY.out))))
    exact wpQuiet_nil rfl
  intro Be w9 k9 hg hh
  have hh0 := hh.at_ 0
  have hh1 := hh.at_ 1
  simp at hh0 hh1
  have hhf : ∀ i, w9.frozen? ⟨Be, i, none⟩ = false := hh.free
  simp only [List.drop_succ_cons, List.drop_zero]
  go_upto_region 10 with fail
  obtain ⟨Wa, eW⟩ : ∃ W, W = (w9.setCell ⟨Be, 0, none⟩ (.int .i64 ex)).setCell ⟨Be, 1, none⟩ (.int .i64 ey) := ⟨_, rfl⟩
  have hEa : Has Wa Be 26 #[.int .i64 ex, .int .i64 ey] := by rw [eW]; simpa using (hh.put 0 (.int .i64 ex)).put 1 (.int .i64 ey)
  have k9a : Made W5.heap.size W5 Wa := by rw [eW]; exact (k9.put (by simp; omega) _).put (by simp; omega) _
  have Ka : Hid (Made w1.heap.size w1 Wa) := K5.out.then_ (k9a.low K5.out.1.size)
  have hNa := HN5.out.stays k9a lBn
  have HCa := hid (k9a.reads HC0.out)
  have HNa := hid hNa
  have HEa := hid hEa
  have lBe : Be < Wa.heap.size := hEa.here
  have lBna : Bn < Wa.heap.size := hNa.here
  have lgp : gp < w1.heap.size := RP.out.here
  have nBe : Bn ≠ Be := by omega
  have lgl : gl < Be := by omega
  have lbr : Bn < Be := by omega
  have lwe : w1.heap.size ≤ Be := by have := K5.out.1.size; omega
  obtain ⟨p0, p1⟩ := (RP.out.stays Ka.out lgp).pts i hin
  rw [EVI.out, Nat.zero_add] at p0 p1
  obtain ⟨q0, q1⟩ := (RP.out.stays Ka.out lgp).pts k hkn
  rw [EVK.out, Nat.zero_add] at q0 q1
  rw [← eW]
  clear eW k9 hh hh0 hh1 hhf c0 HC0 HN5 hN5 hg k9a hNa hEa HI4 K5 K4 K3 K2
  go_upto_region 10 with fail
  go_cut [71, 72, 73] (fun s1 s2 s3 wx => ∃ Bv, s1 = .slice (some ⟨Bv, 0, none⟩) 2 2 ∧ s2 = .int .i64 2 ∧ s3 = .int .i64 0 ∧ Wa.heap.size ≤ Bv ∧ Hid (Has wx Bv 26 #[.int .i64 px, .int .i64 py, .int .i64 qx, .int .i64 qy]) ∧ Hid (Made Wa.heap.size Wa wx))
  case first =>
    go_region
    all_goals (go_wp2_with fail)
    all_goals go_meet
    all_goals exact ⟨Wa.heap.size, rfl, rfl, rfl, by omega, (has_new _ _ _).drawn 1, ((Made.rfl_ _ _).cells (Nat.le_refl _) _ _).draws 1⟩
  obtain ⟨Bv, rfl, rfl, rfl, lBv, HV, HM⟩ := hcut
  have Kb : Hid (Made w1.heap.size w1 wc) := Ka.out.then_ (HM.out.low Ka.out.1.size)
  have HNb := hid (HNa.out.stays HM.out lBna)
  have HEb := hid (HEa.out.stays HM.out lBe)
  have HCb := hid (HM.out.reads HCa.out)
  have lVc : Bv < wc.heap.size := HV.out.here
  rename World => Wb
  clear p0 p1 q0 q1 HM HNa HEa HCa Ka
  have lwBe : Be < Wb.heap.size := HEb.out.here
  go_wp2_with fail
  go_loopg [73] 2 (fun gg j wr => Hid (Has wr Bv 26 #[.int .i64 px, .int .i64 py, .int .i64 qx, .int .i64 qy]) ∧ Hid (Made Be Wb wr) ∧ ((gg = 2 ∧ j = .int .i64 0 ∧ Hid (Has wr Be 26 #[.int .i64 ex, .int .i64 ey])) ∨ (gg = 1 ∧ j = .int .i64 1 ∧ Hid (Has wr Be 26 #[.int .i64 ex, .int .i64 ey]))))
  case atStart => exact ⟨HV, Made.rfl_ _ _, .inl ⟨rfl, rfl, HEb⟩⟩
  case round =>
    obtain ⟨HVr, HMr, (⟨hgg, rfl, HE⟩ | ⟨hgg, rfl, HE⟩)⟩ := hrel
    have Kr : Hid (Made w1.heap.size w1 wr) := Kb.out.then_ (HMr.out.low lwe)
    · have Kr : Hid (Made w1.heap.size w1 wr) := Kb.out.then_ (HMr.out.low lwe)
      have hV := HVr.out
      have v0 := hV.at_ 0
      have v1 := hV.at_ 1
      simp at v0 v1
      have hB := HB1.out.stays Kr.out HB1.out.here
      have b1 := hB.at_ 1
      have b2 := hB.at_ 2
      simp at b1 b2
      have lb1 : w.heap.size + 1 < wr.heap.size := World.block_lt_of_cell? _ _ b1
      have lrv : Bv < wr.heap.size := HVr.out.here
      clear hB hV
      go_wp2_with fail
      refine (vsub_is cx cy px py ux uy _ icx icy ipx ipy EUX.out EUY.out).mono ?_
      rintro e w2 ⟨rfl, k2⟩
      have lr : Be < wr.heap.size := HE.out.here
      have lrv : Bv < wr.heap.size := HVr.out.here
      have HE2 := hid (HE.out.stays (made_box k2) lr)
      have HV2 := hid (HVr.out.stays (made_box k2) lrv)
      have HC2 : Hid (Has w2 wr.heap.size 26 #[.int .i64 px, .int .i64 py]) := (has_new _ _ _).stays k2 (by simp)
      have HM2 : Hid (Made Be Wb w2) := HMr.out.then_ ((made_box k2).low (Nat.le_of_lt lr))
      clear k2 v0 v1 b1 b2
      go_upto_region 14 with fail
      obtain ⟨W3, eW⟩ : ∃ W, W = w2.alloc (.cells #[.int .i64 ux, .int .i64 uy] 26) := ⟨_, rfl⟩
      obtain ⟨Bu, eBu⟩ : ∃ B, w2.heap.size = B := ⟨_, rfl⟩
      obtain ⟨Bc, eBc⟩ : ∃ B, wr.heap.size = B := ⟨_, rfl⟩
      have HU3 : Hid (Has W3 Bu 26 #[.int .i64 ux, .int .i64 uy]) := by unfold Hid; rw [eW, ← eBu]; exact has_new _ _ _
      have HE3 : Hid (Has W3 Be 26 #[.int .i64 ex, .int .i64 ey]) := by unfold Hid; rw [eW]; exact HE2.out.more _
      have HV3 : Hid (Has W3 Bv 26 #[.int .i64 px, .int .i64 py, .int .i64 qx, .int .i64 qy]) := by unfold Hid; rw [eW]; exact HV2.out.more _
      have HC3 : Hid (Has W3 Bc 26 #[.int .i64 px, .int .i64 py]) := by unfold Hid; rw [eW, ← eBc]; exact HC2.out.more _
      have HM3 : Hid (Made Be Wb W3) := by unfold Hid; rw [eW]; exact HM2.out.cells (by have := HE2.out.here; omega) _ _
      have lc3 : Bc < Bu := by rw [← eBc, ← eBu]; exact HC2.out.here
      have lce : Be < Bc := by omega
      have lcv : Bv < Bc := by omega
      rw [← eW, eBu, eBc]
      clear eW eBu eBc HE2 HV2 HC2 HM2
      have e0 := HE3.out.at_ 0
      have e1 := HE3.out.at_ 1
      have u0 := HU3.out.at_ 0
      have u1 := HU3.out.at_ 1
      simp at e0 e1 u0 u1
      go_wp2_with fail
      refine (vdot_is ux uy ex ey d0 _ iux iuy iex iey ED0.out).mono ?_
      rintro e w5 ⟨rfl, k5⟩
      have HM5 : Hid (Made Be Wb w5) := HM3.out.then_ (k5.low (by have := HE3.out.here; omega))
      have HV5 := hid (HV3.out.stays k5 HV3.out.here)
      have HE5 := hid (HE3.out.stays k5 HE3.out.here)
      have HU5 := hid (HU3.out.stays k5 HU3.out.here)
      have HC5 := hid (HC3.out.stays k5 HC3.out.here)
      clear k5 e0 e1 u0 u1
      have gd : decide (0 < d0) = true := by exact decide_eq_true (by omega)
      go_wp2_with fail
      go_roundg 1
      case rel => exact ⟨HV5, HM5, .inr ⟨rfl, by go_num, HE5⟩⟩
      case measure => omega
    · have Kr : Hid (Made w1.heap.size w1 wr) := Kb.out.then_ (HMr.out.low lwe)
      have hV := HVr.out
      have v0 := hV.at_ 2
      have v1 := hV.at_ 3
      simp at v0 v1
      have hB := HB1.out.stays Kr.out HB1.out.here
      have b1 := hB.at_ 1
      have b2 := hB.at_ 2
      simp at b1 b2
      have lb1 : w.heap.size + 1 < wr.heap.size := World.block_lt_of_cell? _ _ b1
      have lrv : Bv < wr.heap.size := HVr.out.here
      clear hB hV
      go_wp2_with fail
      refine (vsub_is cx cy qx qy zx zy _ icx icy iqx iqy EZX.out EZY.out).mono ?_
      rintro e w2 ⟨rfl, k2⟩
      have lr : Be < wr.heap.size := HE.out.here
      have lrv : Bv < wr.heap.size := HVr.out.here
      have HE2 := hid (HE.out.stays (made_box k2) lr)
      have HV2 := hid (HVr.out.stays (made_box k2) lrv)
      have HC2 : Hid (Has w2 wr.heap.size 26 #[.int .i64 qx, .int .i64 qy]) := (has_new _ _ _).stays k2 (by simp)
      have HM2 : Hid (Made Be Wb w2) := HMr.out.then_ ((made_box k2).low (Nat.le_of_lt lr))
      clear k2 v0 v1 b1 b2
      go_upto_region 14 with fail
      obtain ⟨W3, eW⟩ : ∃ W, W = w2.alloc (.cells #[.int .i64 zx, .int .i64 zy] 26) := ⟨_, rfl⟩
      obtain ⟨Bu, eBu⟩ : ∃ B, w2.heap.size = B := ⟨_, rfl⟩
      obtain ⟨Bc, eBc⟩ : ∃ B, wr.heap.size = B := ⟨_, rfl⟩
      have HU3 : Hid (Has W3 Bu 26 #[.int .i64 zx, .int .i64 zy]) := by unfold Hid; rw [eW, ← eBu]; exact has_new _ _ _
      have HE3 : Hid (Has W3 Be 26 #[.int .i64 ex, .int .i64 ey]) := by unfold Hid; rw [eW]; exact HE2.out.more _
      have HV3 : Hid (Has W3 Bv 26 #[.int .i64 px, .int .i64 py, .int .i64 qx, .int .i64 qy]) := by unfold Hid; rw [eW]; exact HV2.out.more _
      have HC3 : Hid (Has W3 Bc 26 #[.int .i64 qx, .int .i64 qy]) := by unfold Hid; rw [eW, ← eBc]; exact HC2.out.more _
      have HM3 : Hid (Made Be Wb W3) := by unfold Hid; rw [eW]; exact HM2.out.cells (by have := HE2.out.here; omega) _ _
      have lc3 : Bc < Bu := by rw [← eBc, ← eBu]; exact HC2.out.here
      have lce : Be < Bc := by omega
      have lcv : Bv < Bc := by omega
      rw [← eW, eBu, eBc]
      clear eW eBu eBc HE2 HV2 HC2 HM2
      have e0 := HE3.out.at_ 0
      have e1 := HE3.out.at_ 1
      simp at e0 e1
      go_wp2_with fail
      refine (vneg_is ex ey fx fy _ iex iey EFX.out EFY.out).mono ?_
      rintro e w4 ⟨rfl, k4⟩
      have hE4 := HE3.out.stays k4 HE3.out.here
      have HU4 := hid (HU3.out.stays k4 HU3.out.here)
      have HV4 := hid (HV3.out.stays k4 HV3.out.here)
      have HC4 := hid (HC3.out.stays k4 HC3.out.here)
      have HM4 : Hid (Made Be Wb w4) := HM3.out.then_ (k4.low (by have := HE3.out.here; omega))
      have e0 := hE4.at_ 0
      have e1 := hE4.at_ 1
      simp at e0 e1
      have ef : ∀ i, w4.frozen? ⟨Be, i, none⟩ = false := hE4.free
      have lve : Bv ≠ Be := by have := HEb.out.here; omega
      clear k4 HU3 HV3 HC3 HM3
      go_upto_region 16 with fail
      obtain ⟨W3, eW⟩ : ∃ W, W = (w4.setCell ⟨Be, 0, none⟩ (.int .i64 fx)).setCell ⟨Be, 1, none⟩ (.int .i64 fy) := ⟨_, rfl⟩
      have HE3 : Hid (Has W3 Be 26 #[.int .i64 fx, .int .i64 fy]) := by unfold Hid; rw [eW]; simpa using (hE4.put 0 (.int .i64 fx)).put 1 (.int .i64 fy)
      have HU3 : Hid (Has W3 Bu 26 #[.int .i64 zx, .int .i64 zy]) := by unfold Hid; rw [eW]; exact (HU4.out.other _ (by simp; omega) _).other _ (by simp; omega) _
      have HV3 : Hid (Has W3 Bv 26 #[.int .i64 px, .int .i64 py, .int .i64 qx, .int .i64 qy]) := by unfold Hid; rw [eW]; exact (HV4.out.other _ (by simp; omega) _).other _ (by simp; omega) _
      have HC3 : Hid (Has W3 Bc 26 #[.int .i64 qx, .int .i64 qy]) := by unfold Hid; rw [eW]; exact (HC4.out.other _ (by simp; omega) _).other _ (by simp; omega) _
      have HM3 : Hid (Made Be Wb W3) := by unfold Hid; rw [eW]; exact (HM4.out.put (by simp) _).put (by simp) _
      rw [← eW]
      clear eW HU4 HV4 HC4 HM4 hE4 ef e0 e1
      have e0 := HE3.out.at_ 0
      have e1 := HE3.out.at_ 1
      have u0 := HU3.out.at_ 0
      have u1 := HU3.out.at_ 1
      simp at e0 e1 u0 u1
      go_wp2_with fail
      refine (vdot_is zx zy fx fy d1 _ izx izy ifx ify ED1.out).mono ?_
      rintro e w5 ⟨rfl, k5⟩
      have HM5 : Hid (Made Be Wb w5) := HM3.out.then_ (k5.low (by have := HE3.out.here; omega))
      have HV5 := hid (HV3.out.stays k5 HV3.out.here)
      have HE5 := hid (HE3.out.stays k5 HE3.out.here)
      have HU5 := hid (HU3.out.stays k5 HU3.out.here)
      have HC5 := hid (HC3.out.stays k5 HC3.out.here)
      clear k5 e0 e1 u0 u1
      have gd : decide (0 < d1) = false := by exact decide_eq_false (by omega)
      have u0 := HU5.out.at_ 0
      have u1 := HU5.out.at_ 1
      simp at u0 u1
      go_wp2_with fail
      refine (vlen_is zx zy m _ izx izy EM.out).mono ?_
      rintro e w6 ⟨rfl, k6⟩
      have HM6 : Hid (Made Be Wb w6) := HM5.out.then_ (k6.low (by have := HE5.out.here; omega))
      have K6 : Hid (Made w1.heap.size w1 w6) := Kb.out.then_ (HM6.out.low lwe)
      have u0 := k6.reads u0
      have u1 := k6.reads u1
      have HC6 := hid (HC5.out.stays k6 HC5.out.here)
      clear k6
      go_wp2_with fail
      refine (vunit_is zx zy _ _ izx izy EUn.out).mono ?_
      rintro e w7 ⟨rfl, k7⟩
      have HM7 : Hid (Made Be Wb w7) := HM6.out.then_ (k7.low (by have := HC6.out.here; omega))
      have hC7 := HC6.out.stays k7 HC6.out.here
      have hN7 := HNb.out.stays HM7.out (by omega)
      clear k7 u0 u1
      have nf : ∀ i, w7.frozen? ⟨Bn, i, none⟩ = false := hN7.free
      have n0 := hN7.at_ 0
      have n1 := hN7.at_ 1
      simp at n0 n1
      have lB7 : Bn < w7.heap.size := hN7.here
      go_upto_region 23 with fail
      obtain ⟨W8, eW⟩ : ∃ W, W = ((w7.setCell ⟨Bn, 0, none⟩ (.int .i64 tx)).setCell ⟨Bn, 1, none⟩ (.int .i64 ty)).alloc (.cells #[.int .i64 tx, .int .i64 ty] 26) := ⟨_, rfl⟩
      have hN8 : Has W8 Bn 26 #[.int .i64 tx, .int .i64 ty] := by rw [eW]; exact Has.more (by simpa using (hN7.put 0 (.int .i64 tx)).put 1 (.int .i64 ty)) _
      have hC8 : Has W8 Bc 26 #[.int .i64 qx, .int .i64 qy] := by rw [eW]; exact ((hC7.other _ (by simp; omega) _).other _ (by simp; omega) _).more _
      have K8 : Hid (Made w1.heap.size w1 W8) := by unfold Hid; rw [eW]; exact (((Kb.out.then_ (HM7.out.low lwe)).put (by simp; omega) _).put (by simp; omega) _).cells (by simp; omega) _ _
      rw [← eW]
      clear eW
      have n0 := hN8.at_ 0
      have n1 := hN8.at_ 1
      have c0 := hC8.at_ 0
      have c1 := hC8.at_ 1
      simp at n0 n1 c0 c1
      refine reg_taken 9 2 (by kernel_rfl) (by kernel_rfl) (by kernel_rfl) ?_
      intro T hT fw hf
      have n0' := Class.reads hf n0
      have n1' := Class.reads hf n1
      have c0' := Class.reads hf c0
      have c1' := Class.reads hf c1
      simp only [List.take_succ_cons, List.take_zero, List.drop_succ_cons, List.drop_zero]
      repeat (go_big_quiet_step ((go_at_call 44; with_reducible exact hf.same (sub_is _ _ _ _ iR im EDEP.out))))
      refine wpQuiet_nil ?_
      intro w9 h9
      have k9 := hf.here h9
      have K9 : Hid (Made w1.heap.size w1 w9) := K8.out.then_ (k9.low K8.out.1.size)
      clear k9 h9 hf n0' n1' c0' c1' n0 n1 c0 c1 hN8 hC8 hN7 hC7
      go_wp2_with fail
      refine (point_is tx ty qx qy dep _ _).mono ?_
      rintro e wa ⟨g', rfl, hp, hg, ka⟩
      have Ka : Hid (Made w1.heap.size w1 wa) := K9.out.then_ (ka.low K9.out.1.size)
      have HPt := hid hp.cells
      have hgw : w.heap.size + 1 + 1 < g' := by have := K9.out.1.size; omega
      clear ka hp hg
      have hO := HO1.out.stays Ka.out lo1
      have o0 := hO.at_ 0
      have o1 := hO.at_ 1
      have o2 := hO.at_ 2
      simp at o0 o1 o2
      have of_ : ∀ i, wa.frozen? ⟨w.heap.size + 1 + 1, i, none⟩ = false := hO.free
      have MO : Hid (Made w.heap.size w wa) := M1.out.then_ (Ka.out.low M1.out.1.size)
      clear hO
      go_wp2_with fail
      refine OnlyN.here ?_
      go_wp2_with fail
      refine bodyPost_ret (v := .tuple #[tchV tx ty (some ⟨g', 0, none⟩) 1 1, .bool true]) (by simp [results, Try.results34, go_sem, o0, o1, o2]) rfl (touch_one ?_ ?_ ?_ ?_ ?_)
      · exact cell_else (by simp; omega) (cell_else (by simp; omega) (cell_else (by simp; omega) HPt.out.1))
      · exact cell_else (by simp; omega) (cell_else (by simp; omega) (cell_else (by simp; omega) HPt.out.2.1))
      · exact cell_else (by simp; omega) (cell_else (by simp; omega) (cell_else (by simp; omega) HPt.out.2.2.1))
      · exact cell_else (by simp; omega) (cell_else (by simp; omega) (cell_else (by simp; omega) HPt.out.2.2.2))
      · exact ((MO.out.put (by simp; try omega) _).put (by simp; try omega) _).put (by simp; try omega) _

set_option maxRecDepth 100000 in
set_option maxHeartbeats 1000000 in
theorem lmixed_bzero (X Y A : Int) (b off n cap : Nat) (f : Cs) (cx cy R A2 : Int) (P : Cs) (w : World) (iX : I64 X) (iY : I64 Y) (iA : I64 A) (hn3 : 3 ≤ n) (h8 : n ≤ 8) (hp : Pts w b off n f) (hi : Cin f n) (hP : placeF f (cs (stepF A)) (sn (stepF A)) X Y = P) (icx : I64 cx) (icy : I64 cy) (iR : I64 R) (i : Nat) (ei : sideF P n (fun _ => (cx, cy)) 1 = i) (h1 : ¬ R ≤ gapF P n (fun _ => (cx, cy)) 1 i) (h2 : ¬ gapF P n (fun _ => (cx, cy)) 1 i ≤ 0) (h3 : ¬ dotV (subV (cx, cy) (P i)) (subV (P ((i + 1) % n)) (P i)) ≤ 0) (h4 : dotV (subV (cx, cy) (P ((i + 1) % n))) (negV (subV (P ((i + 1) % n)) (P i))) ≤ 0) (h5 : ¬ R ≤ lenV (subV (cx, cy) (P ((i + 1) % n)))) (h6 : lenV (subV (cx, cy) (P ((i + 1) % n))) = 0) :
    Calls Try.prog 34 #[bodyV 0 X Y 0 0 A 0 0 2 0 (.slice (some ⟨b, off, none⟩) n cap), bodyV 0 cx cy 0 0 A2 0 0 1 R (.slice none 0 0)] w (TouchR (mixedI P n (cx, cy) R i) w) := by
  have hn : 0 < n := by omega
  have hin : i < n := by rw [← ei]; have := firstF_le (gapF P n (fun _ => (cx, cy)) 1) (n - 1); unfold sideF; omega
  have iP : Cin P n := by rw [← hP]; exact fun j hj => ⟨i64_add _ _, i64_add _ _⟩
  obtain ⟨k, ek⟩ : ∃ k, (i + 1) % n = k := ⟨_, rfl⟩
  have hkn : k < n := by rw [← ek]; exact Nat.mod_lt _ hn
  have km : ((i : Int) + 1).tmod (n : Int) = (k : Int) := by
    rw [Int.tmod_eq_emod_of_nonneg (by omega), ← ek, Int.natCast_emod, Int.natCast_add]; rfl
  have km' : ((i : Int) + 1) % (n : Int) = (k : Int) := by
    rw [← ek, Int.natCast_emod, Int.natCast_add]; rfl
  obtain ⟨g, eg⟩ : ∃ z, gapF P n (fun _ => (cx, cy)) 1 i = z := ⟨_, rfl⟩
  have ig : I64 g := by rw [← eg]; exact i64_gap _ _ _ _ _
  obtain ⟨N, eN⟩ : ∃ z, normF P n i = z := ⟨_, rfl⟩
  obtain ⟨nx, ny⟩ := N
  have iN := i64_norm P n i
  rw [eN] at iN
  obtain ⟨inx, iny⟩ := iN
  obtain ⟨VI, eVI⟩ : ∃ z, P i = z := ⟨_, rfl⟩
  obtain ⟨px, py⟩ := VI
  obtain ⟨ipx, ipy⟩ := iP i hin
  rw [eVI] at ipx ipy
  obtain ⟨VK, eVK⟩ : ∃ z, P k = z := ⟨_, rfl⟩
  obtain ⟨qx, qy⟩ := VK
  obtain ⟨iqx, iqy⟩ := iP k hkn
  rw [eVK] at iqx iqy
  obtain ⟨ex, eex⟩ : ∃ z, subF qx px = z := ⟨_, rfl⟩
  have iex : I64 ex := by rw [← eex]; exact i64_sub _ _
  obtain ⟨ey, eey⟩ : ∃ z, subF qy py = z := ⟨_, rfl⟩
  have iey : I64 ey := by rw [← eey]; exact i64_sub _ _
  have eE : subV (qx, qy) (px, py) = (ex, ey) := by unfold subV; simp only []; rw [eex, eey]
  obtain ⟨ux, eux⟩ : ∃ z, subF cx px = z := ⟨_, rfl⟩
  have iux : I64 ux := by rw [← eux]; exact i64_sub _ _
  obtain ⟨uy, euy⟩ : ∃ z, subF cy py = z := ⟨_, rfl⟩
  have iuy : I64 uy := by rw [← euy]; exact i64_sub _ _
  have eU : subV (cx, cy) (px, py) = (ux, uy) := by unfold subV; simp only []; rw [eux, euy]
  obtain ⟨zx, ezx⟩ : ∃ z, subF cx qx = z := ⟨_, rfl⟩
  have izx : I64 zx := by rw [← ezx]; exact i64_sub _ _
  obtain ⟨zy, ezy⟩ : ∃ z, subF cy qy = z := ⟨_, rfl⟩
  have izy : I64 zy := by rw [← ezy]; exact i64_sub _ _
  have eZ : subV (cx, cy) (qx, qy) = (zx, zy) := by unfold subV; simp only []; rw [ezx, ezy]
  obtain ⟨fx, efx⟩ : ∃ z, negF ex = z := ⟨_, rfl⟩
  have ifx : I64 fx := by rw [← efx]; exact i64_neg iex
  obtain ⟨fy, efy⟩ : ∃ z, negF ey = z := ⟨_, rfl⟩
  have ify : I64 fy := by rw [← efy]; exact i64_neg iey
  have eF : negV (ex, ey) = (fx, fy) := by unfold negV; simp only []; rw [efx, efy]
  obtain ⟨d0, ed0⟩ : ∃ z, addF (mulF ux ex) (mulF uy ey) = z := ⟨_, rfl⟩
  obtain ⟨d1, ed1⟩ : ∃ z, addF (mulF zx fx) (mulF zy fy) = z := ⟨_, rfl⟩
  have eD0 : dotV (ux, uy) (ex, ey) = d0 := ed0
  have eD1 : dotV (zx, zy) (fx, fy) = d1 := ed1
  simp only [eg] at h1 h2
  simp only [ek, eVI, eVK, eE, eU, eZ, eF, eD0, eD1] at h3 h4 h5 h6
  obtain ⟨m, em⟩ : ∃ z, lenF zx zy = z := ⟨_, rfl⟩
  have im : I64 m := by rw [← em]; exact i64_sqrt _
  have eM : lenV (zx, zy) = m := em
  rw [eM] at h5 h6
  obtain ⟨dep, edep⟩ : ∃ z, subF R m = z := ⟨_, rfl⟩
  have eUn : unitV zx zy = .tuple #[vecV 0 0, .bool false] := by unfold unitV; rw [em, if_pos h6]
  have EUn := hid eUn
  have HW : Hid (mixedI P n (cx, cy) R i = some (oneT (nx, ny) (qx, qy) dep (2 * (i : Int) + 1))) := by unfold Hid mixedI; simp only [eg, ek, eVI, eVK, eE, eU, eZ, eF, eD0, eD1]; rw [if_neg h1, if_neg h2, if_neg h3, if_pos h4]; unfold cornerF; rw [eM, if_neg h5, if_pos h6, eN, edep]
  clear eUn h6
  have EDEP := hid edep
  clear edep
  have EM := hid em
  clear em eM
  rw [HW.out]
  clear HW
  have EEX := hid eex; have EEY := hid eey; have EUX := hid eux; have EUY := hid euy; have EZX := hid ezx; have EZY := hid ezy; have EFX := hid efx; have EFY := hid efy; have ED0 := hid ed0; have ED1 := hid ed1
  clear eex eey eux euy ezx ezy efx efy ed0 ed1 eE eU eZ eF eD0 eD1
  have HC := hid (fun w hp => lcorners_is X Y A b off n cap f w iX iY iA hn3 h8 hp hi P hP)
  have HG := hid (fun g g2 w hq hp => gaps_is g 0 n n g2 0 1 P (fun _ => (cx, cy)) w hn h8 (by omega) (by omega) hp hq iP (fun _ _ => ⟨icx, icy⟩))
  have HF := hid (fun g c w q => first_is g n c (gapF P n (fun _ => (cx, cy)) 1) w hn h8 q)
  rw [show firstF (gapF P n (fun _ => (cx, cy)) 1) (n - 1) = i from ei] at HF
  have HNn := hid (fun g w hp => normals_is g 0 n n P w hn h8 hp iP)
  have HP := hid hp
  have EGG := hid eg
  have EN := hid eN; have EVI := hid eVI; have EVK := hid eVK
  clear hp hi hP ei ek eg eN eVI eVK iP
  go_enter Try.func34, Try.ntmps34
  go_wp2_with fail
  obtain ⟨W0, eW⟩ : ∃ W, W = ((w.alloc (.cells #[.int .i64 0, .int .i64 X, .int .i64 Y, .int .i64 0, .int .i64 0, .int .i64 A, .int .i64 0, .int .i64 0, .int .i64 2, .int .i64 0, .slice (some ⟨b, off, none⟩) n cap] 34)).alloc (.cells #[.int .i64 0, .int .i64 cx, .int .i64 cy, .int .i64 0, .int .i64 0, .int .i64 A2, .int .i64 0, .int .i64 0, .int .i64 1, .int .i64 R, .slice none 0 0] 34)).alloc (.cells #[.int .i64 0, .int .i64 0, .slice none 0 0] 38) := ⟨_, rfl⟩
  have hA0 : Has W0 w.heap.size 34 #[.int .i64 0, .int .i64 X, .int .i64 Y, .int .i64 0, .int .i64 0, .int .i64 A, .int .i64 0, .int .i64 0, .int .i64 2, .int .i64 0, .slice (some ⟨b, off, none⟩) n cap] := by rw [eW]; exact ((has_new _ _ _).more _).more _
  have hB0 : Has W0 (w.heap.size + 1) 34 #[.int .i64 0, .int .i64 cx, .int .i64 cy, .int .i64 0, .int .i64 0, .int .i64 A2, .int .i64 0, .int .i64 0, .int .i64 1, .int .i64 R, .slice none 0 0] := by rw [eW]; exact (has_next _ _ _ _).more _
  have hO0 : Has W0 (w.heap.size + 1 + 1) 38 #[.int .i64 0, .int .i64 0, .slice none 0 0] := by rw [eW]; simpa using has_new ((w.alloc (.cells #[.int .i64 0, .int .i64 X, .int .i64 Y, .int .i64 0, .int .i64 0, .int .i64 A, .int .i64 0, .int .i64 0, .int .i64 2, .int .i64 0, .slice (some ⟨b, off, none⟩) n cap] 34)).alloc (.cells #[.int .i64 0, .int .i64 cx, .int .i64 cy, .int .i64 0, .int .i64 0, .int .i64 A2, .int .i64 0, .int .i64 0, .int .i64 1, .int .i64 R, .slice none 0 0] 34)) 38 #[.int .i64 0, .int .i64 0, .slice none 0 0]
  have M0 : Hid (Made w.heap.size w W0) := by unfold Hid; rw [eW]; exact (((Made.rfl_ _ _).cells (Nat.le_refl _) _ _).cells (by simp) _ _).cells (by simp; omega) _ _
  have HPW : Hid (∀ v, Made W0.heap.size W0 v → Pts v b off n f) := fun v kv => HP.out.kept (M0.out.then_ (kv.low M0.out.1.size))
  rw [← eW]
  clear eW
  have a0 := hA0.at_ 0
  have a1 := hA0.at_ 1
  have a2 := hA0.at_ 2
  have a3 := hA0.at_ 3
  have a4 := hA0.at_ 4
  have a5 := hA0.at_ 5
  have a6 := hA0.at_ 6
  have a7 := hA0.at_ 7
  have a8 := hA0.at_ 8
  have a9 := hA0.at_ 9
  have a10 := hA0.at_ 10
  have b9 := hB0.at_ 9
  simp at a0 a1 a2 a3 a4 a5 a6 a7 a8 a9 a10 b9
  have HB0 := hid hB0
  have HO0 := hid hO0
  go_cut [6, 7] (fun s6 s7 wx => ∃ gp, s6 = .slice (some ⟨gp, 0, none⟩) n n ∧ s7 = .int .i64 R ∧ Hid (Row wx gp 26 n P) ∧ Hid (Made W0.heap.size W0 wx))
  case first =>
    go_region_with (go_at_call 21; refine (HC.out _ (HPW.out _ ((Made.rfl_ _ _).draws 1))).mono ?_; rintro e w1 ⟨gp, rfl, hr, hgp, k1⟩; have b9 := k1.reads (p := ⟨w.heap.size + 1, 9, none⟩) (x := .int .i64 R) (by go_simp); have HR1 := hid hr; have HK1 := hid ((((Made.rfl_ _ _).draws 1 : Made W0.heap.size W0 _)).then_ k1); clear hr k1 hgp)
    all_goals (go_wp2_with fail)
    all_goals go_meet
    all_goals exact ⟨gp, rfl, rfl, HR1, HK1⟩
  obtain ⟨gp, rfl, rfl, RP, HK⟩ := hcut
  rename World => w1
  have hB1 := HB0.out.stays HK.out HB0.out.here
  have hO1 := HO0.out.stays HK.out HO0.out.here
  have M1 : Hid (Made w.heap.size w w1) := M0.out.then_ (HK.out.low M0.out.1.size)
  have lo1 : w.heap.size + 1 + 1 < w1.heap.size := hO1.here
  have HB1 := hid hB1
  have HO1 := hid hO1
  have x1 := hB1.at_ 1
  have x2 := hB1.at_ 2
  simp at x1 x2
  clear hB0 hO0 hA0 M0 HPW hB1 hO1 a0 a1 a2 a3 a4 a5 a6 a7 a8 a9 a10 b9 HB0 HO0 HK
  go_wp2_with fail
  refine (HG.out gp w1.heap.size _ (fun j hj => by obtain rfl : j = 0 := (by omega); exact ⟨by go_simp, by go_simp⟩) (RP.out.more _).pts).mono ?_
  rintro e w2 ⟨gl, cl, rfl, hI, k2⟩
  have K2 : Hid (Made w1.heap.size w1 w2) := made_box k2
  have HI2 := hid hI
  clear k2 hI x1 x2
  go_wp2_with fail
  refine (HF.out gl cl w2 HI2.out).mono ?_
  rintro e w3 ⟨rfl, k3⟩
  have K3 : Hid (Made w1.heap.size w1 w3) := K2.out.then_ (k3.low K2.out.1.size)
  have HI3 := hid (HI2.out.kept k3)
  clear k3 HI2
  go_wp2_with fail
  refine (HNn.out gp w3 (RP.out.stays K3.out RP.out.here).pts).mono ?_
  rintro e w4 ⟨gn, rfl, hgn, hRN, k4⟩
  have K4 : Hid (Made w1.heap.size w1 w4) := K3.out.then_ (k4.low K3.out.1.size)
  have HI4 := hid (HI3.out.kept k4)
  obtain ⟨n0, n1⟩ := hRN.pts i hin
  rw [EN.out, Nat.zero_add] at n0 n1
  clear k4 hgn hRN HI3
  go_upto_region 5 with fail
  obtain ⟨W5, eW⟩ : ∃ W, W = w4.alloc (.cells #[.int .i64 nx, .int .i64 ny] 26) := ⟨_, rfl⟩
  obtain ⟨Bn, eBn⟩ : ∃ B, w4.heap.size = B := ⟨_, rfl⟩
  have K5 : Hid (Made w1.heap.size w1 W5) := by unfold Hid; rw [eW]; exact K4.out.cells K4.out.1.size _ _
  have hN5 : Has W5 Bn 26 #[.int .i64 nx, .int .i64 ny] := by rw [eW, ← eBn]; exact has_new _ _ _
  have c0 := (HI4.out i hin)
  have c0 := cell_new eW c0
  rw [EGG.out] at c0
  have lgl5 : gl < W5.heap.size := World.block_lt_of_cell? _ _ c0
  have lBn : Bn < W5.heap.size := hN5.here
  have lwn : w1.heap.size ≤ Bn := by rw [← eBn]; exact K4.out.1.size
  rw [← eW, eBn]
  clear eW eBn n0 n1
  have HN5 := hid hN5
  have HC0 := hid c0
  obtain ⟨p0, p1⟩ := (RP.out.stays K5.out RP.out.here).pts i hin
  rw [EVI.out, Nat.zero_add] at p0 p1
  obtain ⟨q0, q1⟩ := (RP.out.stays K5.out RP.out.here).pts k hkn
  rw [EVK.out, Nat.zero_add] at q0 q1
  go_upto_region 9 with fail
  refine reg_float1 9 137 13 26 #[.int .i64 0, .int .i64 0] _ (by kernel_rfl) (by kernel_rfl) (by kernel_rfl) rfl rfl alc_V ?_
  apply Exists.intro
  refine ⟨?h3, ?h4⟩
  case h3 =>
    intro T' hT fw hf
    have p0 := Class.reads hf p0
    have p1 := Class.reads hf p1
    have q0 := Class.reads hf q0
    have q1 := Class.reads hf q1
    simp only [List.take_succ_cons, List.take_zero]
    repeat (go_big_quiet_step ((go_at_call 19; with_reducible exact hf.made (vsub_is _ _ _ _ _ _ _ iqx iqy ipx ipy EEX.out EEY.out))))
    exact wpQuiet_nil rfl
  intro Be w9 k9 hg hh
  have hh0 := hh.at_ 0
  have hh1 := hh.at_ 1
  simp at hh0 hh1
  have hhf : ∀ i, w9.frozen? ⟨Be, i, none⟩ = false := hh.free
  simp only [List.drop_succ_cons, List.drop_zero]
  go_upto_region 10 with fail
  obtain ⟨Wa, eW⟩ : ∃ W, W = (w9.setCell ⟨Be, 0, none⟩ (.int .i64 ex)).setCell ⟨Be, 1, none⟩ (.int .i64 ey) := ⟨_, rfl⟩
  have hEa : Has Wa Be 26 #[.int .i64 ex, .int .i64 ey] := by rw [eW]; simpa using (hh.put 0 (.int .i64 ex)).put 1 (.int .i64 ey)
  have k9a : Made W5.heap.size W5 Wa := by rw [eW]; exact (k9.put (by simp; omega) _).put (by simp; omega) _
  have Ka : Hid (Made w1.heap.size w1 Wa) := K5.out.then_ (k9a.low K5.out.1.size)
  have hNa := HN5.out.stays k9a lBn
  have HCa := hid (k9a.reads HC0.out)
  have HNa := hid hNa
  have HEa := hid hEa
  have lBe : Be < Wa.heap.size := hEa.here
  have lBna : Bn < Wa.heap.size := hNa.here
  have lgp : gp < w1.heap.size := RP.out.here
  have nBe : Bn ≠ Be := by omega
  have lgl : gl < Be := by omega
  have lbr : Bn < Be := by omega
  have lwe : w1.heap.size ≤ Be := by have := K5.out.1.size; omega
  obtain ⟨p0, p1⟩ := (RP.out.stays Ka.out lgp).pts i hin
  rw [EVI.out, Nat.zero_add] at p0 p1
  obtain ⟨q0, q1⟩ := (RP.out.stays Ka.out lgp).pts k hkn
  rw [EVK.out, Nat.zero_add] at q0 q1
  rw [← eW]
  clear eW k9 hh hh0 hh1 hhf c0 HC0 HN5 hN5 hg k9a hNa hEa HI4 K5 K4 K3 K2
  go_upto_region 10 with fail
  go_cut [71, 72, 73] (fun s1 s2 s3 wx => ∃ Bv, s1 = .slice (some ⟨Bv, 0, none⟩) 2 2 ∧ s2 = .int .i64 2 ∧ s3 = .int .i64 0 ∧ Wa.heap.size ≤ Bv ∧ Hid (Has wx Bv 26 #[.int .i64 px, .int .i64 py, .int .i64 qx, .int .i64 qy]) ∧ Hid (Made Wa.heap.size Wa wx))
  case first =>
    go_region
    all_goals (go_wp2_with fail)
    all_goals go_meet
    all_goals exact ⟨Wa.heap.size, rfl, rfl, rfl, by omega, (has_new _ _ _).drawn 1, ((Made.rfl_ _ _).cells (Nat.le_refl _) _ _).draws 1⟩
  obtain ⟨Bv, rfl, rfl, rfl, lBv, HV, HM⟩ := hcut
  have Kb : Hid (Made w1.heap.size w1 wc) := Ka.out.then_ (HM.out.low Ka.out.1.size)
  have HNb := hid (HNa.out.stays HM.out lBna)
  have HEb := hid (HEa.out.stays HM.out lBe)
  have HCb := hid (HM.out.reads HCa.out)
  have lVc : Bv < wc.heap.size := HV.out.here
  rename World => Wb
  clear p0 p1 q0 q1 HM HNa HEa HCa Ka
  have lwBe : Be < Wb.heap.size := HEb.out.here
  go_wp2_with fail
  go_loopg [73] 2 (fun gg j wr => Hid (Has wr Bv 26 #[.int .i64 px, .int .i64 py, .int .i64 qx, .int .i64 qy]) ∧ Hid (Made Be Wb wr) ∧ ((gg = 2 ∧ j = .int .i64 0 ∧ Hid (Has wr Be 26 #[.int .i64 ex, .int .i64 ey])) ∨ (gg = 1 ∧ j = .int .i64 1 ∧ Hid (Has wr Be 26 #[.int .i64 ex, .int .i64 ey]))))
  case atStart => exact ⟨HV, Made.rfl_ _ _, .inl ⟨rfl, rfl, HEb⟩⟩
  case round =>
    obtain ⟨HVr, HMr, (⟨hgg, rfl, HE⟩ | ⟨hgg, rfl, HE⟩)⟩ := hrel
    have Kr : Hid (Made w1.heap.size w1 wr) := Kb.out.then_ (HMr.out.low lwe)
    · have Kr : Hid (Made w1.heap.size w1 wr) := Kb.out.then_ (HMr.out.low lwe)
      have hV := HVr.out
      have v0 := hV.at_ 0
      have v1 := hV.at_ 1
      simp at v0 v1
      have hB := HB1.out.stays Kr.out HB1.out.here
      have b1 := hB.at_ 1
      have b2 := hB.at_ 2
      simp at b1 b2
      have lb1 : w.heap.size + 1 < wr.heap.size := World.block_lt_of_cell? _ _ b1
      have lrv : Bv < wr.heap.size := HVr.out.here
      clear hB hV
      go_wp2_with fail
      refine (vsub_is cx cy px py ux uy _ icx icy ipx ipy EUX.out EUY.out).mono ?_
      rintro e w2 ⟨rfl, k2⟩
      have lr : Be < wr.heap.size := HE.out.here
      have lrv : Bv < wr.heap.size := HVr.out.here
      have HE2 := hid (HE.out.stays (made_box k2) lr)
      have HV2 := hid (HVr.out.stays (made_box k2) lrv)
      have HC2 : Hid (Has w2 wr.heap.size 26 #[.int .i64 px, .int .i64 py]) := (has_new _ _ _).stays k2 (by simp)
      have HM2 : Hid (Made Be Wb w2) := HMr.out.then_ ((made_box k2).low (Nat.le_of_lt lr))
      clear k2 v0 v1 b1 b2
      go_upto_region 14 with fail
      obtain ⟨W3, eW⟩ : ∃ W, W = w2.alloc (.cells #[.int .i64 ux, .int .i64 uy] 26) := ⟨_, rfl⟩
      obtain ⟨Bu, eBu⟩ : ∃ B, w2.heap.size = B := ⟨_, rfl⟩
      obtain ⟨Bc, eBc⟩ : ∃ B, wr.heap.size = B := ⟨_, rfl⟩
      have HU3 : Hid (Has W3 Bu 26 #[.int .i64 ux, .int .i64 uy]) := by unfold Hid; rw [eW, ← eBu]; exact has_new _ _ _
      have HE3 : Hid (Has W3 Be 26 #[.int .i64 ex, .int .i64 ey]) := by unfold Hid; rw [eW]; exact HE2.out.more _
      have HV3 : Hid (Has W3 Bv 26 #[.int .i64 px, .int .i64 py, .int .i64 qx, .int .i64 qy]) := by unfold Hid; rw [eW]; exact HV2.out.more _
      have HC3 : Hid (Has W3 Bc 26 #[.int .i64 px, .int .i64 py]) := by unfold Hid; rw [eW, ← eBc]; exact HC2.out.more _
      have HM3 : Hid (Made Be Wb W3) := by unfold Hid; rw [eW]; exact HM2.out.cells (by have := HE2.out.here; omega) _ _
      have lc3 : Bc < Bu := by rw [← eBc, ← eBu]; exact HC2.out.here
      have lce : Be < Bc := by omega
      have lcv : Bv < Bc := by omega
      rw [← eW, eBu, eBc]
      clear eW eBu eBc HE2 HV2 HC2 HM2
      have e0 := HE3.out.at_ 0
      have e1 := HE3.out.at_ 1
      have u0 := HU3.out.at_ 0
      have u1 := HU3.out.at_ 1
      simp at e0 e1 u0 u1
      go_wp2_with fail
      refine (vdot_is ux uy ex ey d0 _ iux iuy iex iey ED0.out).mono ?_
      rintro e w5 ⟨rfl, k5⟩
      have HM5 : Hid (Made Be Wb w5) := HM3.out.then_ (k5.low (by have := HE3.out.here; omega))
      have HV5 := hid (HV3.out.stays k5 HV3.out.here)
      have HE5 := hid (HE3.out.stays k5 HE3.out.here)
      have HU5 := hid (HU3.out.stays k5 HU3.out.here)
      have HC5 := hid (HC3.out.stays k5 HC3.out.here)
      clear k5 e0 e1 u0 u1
      have gd : decide (0 < d0) = true := by exact decide_eq_true (by omega)
      go_wp2_with fail
      go_roundg 1
      case rel => exact ⟨HV5, HM5, .inr ⟨rfl, by go_num, HE5⟩⟩
      case measure => omega
    · have Kr : Hid (Made w1.heap.size w1 wr) := Kb.out.then_ (HMr.out.low lwe)
      have hV := HVr.out
      have v0 := hV.at_ 2
      have v1 := hV.at_ 3
      simp at v0 v1
      have hB := HB1.out.stays Kr.out HB1.out.here
      have b1 := hB.at_ 1
      have b2 := hB.at_ 2
      simp at b1 b2
      have lb1 : w.heap.size + 1 < wr.heap.size := World.block_lt_of_cell? _ _ b1
      have lrv : Bv < wr.heap.size := HVr.out.here
      clear hB hV
      go_wp2_with fail
      refine (vsub_is cx cy qx qy zx zy _ icx icy iqx iqy EZX.out EZY.out).mono ?_
      rintro e w2 ⟨rfl, k2⟩
      have lr : Be < wr.heap.size := HE.out.here
      have lrv : Bv < wr.heap.size := HVr.out.here
      have HE2 := hid (HE.out.stays (made_box k2) lr)
      have HV2 := hid (HVr.out.stays (made_box k2) lrv)
      have HC2 : Hid (Has w2 wr.heap.size 26 #[.int .i64 qx, .int .i64 qy]) := (has_new _ _ _).stays k2 (by simp)
      have HM2 : Hid (Made Be Wb w2) := HMr.out.then_ ((made_box k2).low (Nat.le_of_lt lr))
      clear k2 v0 v1 b1 b2
      go_upto_region 14 with fail
      obtain ⟨W3, eW⟩ : ∃ W, W = w2.alloc (.cells #[.int .i64 zx, .int .i64 zy] 26) := ⟨_, rfl⟩
      obtain ⟨Bu, eBu⟩ : ∃ B, w2.heap.size = B := ⟨_, rfl⟩
      obtain ⟨Bc, eBc⟩ : ∃ B, wr.heap.size = B := ⟨_, rfl⟩
      have HU3 : Hid (Has W3 Bu 26 #[.int .i64 zx, .int .i64 zy]) := by unfold Hid; rw [eW, ← eBu]; exact has_new _ _ _
      have HE3 : Hid (Has W3 Be 26 #[.int .i64 ex, .int .i64 ey]) := by unfold Hid; rw [eW]; exact HE2.out.more _
      have HV3 : Hid (Has W3 Bv 26 #[.int .i64 px, .int .i64 py, .int .i64 qx, .int .i64 qy]) := by unfold Hid; rw [eW]; exact HV2.out.more _
      have HC3 : Hid (Has W3 Bc 26 #[.int .i64 qx, .int .i64 qy]) := by unfold Hid; rw [eW, ← eBc]; exact HC2.out.more _
      have HM3 : Hid (Made Be Wb W3) := by unfold Hid; rw [eW]; exact HM2.out.cells (by have := HE2.out.here; omega) _ _
      have lc3 : Bc < Bu := by rw [← eBc, ← eBu]; exact HC2.out.here
      have lce : Be < Bc := by omega
      have lcv : Bv < Bc := by omega
      rw [← eW, eBu, eBc]
      clear eW eBu eBc HE2 HV2 HC2 HM2
      have e0 := HE3.out.at_ 0
      have e1 := HE3.out.at_ 1
      simp at e0 e1
      go_wp2_with fail
      refine (vneg_is ex ey fx fy _ iex iey EFX.out EFY.out).mono ?_
      rintro e w4 ⟨rfl, k4⟩
      have hE4 := HE3.out.stays k4 HE3.out.here
      have HU4 := hid (HU3.out.stays k4 HU3.out.here)
      have HV4 := hid (HV3.out.stays k4 HV3.out.here)
      have HC4 := hid (HC3.out.stays k4 HC3.out.here)
      have HM4 : Hid (Made Be Wb w4) := HM3.out.then_ (k4.low (by have := HE3.out.here; omega))
      have e0 := hE4.at_ 0
      have e1 := hE4.at_ 1
      simp at e0 e1
      have ef : ∀ i, w4.frozen? ⟨Be, i, none⟩ = false := hE4.free
      have lve : Bv ≠ Be := by have := HEb.out.here; omega
      clear k4 HU3 HV3 HC3 HM3
      go_upto_region 16 with fail
      obtain ⟨W3, eW⟩ : ∃ W, W = (w4.setCell ⟨Be, 0, none⟩ (.int .i64 fx)).setCell ⟨Be, 1, none⟩ (.int .i64 fy) := ⟨_, rfl⟩
      have HE3 : Hid (Has W3 Be 26 #[.int .i64 fx, .int .i64 fy]) := by unfold Hid; rw [eW]; simpa using (hE4.put 0 (.int .i64 fx)).put 1 (.int .i64 fy)
      have HU3 : Hid (Has W3 Bu 26 #[.int .i64 zx, .int .i64 zy]) := by unfold Hid; rw [eW]; exact (HU4.out.other _ (by simp; omega) _).other _ (by simp; omega) _
      have HV3 : Hid (Has W3 Bv 26 #[.int .i64 px, .int .i64 py, .int .i64 qx, .int .i64 qy]) := by unfold Hid; rw [eW]; exact (HV4.out.other _ (by simp; omega) _).other _ (by simp; omega) _
      have HC3 : Hid (Has W3 Bc 26 #[.int .i64 qx, .int .i64 qy]) := by unfold Hid; rw [eW]; exact (HC4.out.other _ (by simp; omega) _).other _ (by simp; omega) _
      have HM3 : Hid (Made Be Wb W3) := by unfold Hid; rw [eW]; exact (HM4.out.put (by simp) _).put (by simp) _
      rw [← eW]
      clear eW HU4 HV4 HC4 HM4 hE4 ef e0 e1
      have e0 := HE3.out.at_ 0
      have e1 := HE3.out.at_ 1
      have u0 := HU3.out.at_ 0
      have u1 := HU3.out.at_ 1
      simp at e0 e1 u0 u1
      go_wp2_with fail
      refine (vdot_is zx zy fx fy d1 _ izx izy ifx ify ED1.out).mono ?_
      rintro e w5 ⟨rfl, k5⟩
      have HM5 : Hid (Made Be Wb w5) := HM3.out.then_ (k5.low (by have := HE3.out.here; omega))
      have HV5 := hid (HV3.out.stays k5 HV3.out.here)
      have HE5 := hid (HE3.out.stays k5 HE3.out.here)
      have HU5 := hid (HU3.out.stays k5 HU3.out.here)
      have HC5 := hid (HC3.out.stays k5 HC3.out.here)
      clear k5 e0 e1 u0 u1
      have gd : decide (0 < d1) = false := by exact decide_eq_false (by omega)
      have u0 := HU5.out.at_ 0
      have u1 := HU5.out.at_ 1
      simp at u0 u1
      go_wp2_with fail
      refine (vlen_is zx zy m _ izx izy EM.out).mono ?_
      rintro e w6 ⟨rfl, k6⟩
      have HM6 : Hid (Made Be Wb w6) := HM5.out.then_ (k6.low (by have := HE5.out.here; omega))
      have K6 : Hid (Made w1.heap.size w1 w6) := Kb.out.then_ (HM6.out.low lwe)
      have u0 := k6.reads u0
      have u1 := k6.reads u1
      have HC6 := hid (HC5.out.stays k6 HC5.out.here)
      clear k6
      go_wp2_with fail
      refine (vunit_is zx zy _ _ izx izy EUn.out).mono ?_
      rintro e w7 ⟨rfl, k7⟩
      have HM7 : Hid (Made Be Wb w7) := HM6.out.then_ (k7.low (by have := HC6.out.here; omega))
      have hC7 := HC6.out.stays k7 HC6.out.here
      have hN7 := HNb.out.stays HM7.out (by omega)
      clear k7 u0 u1
      go_upto_region 23 with fail
      obtain ⟨W8, eW⟩ : ∃ W, W = w7.alloc (.cells #[.int .i64 0, .int .i64 0] 26) := ⟨_, rfl⟩
      have hN8 : Has W8 Bn 26 #[.int .i64 nx, .int .i64 ny] := by rw [eW]; exact hN7.more _
      have hC8 : Has W8 Bc 26 #[.int .i64 qx, .int .i64 qy] := by rw [eW]; exact hC7.more _
      have lB7 : Bn < w7.heap.size := hN7.here
      have K8 : Hid (Made w1.heap.size w1 W8) := by unfold Hid; rw [eW]; exact (Kb.out.then_ (HM7.out.low lwe)).cells (by omega) _ _
      rw [← eW]
      clear eW
      have n0 := hN8.at_ 0
      have n1 := hN8.at_ 1
      have c0 := hC8.at_ 0
      have c1 := hC8.at_ 1
      simp at n0 n1 c0 c1
      refine reg_taken 9 2 (by kernel_rfl) (by kernel_rfl) (by kernel_rfl) ?_
      intro T hT fw hf
      have n0' := Class.reads hf n0
      have n1' := Class.reads hf n1
      have c0' := Class.reads hf c0
      have c1' := Class.reads hf c1
      simp only [List.take_succ_cons, List.take_zero, List.drop_succ_cons, List.drop_zero]
      repeat (go_big_quiet_step ((go_at_call 44; with_reducible exact hf.same (sub_is _ _ _ _ iR im EDEP.out))))
      refine wpQuiet_nil ?_
      intro w9 h9
      have k9 := hf.here h9
      have K9 : Hid (Made w1.heap.size w1 w9) := K8.out.then_ (k9.low K8.out.1.size)
      clear k9 h9 hf n0' n1' c0' c1' n0 n1 c0 c1 hN8 hC8 hN7 hC7
      go_wp2_with fail
      refine (point_is nx ny qx qy dep _ _).mono ?_
      rintro e wa ⟨g', rfl, hp, hg, ka⟩
      have Ka : Hid (Made w1.heap.size w1 wa) := K9.out.then_ (ka.low K9.out.1.size)
      have HPt := hid hp.cells
      have hgw : w.heap.size + 1 + 1 < g' := by have := K9.out.1.size; omega
      clear ka hp hg
      have hO := HO1.out.stays Ka.out lo1
      have o0 := hO.at_ 0
      have o1 := hO.at_ 1
      have o2 := hO.at_ 2
      simp at o0 o1 o2
      have of_ : ∀ i, wa.frozen? ⟨w.heap.size + 1 + 1, i, none⟩ = false := hO.free
      have MO : Hid (Made w.heap.size w wa) := M1.out.then_ (Ka.out.low M1.out.1.size)
      clear hO
      go_wp2_with fail
      refine OnlyN.here ?_
      go_wp2_with fail
      refine bodyPost_ret (v := .tuple #[tchV nx ny (some ⟨g', 0, none⟩) 1 1, .bool true]) (by simp [results, Try.results34, go_sem, o0, o1, o2]) rfl (touch_one ?_ ?_ ?_ ?_ ?_)
      · exact cell_else (by simp; omega) (cell_else (by simp; omega) (cell_else (by simp; omega) HPt.out.1))
      · exact cell_else (by simp; omega) (cell_else (by simp; omega) (cell_else (by simp; omega) HPt.out.2.1))
      · exact cell_else (by simp; omega) (cell_else (by simp; omega) (cell_else (by simp; omega) HPt.out.2.2.1))
      · exact cell_else (by simp; omega) (cell_else (by simp; omega) (cell_else (by simp; omega) HPt.out.2.2.2))
      · exact ((MO.out.put (by simp; try omega) _).put (by simp; try omega) _).put (by simp; try omega) _
end Go.Proofs.Ytckgpkbdckpcmaa.Fx
