/- The statements' own polys: two polygons. -/
import Derived.Test.YtckgpkbdckpcmaaTouchJ
import Derived.Test.YtckgpkbdckpcmaaMex
import Derived.Test.YtckgpkbdckpcmaaFls
import Derived.Deep.DeepCutAuto
namespace Go.Proofs.Ytckgpkbdckpcmaa.Fx
open Go.ChangeShapes Go.WideShapes Go.ChangeAt Go.RowKit
set_option linter.unusedVariables false

set_option maxRecDepth 100000 in
set_option maxHeartbeats 2000000 in
theorem lpolys_q_cut1 (X Y A : Int) (b off n cap : Nat) (f : Cs) (X2 Y2 A2 : Int) (b2 off2 m cap2 : Nat) (f2 : Cs) (P Q : Cs) (w : World) (iX : I64 X) (iY : I64 Y) (iA : I64 A) (hn3 : 3 ≤ n) (h8 : n ≤ 8) (hp : Pts w b off n f) (hi : Cin f n) (hP : placeF f (cs (stepF A)) (sn (stepF A)) X Y = P) (iX2 : I64 X2) (iY2 : I64 Y2) (iA2 : I64 A2) (hm3 : 3 ≤ m) (hm8 : m ≤ 8) (hq : Pts w b2 off2 m f2) (hi2 : Cin f2 m) (hQ : placeF f2 (cs (stepF A2)) (sn (stepF A2)) X2 Y2 = Q) (i k : Nat) (ei : sideF P n Q m = i) (ek : sideF Q m P n = k) (h1 : ¬ 0 ≤ gapF P n Q m i) (h2 : ¬ 0 ≤ gapF Q m P n k) (h3 : gapF P n Q m i < gapF Q m P n k) (N V U T E F : Int × Int) (e : Nat) (eN : normF Q m k = N) (eV : Q k = V) (eU : Q ((k + 1) % m) = U) (eT : unitP (subV U V) = T) (ee : incF N P n = e) (eE : P e = E) (eF : P ((e + 1) % n) = F) (hc : dotV T (subV E V) < 0 ∧ dotV T (subV F V) < 0) :
    Calls Try.prog 35 #[bodyV 0 X Y 0 0 A 0 0 2 0 (.slice (some ⟨b, off, none⟩) n cap), bodyV 0 X2 Y2 0 0 A2 0 0 2 0 (.slice (some ⟨b2, off2, none⟩) m cap2)] w (TouchR (none) w) := by
  have hn : 0 < n := by omega
  have hm : 0 < m := by omega
  have hin : i < n := by rw [← ei]; have := firstF_le (gapF P n Q m) (n - 1); unfold sideF; omega
  have hkm : k < m := by rw [← ek]; have := firstF_le (gapF Q m P n) (m - 1); unfold sideF; omega
  have iP : Cin P n := by rw [← hP]; exact fun j hj => ⟨i64_add _ _, i64_add _ _⟩
  have iQ : Cin Q m := by rw [← hQ]; exact fun j hj => ⟨i64_add _ _, i64_add _ _⟩
  obtain ⟨gi, egi⟩ : ∃ z, gapF P n Q m i = z := ⟨_, rfl⟩
  obtain ⟨gk, egk⟩ : ∃ z, gapF Q m P n k = z := ⟨_, rfl⟩
  simp only [egi] at h1
  simp only [egk] at h2
  simp only [egi, egk] at h3
  obtain ⟨nx, ny⟩ := N
  obtain ⟨vx, vy⟩ := V
  obtain ⟨ux, uy⟩ := U
  obtain ⟨tx, ty⟩ := T
  obtain ⟨ex, ey⟩ := E
  obtain ⟨fx, fy⟩ := F
  have hri : k < m := by omega
  obtain ⟨rj, erj⟩ : ∃ z, (k + 1) % m = z := ⟨_, rfl⟩
  have hrj : rj < m := by rw [← erj]; exact Nat.mod_lt _ (by omega)
  have rm : ((k : Int) + 1).tmod (m : Int) = (rj : Int) := by
    rw [Int.tmod_eq_emod_of_nonneg (by omega), ← erj, Int.natCast_emod, Int.natCast_add]; rfl
  have rm' : ((k : Int) + 1) % (m : Int) = (rj : Int) := by
    rw [← erj, Int.natCast_emod, Int.natCast_add]; rfl
  rw [erj] at eU
  have hem : e < n := by rw [← ee]; have := botF_le (fun j => dotV (nx, ny) (normF P n j)) (n - 1); unfold incF; omega
  obtain ⟨e1, ee1⟩ : ∃ z, (e + 1) % n = z := ⟨_, rfl⟩
  have hem1 : e1 < n := by rw [← ee1]; exact Nat.mod_lt _ (by omega)
  have em : ((e : Int) + 1).tmod (n : Int) = (e1 : Int) := by
    rw [Int.tmod_eq_emod_of_nonneg (by omega), ← ee1, Int.natCast_emod, Int.natCast_add]; rfl
  have em' : ((e : Int) + 1) % (n : Int) = (e1 : Int) := by
    rw [← ee1, Int.natCast_emod, Int.natCast_add]; rfl
  rw [ee1] at eF
  have iN := i64_norm Q m k
  rw [eN] at iN
  obtain ⟨inx, iny⟩ := iN
  have iV := iQ k hri
  rw [eV] at iV
  obtain ⟨ivx, ivy⟩ := iV
  have iU := iQ rj hrj
  rw [eU] at iU
  obtain ⟨iux, iuy⟩ := iU
  have iE := iP e hem
  rw [eE] at iE
  obtain ⟨iex, iey⟩ := iE
  have iF := iP e1 hem1
  rw [eF] at iF
  obtain ⟨ifx, ify⟩ := iF
  obtain ⟨dx, edx⟩ : ∃ z, subF ux vx = z := ⟨_, rfl⟩
  have idx : I64 dx := by rw [← edx]; exact i64_sub _ _
  obtain ⟨dy, edy⟩ : ∃ z, subF uy vy = z := ⟨_, rfl⟩
  have idy : I64 dy := by rw [← edy]; exact i64_sub _ _
  have iT : I64 tx ∧ I64 ty := by
    have := i64_u dx dy
    have e : uF dx dy = (tx, ty) := by rw [← eT, ← edx, ← edy]; rfl
    rw [e] at this
    exact this
  obtain ⟨itx, ity⟩ := iT
  obtain ⟨ok, eUn⟩ : ∃ ok, unitV dx dy = .tuple #[vecV tx ty, .bool ok] := by
    refine ⟨decide (lenF dx dy ≠ 0), ?_⟩
    have e : uF dx dy = (tx, ty) := by rw [← eT, ← edx, ← edy]; rfl
    have := unitV_uF dx dy
    rw [e] at this
    exact this
  have HIN := hid (fun j a c (h : normF P n j = (a, c)) => show addF (mulF nx a) (mulF ny c) = (fun j => dotV (nx, ny) (normF P n j)) j by simp only [h]; rfl)
  obtain ⟨hh, ehh⟩ : ∃ h : Nat → Int, (fun j => dotV (nx, ny) (normF P n j)) = h := ⟨_, rfl⟩
  rw [ehh] at HIN
  have EE : Hid (botF hh (n - 1) = e) := by unfold Hid; rw [← ehh]; exact ee
  have EDX := hid edx; have EDY := hid edy; have EUN := hid eUn
  clear edx edy eUn eT ee ehh
  have HC1 := hid (fun w => lcut_no ex ey fx fy vx vy tx ty _ _ w iex iey ifx ify ivx ivy itx ity rfl rfl hc)
  have EN := hid eN; have EV := hid eV; have EU := hid eU; have EE0 := hid eE; have EF := hid eF
  clear eN eV eU eE eF hc erj ee1
  have HCa := hid (fun w hp => lcorners_is X Y A b off n cap f w iX iY iA hn3 h8 hp hi P hP)
  have HCb := hid (fun w hp => lcorners_is X2 Y2 A2 b2 off2 m cap2 f2 w iX2 iY2 iA2 hm3 hm8 hp hi2 Q hQ)
  have HGa := hid (fun g g2 w hp hq => gaps_is g 0 n n g2 0 m P Q w hn h8 hm hm8 hp hq iP iQ)
  have HGb := hid (fun g g2 w hp hq => gaps_is g 0 m m g2 0 n Q P w hm hm8 hn h8 hp hq iQ iP)
  have HFa := hid (fun g c w q => first_is g n c (gapF P n Q m) w hn h8 q)
  rw [show firstF (gapF P n Q m) (n - 1) = i from ei] at HFa
  have HFb := hid (fun g c w q => first_is g m c (gapF Q m P n) w hm hm8 q)
  rw [show firstF (gapF Q m P n) (m - 1) = k from ek] at HFb
  have HNa := hid (fun g w hp => normals_is g 0 n n P w hn h8 hp iP)
  have HNb := hid (fun g w hp => normals_is g 0 m m Q w hm hm8 hp iQ)
  have HP := hid hp
  have HQ := hid hq
  have EGI := hid egi
  have EGK := hid egk
  clear hp hi hP hq hi2 hQ ei ek egi egk iP iQ
  go_enter Try.func35, Try.ntmps35
  go_upto_region 1 with fail
  obtain ⟨W0, eW⟩ : ∃ W, W = ((w.alloc (.cells #[.int .i64 0, .int .i64 X, .int .i64 Y, .int .i64 0, .int .i64 0, .int .i64 A, .int .i64 0, .int .i64 0, .int .i64 2, .int .i64 0, .slice (some ⟨b, off, none⟩) n cap] 34)).alloc (.cells #[.int .i64 0, .int .i64 X2, .int .i64 Y2, .int .i64 0, .int .i64 0, .int .i64 A2, .int .i64 0, .int .i64 0, .int .i64 2, .int .i64 0, .slice (some ⟨b2, off2, none⟩) m cap2] 34)).alloc (.cells #[.int .i64 0, .int .i64 0, .slice none 0 0] 38) := ⟨_, rfl⟩
  have hA0 : Has W0 w.heap.size 34 #[.int .i64 0, .int .i64 X, .int .i64 Y, .int .i64 0, .int .i64 0, .int .i64 A, .int .i64 0, .int .i64 0, .int .i64 2, .int .i64 0, .slice (some ⟨b, off, none⟩) n cap] := by rw [eW]; exact ((has_new _ _ _).more _).more _
  have hB0 : Has W0 (w.heap.size + 1) 34 #[.int .i64 0, .int .i64 X2, .int .i64 Y2, .int .i64 0, .int .i64 0, .int .i64 A2, .int .i64 0, .int .i64 0, .int .i64 2, .int .i64 0, .slice (some ⟨b2, off2, none⟩) m cap2] := by rw [eW]; exact (has_next _ _ _ _).more _
  have hO0 : Has W0 (w.heap.size + 1 + 1) 38 #[.int .i64 0, .int .i64 0, .slice none 0 0] := by rw [eW]; simpa using has_new ((w.alloc (.cells #[.int .i64 0, .int .i64 X, .int .i64 Y, .int .i64 0, .int .i64 0, .int .i64 A, .int .i64 0, .int .i64 0, .int .i64 2, .int .i64 0, .slice (some ⟨b, off, none⟩) n cap] 34)).alloc (.cells #[.int .i64 0, .int .i64 X2, .int .i64 Y2, .int .i64 0, .int .i64 0, .int .i64 A2, .int .i64 0, .int .i64 0, .int .i64 2, .int .i64 0, .slice (some ⟨b2, off2, none⟩) m cap2] 34)) 38 #[.int .i64 0, .int .i64 0, .slice none 0 0]
  have M0 : Hid (Made w.heap.size w W0) := by unfold Hid; rw [eW]; exact (((Made.rfl_ _ _).cells (Nat.le_refl _) _ _).cells (by simp) _ _).cells (by simp; omega) _ _
  have HPW : Hid (∀ v, Made W0.heap.size W0 v → Pts v b off n f) := fun v kv => HP.out.kept (M0.out.then_ (kv.low M0.out.1.size))
  have HQW : Hid (∀ v, Made W0.heap.size W0 v → Pts v b2 off2 m f2) := fun v kv => HQ.out.kept (M0.out.then_ (kv.low M0.out.1.size))
  rw [← eW]
  clear eW
  have a0 := hA0.at_ 0
  have a1 := hA0.at_ 1
  have a2 := hA0.at_ 2
  have a3 := hA0.at_ 3
  have a4 := hA0.at_ 4
  have a5 := hA0.at_ 5
  have a6 := hA0.at_ 6
  have a7 := hA0.at_ 7
  have a8 := hA0.at_ 8
  have a9 := hA0.at_ 9
  have a10 := hA0.at_ 10
  have b0_ := hB0.at_ 0
  have b1_ := hB0.at_ 1
  have b2_ := hB0.at_ 2
  have b3_ := hB0.at_ 3
  have b4_ := hB0.at_ 4
  have b5_ := hB0.at_ 5
  have b6_ := hB0.at_ 6
  have b7_ := hB0.at_ 7
  have b8_ := hB0.at_ 8
  have b9_ := hB0.at_ 9
  have b10_ := hB0.at_ 10
  simp at a0 a1 a2 a3 a4 a5 a6 a7 a8 a9 a10 b0_ b1_ b2_ b3_ b4_ b5_ b6_ b7_ b8_ b9_ b10_
  refine region_makes 4 197 [0, 2] [1, 3] (al2 n m P Q) (val2 n m) (by kernel_rfl) (al2_lasts n m P Q) (by kernel_rfl) rfl (by kernel_rfl) rfl ?_
  apply Exists.intro
  refine ⟨?h1, ?h2⟩
  case h1 =>
    intro Ty hT fw hf
    have a0 := Class.reads hf a0
    have a1 := Class.reads hf a1
    have a2 := Class.reads hf a2
    have a3 := Class.reads hf a3
    have a4 := Class.reads hf a4
    have a5 := Class.reads hf a5
    have a6 := Class.reads hf a6
    have a7 := Class.reads hf a7
    have a8 := Class.reads hf a8
    have a9 := Class.reads hf a9
    have a10 := Class.reads hf a10
    have b0_ := Class.reads hf b0_
    have b1_ := Class.reads hf b1_
    have b2_ := Class.reads hf b2_
    have b3_ := Class.reads hf b3_
    have b4_ := Class.reads hf b4_
    have b5_ := Class.reads hf b5_
    have b6_ := Class.reads hf b6_
    have b7_ := Class.reads hf b7_
    have b8_ := Class.reads hf b8_
    have b9_ := Class.reads hf b9_
    have b10_ := Class.reads hf b10_
    change wpQuiet _ _ _ _ [_, _] _
    repeat (go_big_quiet_step (fail))
    exact wpQuiet_nil rfl
  clear a0 a1 a2 a3 a4 a5 a6 a7 a8 a9 a10 b0_ b1_ b2_ b3_ b4_ b5_ b6_ b7_ b8_ b9_ b10_
  have mka : Hid (∀ (G : Nat → Option Nat) (u : World), ClM W0 (al2 n m P Q) G u → MkUpon Try.prog W0 (al2 n m P Q) (val2 n m) 1 G (.ok (.enter 21 #[bodyV 0 X Y 0 0 A 0 0 2 0 (.slice (some ⟨b, off, none⟩) n cap)]) u)) := by
    intro G u hu
    refine (HCa.out u (HPW.out u hu.1)).mono ?_
    rintro e u' ⟨g', rfl, hrow', hg', k'⟩
    exact ⟨g', 0, rfl, hu.next (al2_lasts n m P Q) k' hg' hrow'.here hrow'⟩
  have mkb : Hid (∀ (G : Nat → Option Nat) (u : World), ClM W0 (al2 n m P Q) G u → MkUpon Try.prog W0 (al2 n m P Q) (val2 n m) 3 G (.ok (.enter 21 #[bodyV 0 X2 Y2 0 0 A2 0 0 2 0 (.slice (some ⟨b2, off2, none⟩) m cap2)]) u)) := by
    intro G u hu
    refine (HCb.out u (HQW.out u hu.1)).mono ?_
    rintro e u' ⟨g', rfl, hrow', hg', k'⟩
    exact ⟨g', 0, rfl, hu.next (al2_lasts n m P Q) k' hg' hrow'.here hrow'⟩
  refine ⟨_, 30, rfl, ⟨rfl, rfl, fun G u hu => ?mk1⟩, fun gp cc1 => ⟨_, 32, rfl, ⟨rfl, rfl, fun G u hu => ?mk2⟩, fun gq cc2 => ?rest⟩⟩
  case mk1 =>
    rw [show (execOp _ _).run Try.prog u = .ok (.enter 21 #[bodyV 0 X Y 0 0 A 0 0 2 0 (.slice (some ⟨b, off, none⟩) n cap)]) u by kernel_rfl]
    exact mka.out G u hu
  case mk2 =>
    rw [show (execOp _ _).run Try.prog u = .ok (.enter 21 #[bodyV 0 X2 Y2 0 0 A2 0 0 2 0 (.slice (some ⟨b2, off2, none⟩) m cap2)]) u by kernel_rfl]
    exact mkb.out G u hu
  clear mka mkb
  intro w1 hu
  have q1 : upd (upd (fun _ => none) 1 gp) 3 gq 1 = some gp := by unfold upd; simp
  have q2 : upd (upd (fun _ => none) 1 gp) 3 gq 3 = some gq := by unfold upd; simp
  have RP : Hid (Row w1 gp 26 n P) := (hu.2.1 1 gp q1).2.2
  have RQ : Hid (Row w1 gq 26 m Q) := (hu.2.1 3 gq q2).2.2
  have HO1 := hid (hO0.stays hu.1 hO0.here)
  have M1 : Hid (Made w.heap.size w w1) := M0.out.then_ (hu.1.low M0.out.1.size)
  have lo1 : w.heap.size + 1 + 1 < w1.heap.size := HO1.out.here
  have lgp : gp < w1.heap.size := RP.out.here
  have lgq : gq < w1.heap.size := RQ.out.here
  simp only [List.drop_succ_cons, List.drop_zero]
  clear hu q1 q2 hB0 hO0 hA0 M0 HPW HQW
  rw [show val2 n m 1 gp cc1 = .slice (some ⟨gp, 0, none⟩) n n from rfl, show val2 n m 3 gq cc2 = .slice (some ⟨gq, 0, none⟩) m m from rfl]
  go_wp2_with fail
  refine (HGa.out gp gq w1 RP.out.pts RQ.out.pts).mono ?_
  rintro e w2 ⟨gl, cl, rfl, hI, k2⟩
  have K2 : Hid (Made w1.heap.size w1 w2) := k2
  have HI2 := hid hI
  clear k2 hI
  go_wp2_with fail
  refine (HGb.out gq gp w2 (RQ.out.stays K2.out lgq).pts (RP.out.stays K2.out lgp).pts).mono ?_
  rintro e w3 ⟨gm, cm, rfl, hJ, k3⟩
  have K3 : Hid (Made w1.heap.size w1 w3) := K2.out.then_ (k3.low K2.out.1.size)
  have HI3 := hid (HI2.out.kept k3)
  have HJ3 := hid hJ
  clear k3 hJ HI2 K2
  go_wp2_with fail
  refine (HFa.out gl cl w3 HI3.out).mono ?_
  rintro e w4 ⟨rfl, k4⟩
  have K4 : Hid (Made w1.heap.size w1 w4) := K3.out.then_ (k4.low K3.out.1.size)
  have HI4 := hid (HI3.out.kept k4)
  have HJ4 := hid (HJ3.out.kept k4)
  clear k4 HI3 HJ3 K3
  go_wp2_with fail
  refine (HFb.out gm cm w4 HJ4.out).mono ?_
  rintro e w5 ⟨rfl, k5⟩
  have K5 : Hid (Made w1.heap.size w1 w5) := K4.out.then_ (k5.low K4.out.1.size)
  have c0 := (HI4.out.kept k5) i hin
  rw [EGI.out] at c0
  have c1 := (HJ4.out.kept k5) k hkm
  rw [EGK.out] at c1
  clear k5 HI4 HJ4 K4
  have g3 : decide (gi < gk) = true := decide_eq_true (by omega)
  go_upto_region 6 with fail
  refine reg_made (by kernel_rfl) (by kernel_rfl) ?_
  intro T hT fw hf
  have c0' := Class.reads hf c0
  have c1' := Class.reads hf c1
  repeat (go_big_quiet_step (fail))
  refine wpQuiet_nil ?_
  intro w6 h6
  have K6 : Hid (Made w1.heap.size w1 w6) := K5.out.then_ ((hf.here h6).low K5.out.1.size)
  clear h6 hf c0' c1' c0 c1 K5
  go_wp2_with fail
  refine (HNb.out gq w6 (RQ.out.stays K6.out lgq).pts).mono ?_
  rintro e_ w7 ⟨gn, rfl, hgn, hRN, k7⟩
  have K7 : Hid (Made w1.heap.size w1 w7) := K6.out.then_ (k7.low K6.out.1.size)
  obtain ⟨n0, n1⟩ := hRN.pts k hri
  rw [EN.out, Nat.zero_add] at n0 n1
  clear k7 hgn hRN K6
  go_upto_region 10 with fail
  obtain ⟨W8, eW⟩ : ∃ W, W = w7.alloc (.cells #[.int .i64 nx, .int .i64 ny] 26) := ⟨_, rfl⟩
  obtain ⟨Bn, eBn⟩ : ∃ B, w7.heap.size = B := ⟨_, rfl⟩
  have K8 : Hid (Made w1.heap.size w1 W8) := by unfold Hid; rw [eW]; exact K7.out.cells K7.out.1.size _ _
  have HN8 : Hid (Has W8 Bn 26 #[.int .i64 nx, .int .i64 ny]) := by unfold Hid; rw [eW, ← eBn]; exact has_new _ _ _
  have lBn : Bn < W8.heap.size := HN8.out.here
  have lwn : w1.heap.size ≤ Bn := by rw [← eBn]; exact K7.out.1.size
  rw [← eW, eBn]
  clear eW eBn n0 n1 K7
  obtain ⟨v0, v1⟩ := (RQ.out.stays K8.out lgq).pts k hri
  rw [EV.out, Nat.zero_add] at v0 v1
  obtain ⟨u0, u1⟩ := (RQ.out.stays K8.out lgq).pts rj hrj
  rw [EU.out, Nat.zero_add] at u0 u1
  have lgr8 : gq < W8.heap.size := World.block_lt_of_cell? _ _ v0
  go_cut [15, 16] (fun s7 s8 wx => ∃ g7 g8, s7 = .pointer (some ⟨g7, 0, none⟩) ∧ s8 = .pointer (some ⟨g8, 0, none⟩) ∧ W8.heap.size ≤ g7 ∧ W8.heap.size ≤ g8 ∧ Hid (Has wx g7 26 #[.int .i64 vx, .int .i64 vy]) ∧ Hid (Has wx g8 26 #[.int .i64 ux, .int .i64 uy]) ∧ Hid (Made W8.heap.size W8 wx))
  case first =>
    go_region
    all_goals (go_wp2_with fail)
    all_goals go_meet
    all_goals first
      | exact ⟨W8.heap.size, W8.heap.size + 1, rfl, rfl, by omega, by omega, ((has_new _ _ _).more _).drawn 1, (has_next _ _ _ _).drawn 1, (((Made.rfl_ _ _).cells (Nat.le_refl _) _ _).cells (by simp) _ _).draws 1⟩
      | exact ⟨W8.heap.size + 1, W8.heap.size, rfl, rfl, by omega, by omega, (has_next _ _ _ _).drawn 1, ((has_new _ _ _).more _).drawn 1, (((Made.rfl_ _ _).cells (Nat.le_refl _) _ _).cells (by simp) _ _).draws 1⟩
  obtain ⟨g7, g8, rfl, rfl, l7, l8, H7, H8, HM⟩ := hcut
  rename World => W9
  have K9 : Hid (Made w1.heap.size w1 W9) := K8.out.then_ (HM.out.low K8.out.1.size)
  have HN9 := hid (HN8.out.stays HM.out lBn)
  clear HM HN8 K8 v0 v1 u0 u1 lgr8
  have v0 := H7.out.at_ 0
  have v1 := H7.out.at_ 1
  have u0 := H8.out.at_ 0
  have u1 := H8.out.at_ 1
  simp at v0 v1 u0 u1
  go_wp2_with fail
  refine (vsub_is ux uy vx vy dx dy _ iux iuy ivx ivy EDX.out EDY.out).mono ?_
  rintro e_ w10 ⟨rfl, k10⟩
  have K10 : Hid (Made W9.heap.size W9 w10) := k10
  clear k10 v0 v1 u0 u1
  go_wp2_with fail
  refine (vunit_is dx dy _ _ idx idy EUN.out).mono ?_
  rintro e_ w11 ⟨rfl, k11⟩
  have K11 : Hid (Made W9.heap.size W9 w11) := K10.out.then_ (k11.low K10.out.1.size)
  clear k11 K10
  go_upto_region 13 with fail
  obtain ⟨Wa, eW⟩ : ∃ W, W = w11.alloc (.cells #[.int .i64 tx, .int .i64 ty] 26) := ⟨_, rfl⟩
  obtain ⟨Bt, eBt⟩ : ∃ B, w11.heap.size = B := ⟨_, rfl⟩
  have Ka' : Made W9.heap.size W9 Wa := by rw [eW]; exact K11.out.cells K11.out.1.size _ _
  have HTa : Hid (Has Wa Bt 26 #[.int .i64 tx, .int .i64 ty]) := by unfold Hid; rw [eW, ← eBt]; exact has_new _ _ _
  have Ka : Hid (Made w1.heap.size w1 Wa) := K9.out.then_ (Ka'.low K9.out.1.size)
  have HNa_ := hid (HN9.out.stays Ka' HN9.out.here)
  have H7a := hid (H7.out.stays Ka' H7.out.here)
  have H8a := hid (H8.out.stays Ka' H8.out.here)
  rw [← eW, eBt]
  clear eW eBt Ka' K11 HN9 H7 H8
  go_wp2_with fail
  refine (HNa.out gp Wa (RP.out.stays Ka.out lgp).pts).mono ?_
  rintro e_ wb ⟨gs, rfl, hgs, hRS, kb⟩
  have Kb : Hid (Made w1.heap.size w1 wb) := Ka.out.then_ (kb.low Ka.out.1.size)
  have HRS := hid hRS
  have HNb_ := hid (HNa_.out.stays kb HNa_.out.here)
  have H7b := hid (H7a.out.stays kb H7a.out.here)
  have H8b := hid (H8a.out.stays kb H8a.out.here)
  have HTb := hid (HTa.out.stays kb HTa.out.here)
  clear kb hgs hRS HNa_ H7a H8a HTa Ka
  go_wp2_with fail
  go_loopg [19, 103] n (fun gg s j wr => ∃ t : Nat, t + gg = n ∧ j = .int .i64 t ∧ s = .int .i64 (botF hh (t - 1)) ∧ Hid (Made wb.heap.size wb wr))
  case atStart => exact ⟨0, by omega, rfl, rfl, Made.rfl_ _ _⟩
  case round =>
    obtain ⟨t, ht, rfl, rfl, HMr⟩ := hrel
    have hNr := HNb_.out.stays HMr.out HNb_.out.here
    by_cases hlt : t < n
    · have hk : botF hh (t - 1) < n := by have := botF_le hh (t - 1); omega
      obtain ⟨z, ez⟩ : ∃ z, botF hh (t - 1) = z := ⟨_, rfl⟩
      rw [ez] at hk ⊢
      obtain ⟨SA, esa⟩ : ∃ x, normF P n t = x := ⟨_, rfl⟩
      obtain ⟨ax_, ay_⟩ := SA
      obtain ⟨SB, esb⟩ : ∃ x, normF P n z = x := ⟨_, rfl⟩
      obtain ⟨bx_, by_⟩ := SB
      obtain ⟨x, ex_⟩ : ∃ x, hh t = x := ⟨_, rfl⟩
      obtain ⟨y, ey_⟩ : ∃ y, hh z = y := ⟨_, rfl⟩
      have DA : Hid (addF (mulF nx ax_) (mulF ny ay_) = x) := (HIN.out t ax_ ay_ esa).trans ex_
      have DB : Hid (addF (mulF nx bx_) (mulF ny by_) = y) := (HIN.out z bx_ by_ esb).trans ey_
      have iSA := i64_norm P n t
      rw [esa] at iSA
      obtain ⟨iax_, iay_⟩ := iSA
      have iSB := i64_norm P n z
      rw [esb] at iSB
      obtain ⟨ibx_, iby_⟩ := iSB
      obtain ⟨a0, a1⟩ := (HRS.out.stays HMr.out HRS.out.here).pts t hlt
      rw [esa, Nat.zero_add] at a0 a1
      obtain ⟨b0, b1⟩ := (HRS.out.stays HMr.out HRS.out.here).pts z hk
      rw [esb, Nat.zero_add] at b0 b1
      have n0 := hNr.at_ 0
      have n1 := hNr.at_ 1
      simp at n0 n1
      have HF : Hid (botF hh (t + 1 - 1) = if x < y then t else z) := by
        unfold Hid
        rcases Nat.eq_zero_or_pos t with rfl | h0
        · have : z = 0 := by rw [← ez]; rfl
          subst this
          rw [ey_] at ex_
          subst ex_
          rw [if_neg (by omega)]; rfl
        · obtain ⟨p, rfl⟩ : ∃ p, t = p + 1 := ⟨t - 1, by omega⟩
          simp only [Nat.add_sub_cancel] at ez ⊢
          show (if hh (p + 1) < hh (botF hh p) then p + 1 else botF hh p) = _
          rw [ez, ex_, ey_]
      clear ez ex_ ey_ esa esb hNr
      go_upto_region 17 with fail
      refine reg_made (by kernel_rfl) (by kernel_rfl) ?_
      intro T hT fw hf
      have a0' := Class.reads hf a0
      have a1' := Class.reads hf a1
      have b0' := Class.reads hf b0
      have b1' := Class.reads hf b1
      have n0' := Class.reads hf n0
      have n1' := Class.reads hf n1
      repeat (go_big_quiet_step ((go_at_call 43; with_reducible first | exact hf.made (vdot_is _ _ _ _ _ _ inx iny iax_ iay_ DA.out) | exact hf.made (vdot_is _ _ _ _ _ _ inx iny ibx_ iby_ DB.out))))
      refine wpQuiet_nil ?_
      intro w12 h12
      have M12 : Hid (Made wb.heap.size wb w12) := HMr.out.then_ ((hf.here h12).low HMr.out.1.size)
      clear h12 hf a0 a1 b0 b1 n0 n1 a0' a1' b0' b1' n0' n1'
      by_cases hxy : x < y
      · have HF' : Hid (botF hh (t + 1 - 1) = t) := by have := HF.out; rw [if_pos hxy] at this; exact this
        have gxy : decide (x < y) = true := decide_eq_true hxy
        clear HF
        go_wp2_with fail
        go_roundg (n - t - 1)
        case rel => exact ⟨t + 1, by omega, by go_num, by rw [HF'.out], M12⟩
        case measure => omega
      · have HF' : Hid (botF hh (t + 1 - 1) = z) := by have := HF.out; rw [if_neg hxy] at this; exact this
        have gxy : decide (x < y) = false := decide_eq_false hxy
        clear HF
        go_wp2_with fail
        go_roundg (n - t - 1)
        case rel => exact ⟨t + 1, by omega, by go_num, by rw [HF'.out], M12⟩
        case measure => omega
    · have et : t = n := by omega
      subst et
      rw [EE.out]
      have Kr : Hid (Made w1.heap.size w1 wr) := Kb.out.then_ (HMr.out.low Kb.out.1.size)
      have hNr := HNb_.out.stays HMr.out HNb_.out.here
      have HNr := hid hNr
      have H7r := hid (H7b.out.stays HMr.out H7b.out.here)
      have H8r := hid (H8b.out.stays HMr.out H8b.out.here)
      have HTr := hid (HTb.out.stays HMr.out HTb.out.here)
      obtain ⟨e0, e1_⟩ := (RP.out.stays Kr.out lgp).pts e hem
      rw [EE0.out, Nat.zero_add] at e0 e1_
      obtain ⟨f0, f1⟩ := (RP.out.stays Kr.out lgp).pts e1 hem1
      rw [EF.out, Nat.zero_add] at f0 f1
      have v0 := H7r.out.at_ 0
      have v1 := H7r.out.at_ 1
      have t0 := HTr.out.at_ 0
      have t1 := HTr.out.at_ 1
      simp at v0 v1 t0 t1
      have lwn' : w1.heap.size ≤ Bn := lwn
      clear HMr HNb_ H7b H8b HTb hNr HRS Kb
      go_upto_region 20 with fail
      refine FS.reg_late2 19 197 [17, 18] 22 23 26 26 #[.int .i64 0, .int .i64 0] #[.int .i64 0, .int .i64 0] _ _ (by kernel_rfl) (by kernel_rfl) ?hpu (fun p hp => .inl (by simp at hp; omega)) (by kernel_rfl) rfl rfl alc_V alc_V ?_
      case hpu => intro p hp o ho; simp at hp; rcases hp with rfl | rfl <;> (cases ho; exact extract_pure rfl)
      apply Exists.intro
      refine ⟨?h5, ?h6⟩
      case h5 =>
        intro T hT fw hf
        have e0 := Class.reads hf e0
        have e1_ := Class.reads hf e1_
        have f0 := Class.reads hf f0
        have f1 := Class.reads hf f1
        have v0 := Class.reads hf v0
        have v1 := Class.reads hf v1
        have t0 := Class.reads hf t0
        have t1 := Class.reads hf t1
        simp only [List.take_succ_cons, List.take_zero]
        repeat (go_big_quiet_step ((go_at_call 59; with_reducible exact hf.made (HC1.out _))))
        exact wpQuiet_nil rfl
      intro g22 g23 w13 k13 hg1 hg2 hne hh1 hh2
      have K13 : Hid (Made w1.heap.size w1 w13) := Kr.out.then_ (k13.low Kr.out.1.size)
      have HNc := hid (HNr.out.stays k13 HNr.out.here)
      have H7c := hid (H7r.out.stays k13 H7r.out.here)
      have H8c := hid (H8r.out.stays k13 H8r.out.here)
      have HTc := hid (HTr.out.stays k13 HTr.out.here)
      have lN22 : Bn < g22 := by have := HNr.out.here; omega
      have lN23 : Bn < g23 := by have := HNr.out.here; omega
      have l722 : g7 < g22 := by have := H7r.out.here; omega
      have l723 : g7 < g23 := by have := H7r.out.here; omega
      have l822 : g8 < g22 := by have := H8r.out.here; omega
      have l823 : g8 < g23 := by have := H8r.out.here; omega
      have lT22 : Bt < g22 := by have := HTr.out.here; omega
      have lT23 : Bt < g23 := by have := HTr.out.here; omega
      have hne' : g23 ≠ g22 := fun e => hne e.symm
      have lw22 : w1.heap.size ≤ g22 := by omega
      have lw23 : w1.heap.size ≤ g23 := by omega
      have y0 := hh1.at_ 0
      have y1 := hh1.at_ 1
      have z0 := hh2.at_ 0
      have z1 := hh2.at_ 1
      simp at y0 y1 z0 z1
      have yf : ∀ i, w13.frozen? ⟨g22, i, none⟩ = false := hh1.free
      have zf : ∀ i, w13.frozen? ⟨g23, i, none⟩ = false := hh2.free
      clear k13 hg1 hg2 e0 e1_ f0 f1 v0 v1 t0 t1 HNr H7r H8r HTr Kr
      simp only [List.drop_succ_cons, List.drop_zero]
      go_upto_region 21 with fail
      obtain ⟨Wd, eW⟩ : ∃ W, W = (((w13.setCell ⟨g22, 0, none⟩ (.int .i64 ex)).setCell ⟨g22, 1, none⟩ (.int .i64 ey)).setCell ⟨g23, 0, none⟩ (.int .i64 fx)).setCell ⟨g23, 1, none⟩ (.int .i64 fy) := ⟨_, rfl⟩
      have Kd : Hid (Made w1.heap.size w1 Wd) := by unfold Hid; rw [eW]; exact (((K13.out.put (by simp; omega) _).put (by simp; omega) _).put (by simp; omega) _).put (by simp; omega) _
      have HYd : Hid (Has Wd g22 26 #[.int .i64 ex, .int .i64 ey]) := by unfold Hid; rw [eW]; exact (Has.other (Has.other (by simpa using (hh1.put 0 (.int .i64 ex)).put 1 (.int .i64 ey)) _ (by simp; omega) _) _ (by simp; omega) _)
      have HZd : Hid (Has Wd g23 26 #[.int .i64 fx, .int .i64 fy]) := by unfold Hid; rw [eW]; simpa using (((hh2.other ⟨g22, 0, none⟩ (by simp; omega) (.int .i64 ex)).other ⟨g22, 1, none⟩ (by simp; omega) (.int .i64 ey)).put 0 (.int .i64 fx)).put 1 (.int .i64 fy)
      have HNd : Hid (Has Wd Bn 26 #[.int .i64 nx, .int .i64 ny]) := by unfold Hid; rw [eW]; exact ((((HNc.out.other _ (by simp; omega) _).other _ (by simp; omega) _).other _ (by simp; omega) _).other _ (by simp; omega) _)
      have H7d : Hid (Has Wd g7 26 #[.int .i64 vx, .int .i64 vy]) := by unfold Hid; rw [eW]; exact ((((H7c.out.other _ (by simp; omega) _).other _ (by simp; omega) _).other _ (by simp; omega) _).other _ (by simp; omega) _)
      have H8d : Hid (Has Wd g8 26 #[.int .i64 ux, .int .i64 uy]) := by unfold Hid; rw [eW]; exact ((((H8c.out.other _ (by simp; omega) _).other _ (by simp; omega) _).other _ (by simp; omega) _).other _ (by simp; omega) _)
      have HTd : Hid (Has Wd Bt 26 #[.int .i64 tx, .int .i64 ty]) := by unfold Hid; rw [eW]; exact ((((HTc.out.other _ (by simp; omega) _).other _ (by simp; omega) _).other _ (by simp; omega) _).other _ (by simp; omega) _)
      rw [← eW]
      clear eW hh1 hh2 y0 y1 z0 z1 yf zf HNc H7c H8c HTc K13
      refine NoPanic.normal ?_
      have hO := HO1.out.stays Kd.out lo1
      have o0 := hO.at_ 0
      have o1 := hO.at_ 1
      have o2 := hO.at_ 2
      simp at o0 o1 o2
      have of_ : ∀ i, Wd.frozen? ⟨w.heap.size + 1 + 1, i, none⟩ = false := hO.free
      have MO : Hid (Made w.heap.size w Wd) := M1.out.then_ (Kd.out.low M1.out.1.size)
      clear hO
      go_wp2_with fail
      refine bodyPost_ret (v := .tuple #[tchV 0 0 none 0 0, .bool false]) (by simp [results, Try.results35, go_sem, o0, o1, o2]) rfl (touch_none ?_)
      exact ((MO.out.put (by simp; try omega) _).put (by simp; try omega) _).put (by simp; try omega) _

set_option maxRecDepth 100000 in
set_option maxHeartbeats 2000000 in
theorem lpolys_q_cut2 (X Y A : Int) (b off n cap : Nat) (f : Cs) (X2 Y2 A2 : Int) (b2 off2 m cap2 : Nat) (f2 : Cs) (P Q : Cs) (w : World) (iX : I64 X) (iY : I64 Y) (iA : I64 A) (hn3 : 3 ≤ n) (h8 : n ≤ 8) (hp : Pts w b off n f) (hi : Cin f n) (hP : placeF f (cs (stepF A)) (sn (stepF A)) X Y = P) (iX2 : I64 X2) (iY2 : I64 Y2) (iA2 : I64 A2) (hm3 : 3 ≤ m) (hm8 : m ≤ 8) (hq : Pts w b2 off2 m f2) (hi2 : Cin f2 m) (hQ : placeF f2 (cs (stepF A2)) (sn (stepF A2)) X2 Y2 = Q) (i k : Nat) (ei : sideF P n Q m = i) (ek : sideF Q m P n = k) (h1 : ¬ 0 ≤ gapF P n Q m i) (h2 : ¬ 0 ≤ gapF Q m P n k) (h3 : gapF P n Q m i < gapF Q m P n k) (N V U T E F : Int × Int) (e : Nat) (eN : normF Q m k = N) (eV : Q k = V) (eU : Q ((k + 1) % m) = U) (eT : unitP (subV U V) = T) (ee : incF N P n = e) (eE : P e = E) (eF : P ((e + 1) % n) = F) (hc : ¬ (dotV T (subV E V) < 0 ∧ dotV T (subV F V) < 0)) (A1 B1 : Int × Int) (eA : moveV E F (dotV T (subV E V)) (dotV T (subV F V)) = A1) (eB : moveV F E (dotV T (subV F V)) (dotV T (subV E V)) = B1) (hd : dotV (negV T) (subV A1 U) < 0 ∧ dotV (negV T) (subV B1 U) < 0) :
    Calls Try.prog 35 #[bodyV 0 X Y 0 0 A 0 0 2 0 (.slice (some ⟨b, off, none⟩) n cap), bodyV 0 X2 Y2 0 0 A2 0 0 2 0 (.slice (some ⟨b2, off2, none⟩) m cap2)] w (TouchR (none) w) := by
  have hn : 0 < n := by omega
  have hm : 0 < m := by omega
  have hin : i < n := by rw [← ei]; have := firstF_le (gapF P n Q m) (n - 1); unfold sideF; omega
  have hkm : k < m := by rw [← ek]; have := firstF_le (gapF Q m P n) (m - 1); unfold sideF; omega
  have iP : Cin P n := by rw [← hP]; exact fun j hj => ⟨i64_add _ _, i64_add _ _⟩
  have iQ : Cin Q m := by rw [← hQ]; exact fun j hj => ⟨i64_add _ _, i64_add _ _⟩
  obtain ⟨gi, egi⟩ : ∃ z, gapF P n Q m i = z := ⟨_, rfl⟩
  obtain ⟨gk, egk⟩ : ∃ z, gapF Q m P n k = z := ⟨_, rfl⟩
  simp only [egi] at h1
  simp only [egk] at h2
  simp only [egi, egk] at h3
  obtain ⟨nx, ny⟩ := N
  obtain ⟨vx, vy⟩ := V
  obtain ⟨ux, uy⟩ := U
  obtain ⟨tx, ty⟩ := T
  obtain ⟨ex, ey⟩ := E
  obtain ⟨fx, fy⟩ := F
  have hri : k < m := by omega
  obtain ⟨rj, erj⟩ : ∃ z, (k + 1) % m = z := ⟨_, rfl⟩
  have hrj : rj < m := by rw [← erj]; exact Nat.mod_lt _ (by omega)
  have rm : ((k : Int) + 1).tmod (m : Int) = (rj : Int) := by
    rw [Int.tmod_eq_emod_of_nonneg (by omega), ← erj, Int.natCast_emod, Int.natCast_add]; rfl
  have rm' : ((k : Int) + 1) % (m : Int) = (rj : Int) := by
    rw [← erj, Int.natCast_emod, Int.natCast_add]; rfl
  rw [erj] at eU
  have hem : e < n := by rw [← ee]; have := botF_le (fun j => dotV (nx, ny) (normF P n j)) (n - 1); unfold incF; omega
  obtain ⟨e1, ee1⟩ : ∃ z, (e + 1) % n = z := ⟨_, rfl⟩
  have hem1 : e1 < n := by rw [← ee1]; exact Nat.mod_lt _ (by omega)
  have em : ((e : Int) + 1).tmod (n : Int) = (e1 : Int) := by
    rw [Int.tmod_eq_emod_of_nonneg (by omega), ← ee1, Int.natCast_emod, Int.natCast_add]; rfl
  have em' : ((e : Int) + 1) % (n : Int) = (e1 : Int) := by
    rw [← ee1, Int.natCast_emod, Int.natCast_add]; rfl
  rw [ee1] at eF
  have iN := i64_norm Q m k
  rw [eN] at iN
  obtain ⟨inx, iny⟩ := iN
  have iV := iQ k hri
  rw [eV] at iV
  obtain ⟨ivx, ivy⟩ := iV
  have iU := iQ rj hrj
  rw [eU] at iU
  obtain ⟨iux, iuy⟩ := iU
  have iE := iP e hem
  rw [eE] at iE
  obtain ⟨iex, iey⟩ := iE
  have iF := iP e1 hem1
  rw [eF] at iF
  obtain ⟨ifx, ify⟩ := iF
  obtain ⟨dx, edx⟩ : ∃ z, subF ux vx = z := ⟨_, rfl⟩
  have idx : I64 dx := by rw [← edx]; exact i64_sub _ _
  obtain ⟨dy, edy⟩ : ∃ z, subF uy vy = z := ⟨_, rfl⟩
  have idy : I64 dy := by rw [← edy]; exact i64_sub _ _
  have iT : I64 tx ∧ I64 ty := by
    have := i64_u dx dy
    have e : uF dx dy = (tx, ty) := by rw [← eT, ← edx, ← edy]; rfl
    rw [e] at this
    exact this
  obtain ⟨itx, ity⟩ := iT
  obtain ⟨ok, eUn⟩ : ∃ ok, unitV dx dy = .tuple #[vecV tx ty, .bool ok] := by
    refine ⟨decide (lenF dx dy ≠ 0), ?_⟩
    have e : uF dx dy = (tx, ty) := by rw [← eT, ← edx, ← edy]; rfl
    have := unitV_uF dx dy
    rw [e] at this
    exact this
  have HIN := hid (fun j a c (h : normF P n j = (a, c)) => show addF (mulF nx a) (mulF ny c) = (fun j => dotV (nx, ny) (normF P n j)) j by simp only [h]; rfl)
  obtain ⟨hh, ehh⟩ : ∃ h : Nat → Int, (fun j => dotV (nx, ny) (normF P n j)) = h := ⟨_, rfl⟩
  rw [ehh] at HIN
  have EE : Hid (botF hh (n - 1) = e) := by unfold Hid; rw [← ehh]; exact ee
  have EDX := hid edx; have EDY := hid edy; have EUN := hid eUn
  clear edx edy eUn eT ee ehh
  obtain ⟨ax, ay⟩ := A1
  obtain ⟨bx, b_y⟩ := B1
  have HC1 := hid (fun w => lcut_is ex ey fx fy vx vy tx ty _ _ w iex iey ifx ify ivx ivy itx ity rfl rfl hc ax ay bx b_y eA eB)
  have iA1 : I64 ax ∧ I64 ay := by have := i64_move (ex, ey) (fx, fy) (dotV (tx, ty) (subV (ex, ey) (vx, vy))) (dotV (tx, ty) (subV (fx, fy) (vx, vy))) ⟨iex, iey⟩; rw [eA] at this; exact this
  have iB1 : I64 bx ∧ I64 b_y := by have := i64_move (fx, fy) (ex, ey) (dotV (tx, ty) (subV (fx, fy) (vx, vy))) (dotV (tx, ty) (subV (ex, ey) (vx, vy))) ⟨ifx, ify⟩; rw [eB] at this; exact this
  obtain ⟨iax, iay⟩ := iA1
  obtain ⟨ibx, iby⟩ := iB1
  obtain ⟨sx, esx⟩ : ∃ z, negF tx = z := ⟨_, rfl⟩
  have isx : I64 sx := by rw [← esx]; exact i64_neg itx
  obtain ⟨sy, esy⟩ : ∃ z, negF ty = z := ⟨_, rfl⟩
  have isy : I64 sy := by rw [← esy]; exact i64_neg ity
  have eS : negV (tx, ty) = (sx, sy) := by unfold negV; simp only []; rw [esx, esy]
  rw [eS] at hd
  have HC2 := hid (fun w => lcut_no ax ay bx b_y ux uy sx sy _ _ w iax iay ibx iby iux iuy isx isy rfl rfl hd)
  clear eA eB
  have ESX := hid esx; have ESY := hid esy
  clear esx esy eS
  have EN := hid eN; have EV := hid eV; have EU := hid eU; have EE0 := hid eE; have EF := hid eF
  clear eN eV eU eE eF hc hd erj ee1
  have HCa := hid (fun w hp => lcorners_is X Y A b off n cap f w iX iY iA hn3 h8 hp hi P hP)
  have HCb := hid (fun w hp => lcorners_is X2 Y2 A2 b2 off2 m cap2 f2 w iX2 iY2 iA2 hm3 hm8 hp hi2 Q hQ)
  have HGa := hid (fun g g2 w hp hq => gaps_is g 0 n n g2 0 m P Q w hn h8 hm hm8 hp hq iP iQ)
  have HGb := hid (fun g g2 w hp hq => gaps_is g 0 m m g2 0 n Q P w hm hm8 hn h8 hp hq iQ iP)
  have HFa := hid (fun g c w q => first_is g n c (gapF P n Q m) w hn h8 q)
  rw [show firstF (gapF P n Q m) (n - 1) = i from ei] at HFa
  have HFb := hid (fun g c w q => first_is g m c (gapF Q m P n) w hm hm8 q)
  rw [show firstF (gapF Q m P n) (m - 1) = k from ek] at HFb
  have HNa := hid (fun g w hp => normals_is g 0 n n P w hn h8 hp iP)
  have HNb := hid (fun g w hp => normals_is g 0 m m Q w hm hm8 hp iQ)
  have HP := hid hp
  have HQ := hid hq
  have EGI := hid egi
  have EGK := hid egk
  clear hp hi hP hq hi2 hQ ei ek egi egk iP iQ
  go_enter Try.func35, Try.ntmps35
  go_upto_region 1 with fail
  obtain ⟨W0, eW⟩ : ∃ W, W = ((w.alloc (.cells #[.int .i64 0, .int .i64 X, .int .i64 Y, .int .i64 0, .int .i64 0, .int .i64 A, .int .i64 0, .int .i64 0, .int .i64 2, .int .i64 0, .slice (some ⟨b, off, none⟩) n cap] 34)).alloc (.cells #[.int .i64 0, .int .i64 X2, .int .i64 Y2, .int .i64 0, .int .i64 0, .int .i64 A2, .int .i64 0, .int .i64 0, .int .i64 2, .int .i64 0, .slice (some ⟨b2, off2, none⟩) m cap2] 34)).alloc (.cells #[.int .i64 0, .int .i64 0, .slice none 0 0] 38) := ⟨_, rfl⟩
  have hA0 : Has W0 w.heap.size 34 #[.int .i64 0, .int .i64 X, .int .i64 Y, .int .i64 0, .int .i64 0, .int .i64 A, .int .i64 0, .int .i64 0, .int .i64 2, .int .i64 0, .slice (some ⟨b, off, none⟩) n cap] := by rw [eW]; exact ((has_new _ _ _).more _).more _
  have hB0 : Has W0 (w.heap.size + 1) 34 #[.int .i64 0, .int .i64 X2, .int .i64 Y2, .int .i64 0, .int .i64 0, .int .i64 A2, .int .i64 0, .int .i64 0, .int .i64 2, .int .i64 0, .slice (some ⟨b2, off2, none⟩) m cap2] := by rw [eW]; exact (has_next _ _ _ _).more _
  have hO0 : Has W0 (w.heap.size + 1 + 1) 38 #[.int .i64 0, .int .i64 0, .slice none 0 0] := by rw [eW]; simpa using has_new ((w.alloc (.cells #[.int .i64 0, .int .i64 X, .int .i64 Y, .int .i64 0, .int .i64 0, .int .i64 A, .int .i64 0, .int .i64 0, .int .i64 2, .int .i64 0, .slice (some ⟨b, off, none⟩) n cap] 34)).alloc (.cells #[.int .i64 0, .int .i64 X2, .int .i64 Y2, .int .i64 0, .int .i64 0, .int .i64 A2, .int .i64 0, .int .i64 0, .int .i64 2, .int .i64 0, .slice (some ⟨b2, off2, none⟩) m cap2] 34)) 38 #[.int .i64 0, .int .i64 0, .slice none 0 0]
  have M0 : Hid (Made w.heap.size w W0) := by unfold Hid; rw [eW]; exact (((Made.rfl_ _ _).cells (Nat.le_refl _) _ _).cells (by simp) _ _).cells (by simp; omega) _ _
  have HPW : Hid (∀ v, Made W0.heap.size W0 v → Pts v b off n f) := fun v kv => HP.out.kept (M0.out.then_ (kv.low M0.out.1.size))
  have HQW : Hid (∀ v, Made W0.heap.size W0 v → Pts v b2 off2 m f2) := fun v kv => HQ.out.kept (M0.out.then_ (kv.low M0.out.1.size))
  rw [← eW]
  clear eW
  have a0 := hA0.at_ 0
  have a1 := hA0.at_ 1
  have a2 := hA0.at_ 2
  have a3 := hA0.at_ 3
  have a4 := hA0.at_ 4
  have a5 := hA0.at_ 5
  have a6 := hA0.at_ 6
  have a7 := hA0.at_ 7
  have a8 := hA0.at_ 8
  have a9 := hA0.at_ 9
  have a10 := hA0.at_ 10
  have b0_ := hB0.at_ 0
  have b1_ := hB0.at_ 1
  have b2_ := hB0.at_ 2
  have b3_ := hB0.at_ 3
  have b4_ := hB0.at_ 4
  have b5_ := hB0.at_ 5
  have b6_ := hB0.at_ 6
  have b7_ := hB0.at_ 7
  have b8_ := hB0.at_ 8
  have b9_ := hB0.at_ 9
  have b10_ := hB0.at_ 10
  simp at a0 a1 a2 a3 a4 a5 a6 a7 a8 a9 a10 b0_ b1_ b2_ b3_ b4_ b5_ b6_ b7_ b8_ b9_ b10_
  refine region_makes 4 197 [0, 2] [1, 3] (al2 n m P Q) (val2 n m) (by kernel_rfl) (al2_lasts n m P Q) (by kernel_rfl) rfl (by kernel_rfl) rfl ?_
  apply Exists.intro
  refine ⟨?h1, ?h2⟩
  case h1 =>
    intro Ty hT fw hf
    have a0 := Class.reads hf a0
    have a1 := Class.reads hf a1
    have a2 := Class.reads hf a2
    have a3 := Class.reads hf a3
    have a4 := Class.reads hf a4
    have a5 := Class.reads hf a5
    have a6 := Class.reads hf a6
    have a7 := Class.reads hf a7
    have a8 := Class.reads hf a8
    have a9 := Class.reads hf a9
    have a10 := Class.reads hf a10
    have b0_ := Class.reads hf b0_
    have b1_ := Class.reads hf b1_
    have b2_ := Class.reads hf b2_
    have b3_ := Class.reads hf b3_
    have b4_ := Class.reads hf b4_
    have b5_ := Class.reads hf b5_
    have b6_ := Class.reads hf b6_
    have b7_ := Class.reads hf b7_
    have b8_ := Class.reads hf b8_
    have b9_ := Class.reads hf b9_
    have b10_ := Class.reads hf b10_
    change wpQuiet _ _ _ _ [_, _] _
    repeat (go_big_quiet_step (fail))
    exact wpQuiet_nil rfl
  clear a0 a1 a2 a3 a4 a5 a6 a7 a8 a9 a10 b0_ b1_ b2_ b3_ b4_ b5_ b6_ b7_ b8_ b9_ b10_
  have mka : Hid (∀ (G : Nat → Option Nat) (u : World), ClM W0 (al2 n m P Q) G u → MkUpon Try.prog W0 (al2 n m P Q) (val2 n m) 1 G (.ok (.enter 21 #[bodyV 0 X Y 0 0 A 0 0 2 0 (.slice (some ⟨b, off, none⟩) n cap)]) u)) := by
    intro G u hu
    refine (HCa.out u (HPW.out u hu.1)).mono ?_
    rintro e u' ⟨g', rfl, hrow', hg', k'⟩
    exact ⟨g', 0, rfl, hu.next (al2_lasts n m P Q) k' hg' hrow'.here hrow'⟩
  have mkb : Hid (∀ (G : Nat → Option Nat) (u : World), ClM W0 (al2 n m P Q) G u → MkUpon Try.prog W0 (al2 n m P Q) (val2 n m) 3 G (.ok (.enter 21 #[bodyV 0 X2 Y2 0 0 A2 0 0 2 0 (.slice (some ⟨b2, off2, none⟩) m cap2)]) u)) := by
    intro G u hu
    refine (HCb.out u (HQW.out u hu.1)).mono ?_
    rintro e u' ⟨g', rfl, hrow', hg', k'⟩
    exact ⟨g', 0, rfl, hu.next (al2_lasts n m P Q) k' hg' hrow'.here hrow'⟩
  refine ⟨_, 30, rfl, ⟨rfl, rfl, fun G u hu => ?mk1⟩, fun gp cc1 => ⟨_, 32, rfl, ⟨rfl, rfl, fun G u hu => ?mk2⟩, fun gq cc2 => ?rest⟩⟩
  case mk1 =>
    rw [show (execOp _ _).run Try.prog u = .ok (.enter 21 #[bodyV 0 X Y 0 0 A 0 0 2 0 (.slice (some ⟨b, off, none⟩) n cap)]) u by kernel_rfl]
    exact mka.out G u hu
  case mk2 =>
    rw [show (execOp _ _).run Try.prog u = .ok (.enter 21 #[bodyV 0 X2 Y2 0 0 A2 0 0 2 0 (.slice (some ⟨b2, off2, none⟩) m cap2)]) u by kernel_rfl]
    exact mkb.out G u hu
  clear mka mkb
  intro w1 hu
  have q1 : upd (upd (fun _ => none) 1 gp) 3 gq 1 = some gp := by unfold upd; simp
  have q2 : upd (upd (fun _ => none) 1 gp) 3 gq 3 = some gq := by unfold upd; simp
  have RP : Hid (Row w1 gp 26 n P) := (hu.2.1 1 gp q1).2.2
  have RQ : Hid (Row w1 gq 26 m Q) := (hu.2.1 3 gq q2).2.2
  have HO1 := hid (hO0.stays hu.1 hO0.here)
  have M1 : Hid (Made w.heap.size w w1) := M0.out.then_ (hu.1.low M0.out.1.size)
  have lo1 : w.heap.size + 1 + 1 < w1.heap.size := HO1.out.here
  have lgp : gp < w1.heap.size := RP.out.here
  have lgq : gq < w1.heap.size := RQ.out.here
  simp only [List.drop_succ_cons, List.drop_zero]
  clear hu q1 q2 hB0 hO0 hA0 M0 HPW HQW
  rw [show val2 n m 1 gp cc1 = .slice (some ⟨gp, 0, none⟩) n n from rfl, show val2 n m 3 gq cc2 = .slice (some ⟨gq, 0, none⟩) m m from rfl]
  go_wp2_with fail
  refine (HGa.out gp gq w1 RP.out.pts RQ.out.pts).mono ?_
  rintro e w2 ⟨gl, cl, rfl, hI, k2⟩
  have K2 : Hid (Made w1.heap.size w1 w2) := k2
  have HI2 := hid hI
  clear k2 hI
  go_wp2_with fail
  refine (HGb.out gq gp w2 (RQ.out.stays K2.out lgq).pts (RP.out.stays K2.out lgp).pts).mono ?_
  rintro e w3 ⟨gm, cm, rfl, hJ, k3⟩
  have K3 : Hid (Made w1.heap.size w1 w3) := K2.out.then_ (k3.low K2.out.1.size)
  have HI3 := hid (HI2.out.kept k3)
  have HJ3 := hid hJ
  clear k3 hJ HI2 K2
  go_wp2_with fail
  refine (HFa.out gl cl w3 HI3.out).mono ?_
  rintro e w4 ⟨rfl, k4⟩
  have K4 : Hid (Made w1.heap.size w1 w4) := K3.out.then_ (k4.low K3.out.1.size)
  have HI4 := hid (HI3.out.kept k4)
  have HJ4 := hid (HJ3.out.kept k4)
  clear k4 HI3 HJ3 K3
  go_wp2_with fail
  refine (HFb.out gm cm w4 HJ4.out).mono ?_
  rintro e w5 ⟨rfl, k5⟩
  have K5 : Hid (Made w1.heap.size w1 w5) := K4.out.then_ (k5.low K4.out.1.size)
  have c0 := (HI4.out.kept k5) i hin
  rw [EGI.out] at c0
  have c1 := (HJ4.out.kept k5) k hkm
  rw [EGK.out] at c1
  clear k5 HI4 HJ4 K4
  have g3 : decide (gi < gk) = true := decide_eq_true (by omega)
  go_upto_region 6 with fail
  refine reg_made (by kernel_rfl) (by kernel_rfl) ?_
  intro T hT fw hf
  have c0' := Class.reads hf c0
  have c1' := Class.reads hf c1
  repeat (go_big_quiet_step (fail))
  refine wpQuiet_nil ?_
  intro w6 h6
  have K6 : Hid (Made w1.heap.size w1 w6) := K5.out.then_ ((hf.here h6).low K5.out.1.size)
  clear h6 hf c0' c1' c0 c1 K5
  go_wp2_with fail
  refine (HNb.out gq w6 (RQ.out.stays K6.out lgq).pts).mono ?_
  rintro e_ w7 ⟨gn, rfl, hgn, hRN, k7⟩
  have K7 : Hid (Made w1.heap.size w1 w7) := K6.out.then_ (k7.low K6.out.1.size)
  obtain ⟨n0, n1⟩ := hRN.pts k hri
  rw [EN.out, Nat.zero_add] at n0 n1
  clear k7 hgn hRN K6
  go_upto_region 10 with fail
  obtain ⟨W8, eW⟩ : ∃ W, W = w7.alloc (.cells #[.int .i64 nx, .int .i64 ny] 26) := ⟨_, rfl⟩
  obtain ⟨Bn, eBn⟩ : ∃ B, w7.heap.size = B := ⟨_, rfl⟩
  have K8 : Hid (Made w1.heap.size w1 W8) := by unfold Hid; rw [eW]; exact K7.out.cells K7.out.1.size _ _
  have HN8 : Hid (Has W8 Bn 26 #[.int .i64 nx, .int .i64 ny]) := by unfold Hid; rw [eW, ← eBn]; exact has_new _ _ _
  have lBn : Bn < W8.heap.size := HN8.out.here
  have lwn : w1.heap.size ≤ Bn := by rw [← eBn]; exact K7.out.1.size
  rw [← eW, eBn]
  clear eW eBn n0 n1 K7
  obtain ⟨v0, v1⟩ := (RQ.out.stays K8.out lgq).pts k hri
  rw [EV.out, Nat.zero_add] at v0 v1
  obtain ⟨u0, u1⟩ := (RQ.out.stays K8.out lgq).pts rj hrj
  rw [EU.out, Nat.zero_add] at u0 u1
  have lgr8 : gq < W8.heap.size := World.block_lt_of_cell? _ _ v0
  go_cut [15, 16] (fun s7 s8 wx => ∃ g7 g8, s7 = .pointer (some ⟨g7, 0, none⟩) ∧ s8 = .pointer (some ⟨g8, 0, none⟩) ∧ W8.heap.size ≤ g7 ∧ W8.heap.size ≤ g8 ∧ Hid (Has wx g7 26 #[.int .i64 vx, .int .i64 vy]) ∧ Hid (Has wx g8 26 #[.int .i64 ux, .int .i64 uy]) ∧ Hid (Made W8.heap.size W8 wx))
  case first =>
    go_region
    all_goals (go_wp2_with fail)
    all_goals go_meet
    all_goals first
      | exact ⟨W8.heap.size, W8.heap.size + 1, rfl, rfl, by omega, by omega, ((has_new _ _ _).more _).drawn 1, (has_next _ _ _ _).drawn 1, (((Made.rfl_ _ _).cells (Nat.le_refl _) _ _).cells (by simp) _ _).draws 1⟩
      | exact ⟨W8.heap.size + 1, W8.heap.size, rfl, rfl, by omega, by omega, (has_next _ _ _ _).drawn 1, ((has_new _ _ _).more _).drawn 1, (((Made.rfl_ _ _).cells (Nat.le_refl _) _ _).cells (by simp) _ _).draws 1⟩
  obtain ⟨g7, g8, rfl, rfl, l7, l8, H7, H8, HM⟩ := hcut
  rename World => W9
  have K9 : Hid (Made w1.heap.size w1 W9) := K8.out.then_ (HM.out.low K8.out.1.size)
  have HN9 := hid (HN8.out.stays HM.out lBn)
  clear HM HN8 K8 v0 v1 u0 u1 lgr8
  have v0 := H7.out.at_ 0
  have v1 := H7.out.at_ 1
  have u0 := H8.out.at_ 0
  have u1 := H8.out.at_ 1
  simp at v0 v1 u0 u1
  go_wp2_with fail
  refine (vsub_is ux uy vx vy dx dy _ iux iuy ivx ivy EDX.out EDY.out).mono ?_
  rintro e_ w10 ⟨rfl, k10⟩
  have K10 : Hid (Made W9.heap.size W9 w10) := k10
  clear k10 v0 v1 u0 u1
  go_wp2_with fail
  refine (vunit_is dx dy _ _ idx idy EUN.out).mono ?_
  rintro e_ w11 ⟨rfl, k11⟩
  have K11 : Hid (Made W9.heap.size W9 w11) := K10.out.then_ (k11.low K10.out.1.size)
  clear k11 K10
  go_upto_region 13 with fail
  obtain ⟨Wa, eW⟩ : ∃ W, W = w11.alloc (.cells #[.int .i64 tx, .int .i64 ty] 26) := ⟨_, rfl⟩
  obtain ⟨Bt, eBt⟩ : ∃ B, w11.heap.size = B := ⟨_, rfl⟩
  have Ka' : Made W9.heap.size W9 Wa := by rw [eW]; exact K11.out.cells K11.out.1.size _ _
  have HTa : Hid (Has Wa Bt 26 #[.int .i64 tx, .int .i64 ty]) := by unfold Hid; rw [eW, ← eBt]; exact has_new _ _ _
  have Ka : Hid (Made w1.heap.size w1 Wa) := K9.out.then_ (Ka'.low K9.out.1.size)
  have HNa_ := hid (HN9.out.stays Ka' HN9.out.here)
  have H7a := hid (H7.out.stays Ka' H7.out.here)
  have H8a := hid (H8.out.stays Ka' H8.out.here)
  rw [← eW, eBt]
  clear eW eBt Ka' K11 HN9 H7 H8
  go_wp2_with fail
  refine (HNa.out gp Wa (RP.out.stays Ka.out lgp).pts).mono ?_
  rintro e_ wb ⟨gs, rfl, hgs, hRS, kb⟩
  have Kb : Hid (Made w1.heap.size w1 wb) := Ka.out.then_ (kb.low Ka.out.1.size)
  have HRS := hid hRS
  have HNb_ := hid (HNa_.out.stays kb HNa_.out.here)
  have H7b := hid (H7a.out.stays kb H7a.out.here)
  have H8b := hid (H8a.out.stays kb H8a.out.here)
  have HTb := hid (HTa.out.stays kb HTa.out.here)
  clear kb hgs hRS HNa_ H7a H8a HTa Ka
  go_wp2_with fail
  go_loopg [19, 103] n (fun gg s j wr => ∃ t : Nat, t + gg = n ∧ j = .int .i64 t ∧ s = .int .i64 (botF hh (t - 1)) ∧ Hid (Made wb.heap.size wb wr))
  case atStart => exact ⟨0, by omega, rfl, rfl, Made.rfl_ _ _⟩
  case round =>
    obtain ⟨t, ht, rfl, rfl, HMr⟩ := hrel
    have hNr := HNb_.out.stays HMr.out HNb_.out.here
    by_cases hlt : t < n
    · have hk : botF hh (t - 1) < n := by have := botF_le hh (t - 1); omega
      obtain ⟨z, ez⟩ : ∃ z, botF hh (t - 1) = z := ⟨_, rfl⟩
      rw [ez] at hk ⊢
      obtain ⟨SA, esa⟩ : ∃ x, normF P n t = x := ⟨_, rfl⟩
      obtain ⟨ax_, ay_⟩ := SA
      obtain ⟨SB, esb⟩ : ∃ x, normF P n z = x := ⟨_, rfl⟩
      obtain ⟨bx_, by_⟩ := SB
      obtain ⟨x, ex_⟩ : ∃ x, hh t = x := ⟨_, rfl⟩
      obtain ⟨y, ey_⟩ : ∃ y, hh z = y := ⟨_, rfl⟩
      have DA : Hid (addF (mulF nx ax_) (mulF ny ay_) = x) := (HIN.out t ax_ ay_ esa).trans ex_
      have DB : Hid (addF (mulF nx bx_) (mulF ny by_) = y) := (HIN.out z bx_ by_ esb).trans ey_
      have iSA := i64_norm P n t
      rw [esa] at iSA
      obtain ⟨iax_, iay_⟩ := iSA
      have iSB := i64_norm P n z
      rw [esb] at iSB
      obtain ⟨ibx_, iby_⟩ := iSB
      obtain ⟨a0, a1⟩ := (HRS.out.stays HMr.out HRS.out.here).pts t hlt
      rw [esa, Nat.zero_add] at a0 a1
      obtain ⟨b0, b1⟩ := (HRS.out.stays HMr.out HRS.out.here).pts z hk
      rw [esb, Nat.zero_add] at b0 b1
      have n0 := hNr.at_ 0
      have n1 := hNr.at_ 1
      simp at n0 n1
      have HF : Hid (botF hh (t + 1 - 1) = if x < y then t else z) := by
        unfold Hid
        rcases Nat.eq_zero_or_pos t with rfl | h0
        · have : z = 0 := by rw [← ez]; rfl
          subst this
          rw [ey_] at ex_
          subst ex_
          rw [if_neg (by omega)]; rfl
        · obtain ⟨p, rfl⟩ : ∃ p, t = p + 1 := ⟨t - 1, by omega⟩
          simp only [Nat.add_sub_cancel] at ez ⊢
          show (if hh (p + 1) < hh (botF hh p) then p + 1 else botF hh p) = _
          rw [ez, ex_, ey_]
      clear ez ex_ ey_ esa esb hNr
      go_upto_region 17 with fail
      refine reg_made (by kernel_rfl) (by kernel_rfl) ?_
      intro T hT fw hf
      have a0' := Class.reads hf a0
      have a1' := Class.reads hf a1
      have b0' := Class.reads hf b0
      have b1' := Class.reads hf b1
      have n0' := Class.reads hf n0
      have n1' := Class.reads hf n1
      repeat (go_big_quiet_step ((go_at_call 43; with_reducible first | exact hf.made (vdot_is _ _ _ _ _ _ inx iny iax_ iay_ DA.out) | exact hf.made (vdot_is _ _ _ _ _ _ inx iny ibx_ iby_ DB.out))))
      refine wpQuiet_nil ?_
      intro w12 h12
      have M12 : Hid (Made wb.heap.size wb w12) := HMr.out.then_ ((hf.here h12).low HMr.out.1.size)
      clear h12 hf a0 a1 b0 b1 n0 n1 a0' a1' b0' b1' n0' n1'
      by_cases hxy : x < y
      · have HF' : Hid (botF hh (t + 1 - 1) = t) := by have := HF.out; rw [if_pos hxy] at this; exact this
        have gxy : decide (x < y) = true := decide_eq_true hxy
        clear HF
        go_wp2_with fail
        go_roundg (n - t - 1)
        case rel => exact ⟨t + 1, by omega, by go_num, by rw [HF'.out], M12⟩
        case measure => omega
      · have HF' : Hid (botF hh (t + 1 - 1) = z) := by have := HF.out; rw [if_neg hxy] at this; exact this
        have gxy : decide (x < y) = false := decide_eq_false hxy
        clear HF
        go_wp2_with fail
        go_roundg (n - t - 1)
        case rel => exact ⟨t + 1, by omega, by go_num, by rw [HF'.out], M12⟩
        case measure => omega
    · have et : t = n := by omega
      subst et
      rw [EE.out]
      have Kr : Hid (Made w1.heap.size w1 wr) := Kb.out.then_ (HMr.out.low Kb.out.1.size)
      have hNr := HNb_.out.stays HMr.out HNb_.out.here
      have HNr := hid hNr
      have H7r := hid (H7b.out.stays HMr.out H7b.out.here)
      have H8r := hid (H8b.out.stays HMr.out H8b.out.here)
      have HTr := hid (HTb.out.stays HMr.out HTb.out.here)
      obtain ⟨e0, e1_⟩ := (RP.out.stays Kr.out lgp).pts e hem
      rw [EE0.out, Nat.zero_add] at e0 e1_
      obtain ⟨f0, f1⟩ := (RP.out.stays Kr.out lgp).pts e1 hem1
      rw [EF.out, Nat.zero_add] at f0 f1
      have v0 := H7r.out.at_ 0
      have v1 := H7r.out.at_ 1
      have t0 := HTr.out.at_ 0
      have t1 := HTr.out.at_ 1
      simp at v0 v1 t0 t1
      have lwn' : w1.heap.size ≤ Bn := lwn
      clear HMr HNb_ H7b H8b HTb hNr HRS Kb
      go_upto_region 20 with fail
      refine FS.reg_late2 19 197 [17, 18] 22 23 26 26 #[.int .i64 0, .int .i64 0] #[.int .i64 0, .int .i64 0] _ _ (by kernel_rfl) (by kernel_rfl) ?hpu (fun p hp => .inl (by simp at hp; omega)) (by kernel_rfl) rfl rfl alc_V alc_V ?_
      case hpu => intro p hp o ho; simp at hp; rcases hp with rfl | rfl <;> (cases ho; exact extract_pure rfl)
      apply Exists.intro
      refine ⟨?h5, ?h6⟩
      case h5 =>
        intro T hT fw hf
        have e0 := Class.reads hf e0
        have e1_ := Class.reads hf e1_
        have f0 := Class.reads hf f0
        have f1 := Class.reads hf f1
        have v0 := Class.reads hf v0
        have v1 := Class.reads hf v1
        have t0 := Class.reads hf t0
        have t1 := Class.reads hf t1
        simp only [List.take_succ_cons, List.take_zero]
        repeat (go_big_quiet_step ((go_at_call 59; with_reducible exact hf.made (HC1.out _))))
        exact wpQuiet_nil rfl
      intro g22 g23 w13 k13 hg1 hg2 hne hh1 hh2
      have K13 : Hid (Made w1.heap.size w1 w13) := Kr.out.then_ (k13.low Kr.out.1.size)
      have HNc := hid (HNr.out.stays k13 HNr.out.here)
      have H7c := hid (H7r.out.stays k13 H7r.out.here)
      have H8c := hid (H8r.out.stays k13 H8r.out.here)
      have HTc := hid (HTr.out.stays k13 HTr.out.here)
      have lN22 : Bn < g22 := by have := HNr.out.here; omega
      have lN23 : Bn < g23 := by have := HNr.out.here; omega
      have l722 : g7 < g22 := by have := H7r.out.here; omega
      have l723 : g7 < g23 := by have := H7r.out.here; omega
      have l822 : g8 < g22 := by have := H8r.out.here; omega
      have l823 : g8 < g23 := by have := H8r.out.here; omega
      have lT22 : Bt < g22 := by have := HTr.out.here; omega
      have lT23 : Bt < g23 := by have := HTr.out.here; omega
      have hne' : g23 ≠ g22 := fun e => hne e.symm
      have lw22 : w1.heap.size ≤ g22 := by omega
      have lw23 : w1.heap.size ≤ g23 := by omega
      have y0 := hh1.at_ 0
      have y1 := hh1.at_ 1
      have z0 := hh2.at_ 0
      have z1 := hh2.at_ 1
      simp at y0 y1 z0 z1
      have yf : ∀ i, w13.frozen? ⟨g22, i, none⟩ = false := hh1.free
      have zf : ∀ i, w13.frozen? ⟨g23, i, none⟩ = false := hh2.free
      clear k13 hg1 hg2 e0 e1_ f0 f1 v0 v1 t0 t1 HNr H7r H8r HTr Kr
      simp only [List.drop_succ_cons, List.drop_zero]
      go_upto_region 21 with fail
      obtain ⟨Wd, eW⟩ : ∃ W, W = (((w13.setCell ⟨g22, 0, none⟩ (.int .i64 ax)).setCell ⟨g22, 1, none⟩ (.int .i64 ay)).setCell ⟨g23, 0, none⟩ (.int .i64 bx)).setCell ⟨g23, 1, none⟩ (.int .i64 b_y) := ⟨_, rfl⟩
      have Kd : Hid (Made w1.heap.size w1 Wd) := by unfold Hid; rw [eW]; exact (((K13.out.put (by simp; omega) _).put (by simp; omega) _).put (by simp; omega) _).put (by simp; omega) _
      have HYd : Hid (Has Wd g22 26 #[.int .i64 ax, .int .i64 ay]) := by unfold Hid; rw [eW]; exact (Has.other (Has.other (by simpa using (hh1.put 0 (.int .i64 ax)).put 1 (.int .i64 ay)) _ (by simp; omega) _) _ (by simp; omega) _)
      have HZd : Hid (Has Wd g23 26 #[.int .i64 bx, .int .i64 b_y]) := by unfold Hid; rw [eW]; simpa using (((hh2.other ⟨g22, 0, none⟩ (by simp; omega) (.int .i64 ax)).other ⟨g22, 1, none⟩ (by simp; omega) (.int .i64 ay)).put 0 (.int .i64 bx)).put 1 (.int .i64 b_y)
      have HNd : Hid (Has Wd Bn 26 #[.int .i64 nx, .int .i64 ny]) := by unfold Hid; rw [eW]; exact ((((HNc.out.other _ (by simp; omega) _).other _ (by simp; omega) _).other _ (by simp; omega) _).other _ (by simp; omega) _)
      have H7d : Hid (Has Wd g7 26 #[.int .i64 vx, .int .i64 vy]) := by unfold Hid; rw [eW]; exact ((((H7c.out.other _ (by simp; omega) _).other _ (by simp; omega) _).other _ (by simp; omega) _).other _ (by simp; omega) _)
      have H8d : Hid (Has Wd g8 26 #[.int .i64 ux, .int .i64 uy]) := by unfold Hid; rw [eW]; exact ((((H8c.out.other _ (by simp; omega) _).other _ (by simp; omega) _).other _ (by simp; omega) _).other _ (by simp; omega) _)
      have HTd : Hid (Has Wd Bt 26 #[.int .i64 tx, .int .i64 ty]) := by unfold Hid; rw [eW]; exact ((((HTc.out.other _ (by simp; omega) _).other _ (by simp; omega) _).other _ (by simp; omega) _).other _ (by simp; omega) _)
      rw [← eW]
      clear eW hh1 hh2 y0 y1 z0 z1 yf zf HNc H7c H8c HTc K13
      refine NoPanic.normal ?_
      have y0 := HYd.out.at_ 0
      have y1 := HYd.out.at_ 1
      have z0 := HZd.out.at_ 0
      have z1 := HZd.out.at_ 1
      have u0 := H8d.out.at_ 0
      have u1 := H8d.out.at_ 1
      have t0 := HTd.out.at_ 0
      have t1 := HTd.out.at_ 1
      simp at y0 y1 z0 z1 u0 u1 t0 t1
      go_upto_region 23 with fail
      refine FS.reg_late0 10 197 [8, 9] (by kernel_rfl) (by kernel_rfl) ?hpv (fun p hp => .inl (by simp at hp; omega)) (by kernel_rfl) rfl ?_
      case hpv => intro p hp o ho; simp at hp; rcases hp with rfl | rfl <;> (cases ho; exact extract_pure rfl)
      apply Exists.intro
      refine ⟨?h7, ?h8⟩
      case h7 =>
        intro T hT fw hf
        have y0 := Class.reads hf y0
        have y1 := Class.reads hf y1
        have z0 := Class.reads hf z0
        have z1 := Class.reads hf z1
        have u0 := Class.reads hf u0
        have u1 := Class.reads hf u1
        have t0 := Class.reads hf t0
        have t1 := Class.reads hf t1
        simp only [List.take_succ_cons, List.take_zero]
        repeat (go_big_quiet_step ((first
          | (go_at_call 20; with_reducible exact hf.made (vneg_is _ _ _ _ _ itx ity ESX.out ESY.out))
          | (go_at_call 59; with_reducible exact hf.made (HC2.out _)))))
        exact wpQuiet_nil rfl
      intro w15 k15
      have K15 : Hid (Made w1.heap.size w1 w15) := Kd.out.then_ (k15.low Kd.out.1.size)
      have HNc := hid (HNd.out.stays k15 HNd.out.here)
      have H7c := hid (H7d.out.stays k15 H7d.out.here)
      have hh1 := HYd.out.stays k15 HYd.out.here
      have hh2 := HZd.out.stays k15 HZd.out.here
      have y0 := hh1.at_ 0
      have y1 := hh1.at_ 1
      have z0 := hh2.at_ 0
      have z1 := hh2.at_ 1
      simp at y0 y1 z0 z1
      have yf : ∀ i, w15.frozen? ⟨g22, i, none⟩ = false := hh1.free
      have zf : ∀ i, w15.frozen? ⟨g23, i, none⟩ = false := hh2.free
      clear k15 u0 u1 t0 t1 HNd H7d H8d HTd HYd HZd Kd
      simp only [List.drop_succ_cons, List.drop_zero]
      go_upto_region 24 with fail
      obtain ⟨We, eW⟩ : ∃ W, W = (((w15.setCell ⟨g22, 0, none⟩ (.int .i64 ax)).setCell ⟨g22, 1, none⟩ (.int .i64 ay)).setCell ⟨g23, 0, none⟩ (.int .i64 bx)).setCell ⟨g23, 1, none⟩ (.int .i64 b_y) := ⟨_, rfl⟩
      have Ke : Hid (Made w1.heap.size w1 We) := by unfold Hid; rw [eW]; exact (((K15.out.put (by simp; omega) _).put (by simp; omega) _).put (by simp; omega) _).put (by simp; omega) _
      have HYe : Hid (Has We g22 26 #[.int .i64 ax, .int .i64 ay]) := by unfold Hid; rw [eW]; exact (Has.other (Has.other (by simpa using (hh1.put 0 (.int .i64 ax)).put 1 (.int .i64 ay)) _ (by simp; omega) _) _ (by simp; omega) _)
      have HZe : Hid (Has We g23 26 #[.int .i64 bx, .int .i64 b_y]) := by unfold Hid; rw [eW]; simpa using (((hh2.other ⟨g22, 0, none⟩ (by simp; omega) (.int .i64 ax)).other ⟨g22, 1, none⟩ (by simp; omega) (.int .i64 ay)).put 0 (.int .i64 bx)).put 1 (.int .i64 b_y)
      have HNe : Hid (Has We Bn 26 #[.int .i64 nx, .int .i64 ny]) := by unfold Hid; rw [eW]; exact ((((HNc.out.other _ (by simp; omega) _).other _ (by simp; omega) _).other _ (by simp; omega) _).other _ (by simp; omega) _)
      have H7e : Hid (Has We g7 26 #[.int .i64 vx, .int .i64 vy]) := by unfold Hid; rw [eW]; exact ((((H7c.out.other _ (by simp; omega) _).other _ (by simp; omega) _).other _ (by simp; omega) _).other _ (by simp; omega) _)
      rw [← eW]
      clear eW hh1 hh2 y0 y1 z0 z1 yf zf HNc H7c K15
      refine NoPanic.normal ?_
      have hO := HO1.out.stays Ke.out lo1
      have o0 := hO.at_ 0
      have o1 := hO.at_ 1
      have o2 := hO.at_ 2
      simp at o0 o1 o2
      have of_ : ∀ i, We.frozen? ⟨w.heap.size + 1 + 1, i, none⟩ = false := hO.free
      have MO : Hid (Made w.heap.size w We) := M1.out.then_ (Ke.out.low M1.out.1.size)
      clear hO
      go_wp2_with fail
      refine bodyPost_ret (v := .tuple #[tchV 0 0 none 0 0, .bool false]) (by simp [results, Try.results35, go_sem, o0, o1, o2]) rfl (touch_none ?_)
      exact ((MO.out.put (by simp; try omega) _).put (by simp; try omega) _).put (by simp; try omega) _
end Go.Proofs.Ytckgpkbdckpcmaa.Fx
