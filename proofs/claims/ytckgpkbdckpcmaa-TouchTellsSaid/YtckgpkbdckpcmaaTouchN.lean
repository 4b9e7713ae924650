/- The statements' own polys: two polygons. -/
import Derived.Test.YtckgpkbdckpcmaaTouchJ
import Derived.Test.YtckgpkbdckpcmaaMex
import Derived.Test.YtckgpkbdckpcmaaFls
import Derived.Deep.DeepCutAuto
namespace Go.Proofs.Ytckgpkbdckpcmaa.Fx
open Go.ChangeShapes Go.WideShapes Go.ChangeAt Go.RowKit
set_option linter.unusedVariables false

set_option maxRecDepth 100000 in
set_option maxHeartbeats 1000000 in
theorem lpolys_q_end (X Y A : Int) (b off n cap : Nat) (f : Cs) (X2 Y2 A2 : Int) (b2 off2 m cap2 : Nat) (f2 : Cs) (P Q : Cs) (w : World) (iX : I64 X) (iY : I64 Y) (iA : I64 A) (hn3 : 3 ≤ n) (h8 : n ≤ 8) (hp : Pts w b off n f) (hi : Cin f n) (hP : placeF f (cs (stepF A)) (sn (stepF A)) X Y = P) (iX2 : I64 X2) (iY2 : I64 Y2) (iA2 : I64 A2) (hm3 : 3 ≤ m) (hm8 : m ≤ 8) (hq : Pts w b2 off2 m f2) (hi2 : Cin f2 m) (hQ : placeF f2 (cs (stepF A2)) (sn (stepF A2)) X2 Y2 = Q) (i k : Nat) (ei : sideF P n Q m = i) (ek : sideF Q m P n = k) (h1 : ¬ 0 ≤ gapF P n Q m i) (h2 : ¬ 0 ≤ gapF Q m P n k) (h3 : gapF P n Q m i < gapF Q m P n k) (N V U T E F : Int × Int) (e : Nat) (eN : normF Q m k = N) (eV : Q k = V) (eU : Q ((k + 1) % m) = U) (eT : unitP (subV U V) = T) (ee : incF N P n = e) (eE : P e = E) (eF : P ((e + 1) % n) = F) (hc : ¬ (dotV T (subV E V) < 0 ∧ dotV T (subV F V) < 0)) (A1 B1 : Int × Int) (eA : moveV E F (dotV T (subV E V)) (dotV T (subV F V)) = A1) (eB : moveV F E (dotV T (subV F V)) (dotV T (subV E V)) = B1) (hd : ¬ (dotV (negV T) (subV A1 U) < 0 ∧ dotV (negV T) (subV B1 U) < 0)) (C D : Int × Int) (eC : moveV A1 B1 (dotV (negV T) (subV A1 U)) (dotV (negV T) (subV B1 U)) = C) (eD : moveV B1 A1 (dotV (negV T) (subV B1 U)) (dotV (negV T) (subV A1 U)) = D) :
    Calls Try.prog 35 #[bodyV 0 X Y 0 0 A 0 0 2 0 (.slice (some ⟨b, off, none⟩) n cap), bodyV 0 X2 Y2 0 0 A2 0 0 2 0 (.slice (some ⟨b2, off2, none⟩) m cap2)] w (TouchR ((pointsF N V C D (64 + 2 * (k : Int))).map negT) w) := by
  have hn : 0 < n := by omega
  have hm : 0 < m := by omega
  have hin : i < n := by rw [← ei]; have := firstF_le (gapF P n Q m) (n - 1); unfold sideF; omega
  have hkm : k < m := by rw [← ek]; have := firstF_le (gapF Q m P n) (m - 1); unfold sideF; omega
  have iP : Cin P n := by rw [← hP]; exact fun j hj => ⟨i64_add _ _, i64_add _ _⟩
  have iQ : Cin Q m := by rw [← hQ]; exact fun j hj => ⟨i64_add _ _, i64_add _ _⟩
  obtain ⟨gi, egi⟩ : ∃ z, gapF P n Q m i = z := ⟨_, rfl⟩
  obtain ⟨gk, egk⟩ : ∃ z, gapF Q m P n k = z := ⟨_, rfl⟩
  simp only [egi] at h1
  simp only [egk] at h2
  simp only [egi, egk] at h3
  obtain ⟨nx, ny⟩ := N
  obtain ⟨vx, vy⟩ := V
  obtain ⟨ux, uy⟩ := U
  obtain ⟨tx, ty⟩ := T
  obtain ⟨ex, ey⟩ := E
  obtain ⟨fx, fy⟩ := F
  have hri : k < m := by omega
  obtain ⟨rj, erj⟩ : ∃ z, (k + 1) % m = z := ⟨_, rfl⟩
  have hrj : rj < m := by rw [← erj]; exact Nat.mod_lt _ (by omega)
  have rm : ((k : Int) + 1).tmod (m : Int) = (rj : Int) := by
    rw [Int.tmod_eq_emod_of_nonneg (by omega), ← erj, Int.natCast_emod, Int.natCast_add]; rfl
  have rm' : ((k : Int) + 1) % (m : Int) = (rj : Int) := by
    rw [← erj, Int.natCast_emod, Int.natCast_add]; rfl
  rw [erj] at eU
  have hem : e < n := by rw [← ee]; have := botF_le (fun j => dotV (nx, ny) (normF P n j)) (n - 1); unfold incF; omega
  obtain ⟨e1, ee1⟩ : ∃ z, (e + 1) % n = z := ⟨_, rfl⟩
  have hem1 : e1 < n := by rw [← ee1]; exact Nat.mod_lt _ (by omega)
  have em : ((e : Int) + 1).tmod (n : Int) = (e1 : Int) := by
    rw [Int.tmod_eq_emod_of_nonneg (by omega), ← ee1, Int.natCast_emod, Int.natCast_add]; rfl
  have em' : ((e : Int) + 1) % (n : Int) = (e1 : Int) := by
    rw [← ee1, Int.natCast_emod, Int.natCast_add]; rfl
  rw [ee1] at eF
  have iN := i64_norm Q m k
  rw [eN] at iN
  obtain ⟨inx, iny⟩ := iN
  have iV := iQ k hri
  rw [eV] at iV
  obtain ⟨ivx, ivy⟩ := iV
  have iU := iQ rj hrj
  rw [eU] at iU
  obtain ⟨iux, iuy⟩ := iU
  have iE := iP e hem
  rw [eE] at iE
  obtain ⟨iex, iey⟩ := iE
  have iF := iP e1 hem1
  rw [eF] at iF
  obtain ⟨ifx, ify⟩ := iF
  obtain ⟨dx, edx⟩ : ∃ z, subF ux vx = z := ⟨_, rfl⟩
  have idx : I64 dx := by rw [← edx]; exact i64_sub _ _
  obtain ⟨dy, edy⟩ : ∃ z, subF uy vy = z := ⟨_, rfl⟩
  have idy : I64 dy := by rw [← edy]; exact i64_sub _ _
  have iT : I64 tx ∧ I64 ty := by
    have := i64_u dx dy
    have e : uF dx dy = (tx, ty) := by rw [← eT, ← edx, ← edy]; rfl
    rw [e] at this
    exact this
  obtain ⟨itx, ity⟩ := iT
  obtain ⟨ok, eUn⟩ : ∃ ok, unitV dx dy = .tuple #[vecV tx ty, .bool ok] := by
    refine ⟨decide (lenF dx dy ≠ 0), ?_⟩
    have e : uF dx dy = (tx, ty) := by rw [← eT, ← edx, ← edy]; rfl
    have := unitV_uF dx dy
    rw [e] at this
    exact this
  have HIN := hid (fun j a c (h : normF P n j = (a, c)) => show addF (mulF nx a) (mulF ny c) = (fun j => dotV (nx, ny) (normF P n j)) j by simp only [h]; rfl)
  obtain ⟨hh, ehh⟩ : ∃ h : Nat → Int, (fun j => dotV (nx, ny) (normF P n j)) = h := ⟨_, rfl⟩
  rw [ehh] at HIN
  have EE : Hid (botF hh (n - 1) = e) := by unfold Hid; rw [← ehh]; exact ee
  have EDX := hid edx; have EDY := hid edy; have EUN := hid eUn
  clear edx edy eUn eT ee ehh
  obtain ⟨ax, ay⟩ := A1
  obtain ⟨bx, b_y⟩ := B1
  have HC1 := hid (fun w => lcut_is ex ey fx fy vx vy tx ty _ _ w iex iey ifx ify ivx ivy itx ity rfl rfl hc ax ay bx b_y eA eB)
  have iA1 : I64 ax ∧ I64 ay := by have := i64_move (ex, ey) (fx, fy) (dotV (tx, ty) (subV (ex, ey) (vx, vy))) (dotV (tx, ty) (subV (fx, fy) (vx, vy))) ⟨iex, iey⟩; rw [eA] at this; exact this
  have iB1 : I64 bx ∧ I64 b_y := by have := i64_move (fx, fy) (ex, ey) (dotV (tx, ty) (subV (fx, fy) (vx, vy))) (dotV (tx, ty) (subV (ex, ey) (vx, vy))) ⟨ifx, ify⟩; rw [eB] at this; exact this
  obtain ⟨iax, iay⟩ := iA1
  obtain ⟨ibx, iby⟩ := iB1
  obtain ⟨sx, esx⟩ : ∃ z, negF tx = z := ⟨_, rfl⟩
  have isx : I64 sx := by rw [← esx]; exact i64_neg itx
  obtain ⟨sy, esy⟩ : ∃ z, negF ty = z := ⟨_, rfl⟩
  have isy : I64 sy := by rw [← esy]; exact i64_neg ity
  have eS : negV (tx, ty) = (sx, sy) := by unfold negV; simp only []; rw [esx, esy]
  rw [eS] at hd
  rw [eS] at eC eD
  obtain ⟨cx, cy⟩ := C
  obtain ⟨gx, gy⟩ := D
  have HC2 := hid (fun w => lcut_is ax ay bx b_y ux uy sx sy _ _ w iax iay ibx iby iux iuy isx isy rfl rfl hd cx cy gx gy eC eD)
  have iC1 : I64 cx ∧ I64 cy := by have := i64_move (ax, ay) (bx, b_y) (dotV (sx, sy) (subV (ax, ay) (ux, uy))) (dotV (sx, sy) (subV (bx, b_y) (ux, uy))) ⟨iax, iay⟩; rw [eC] at this; exact this
  have iD1 : I64 gx ∧ I64 gy := by have := i64_move (bx, b_y) (ax, ay) (dotV (sx, sy) (subV (bx, b_y) (ux, uy))) (dotV (sx, sy) (subV (ax, ay) (ux, uy))) ⟨ibx, iby⟩; rw [eD] at this; exact this
  obtain ⟨icx, icy⟩ := iC1
  obtain ⟨igx, igy⟩ := iD1
  clear eA eB eC eD
  have ESX := hid esx; have ESY := hid esy
  clear esx esy eS
  have EN := hid eN; have EV := hid eV; have EU := hid eU; have EE0 := hid eE; have EF := hid eF
  clear eN eV eU eE eF hc hd erj ee1
  have HCa := hid (fun w hp => lcorners_is X Y A b off n cap f w iX iY iA hn3 h8 hp hi P hP)
  have HCb := hid (fun w hp => lcorners_is X2 Y2 A2 b2 off2 m cap2 f2 w iX2 iY2 iA2 hm3 hm8 hp hi2 Q hQ)
  have HGa := hid (fun g g2 w hp hq => gaps_is g 0 n n g2 0 m P Q w hn h8 hm hm8 hp hq iP iQ)
  have HGb := hid (fun g g2 w hp hq => gaps_is g 0 m m g2 0 n Q P w hm hm8 hn h8 hp hq iQ iP)
  have HFa := hid (fun g c w q => first_is g n c (gapF P n Q m) w hn h8 q)
  rw [show firstF (gapF P n Q m) (n - 1) = i from ei] at HFa
  have HFb := hid (fun g c w q => first_is g m c (gapF Q m P n) w hm hm8 q)
  rw [show firstF (gapF Q m P n) (m - 1) = k from ek] at HFb
  have HNa := hid (fun g w hp => normals_is g 0 n n P w hn h8 hp iP)
  have HNb := hid (fun g w hp => normals_is g 0 m m Q w hm hm8 hp iQ)
  have HP := hid hp
  have HQ := hid hq
  have EGI := hid egi
  have EGK := hid egk
  clear hp hi hP hq hi2 hQ ei ek egi egk iP iQ
  go_enter Try.func35, Try.ntmps35
  go_upto_region 1 with fail
  obtain ⟨W0, eW⟩ : ∃ W, W = ((w.alloc (.cells #[.int .i64 0, .int .i64 X, .int .i64 Y, .int .i64 0, .int .i64 0, .int .i64 A, .int .i64 0, .int .i64 0, .int .i64 2, .int .i64 0, .slice (some ⟨b, off, none⟩) n cap] 34)).alloc (.cells #[.int .i64 0, .int .i64 X2, .int .i64 Y2, .int .i64 0, .int .i64 0, .int .i64 A2, .int .i64 0, .int .i64 0, .int .i64 2, .int .i64 0, .slice (some ⟨b2, off2, none⟩) m cap2] 34)).alloc (.cells #[.int .i64 0, .int .i64 0, .slice none 0 0] 38) := ⟨_, rfl⟩
  have hA0 : Has W0 w.heap.size 34 #[.int .i64 0, .int .i64 X, .int .i64 Y, .int .i64 0, .int .i64 0, .int .i64 A, .int .i64 0, .int .i64 0, .int .i64 2, .int .i64 0, .slice (some ⟨b, off, none⟩) n cap] := by rw [eW]; exact ((has_new _ _ _).more _).more _
  have hB0 : Has W0 (w.heap.size + 1) 34 #[.int .i64 0, .int .i64 X2, .int .i64 Y2, .int .i64 0, .int .i64 0, .int .i64 A2, .int .i64 0, .int .i64 0, .int .i64 2, .int .i64 0, .slice (some ⟨b2, off2, none⟩) m cap2] := by rw [eW]; exact (has_next _ _ _ _).more _
  have hO0 : Has W0 (w.heap.size + 1 + 1) 38 #[.int .i64 0, .int .i64 0, .slice none 0 0] := by rw [eW]; simpa using has_new ((w.alloc (.cells #[.int .i64 0, .int .i64 X, .int .i64 Y, .int .i64 0, .int .i64 0, .int .i64 A, .int .i64 0, .int .i64 0, .int .i64 2, .int .i64 0, .slice (some ⟨b, off, none⟩) n cap] 34)).alloc (.cells #[.int .i64 0, .int .i64 X2, .int .i64 Y2, .int .i64 0, .int .i64 0, .int .i64 A2, .int .i64 0, .int .i64 0, .int .i64 2, .int .i64 0, .slice (some ⟨b2, off2, none⟩) m cap2] 34)) 38 #[.int .i64 0, .int .i64 0, .slice none 0 0]
  have M0 : Hid (Made w.heap.size w W0) := by unfold Hid; rw [eW]; exact (((Made.rfl_ _ _).cells (Nat.le_refl _) _ _).cells (by simp) _ _).cells (by simp; omega) _ _
  have HPW : Hid (∀ v, Made W0.heap.size W0 v → Pts v b off n f) := fun v kv => HP.out.kept (M0.out.then_ (kv.low M0.out.1.size))
  have HQW : Hid (∀ v, Made W0.heap.size W0 v → Pts v b2 off2 m f2) := fun v kv => HQ.out.kept (M0.out.then_ (kv.low M0.out.1.size))
  rw [← eW]
  clear eW
  have a0 := hA0.at_ 0
  have a1 := hA0.at_ 1
  have a2 := hA0.at_ 2
  have a3 := hA0.at_ 3
  have a4 := hA0.at_ 4
  have a5 := hA0.at_ 5
  have a6 := hA0.at_ 6
  have a7 := hA0.at_ 7
  have a8 := hA0.at_ 8
  have a9 := hA0.at_ 9
  have a10 := hA0.at_ 10
  have b0_ := hB0.at_ 0
  have b1_ := hB0.at_ 1
  have b2_ := hB0.at_ 2
  have b3_ := hB0.at_ 3
  have b4_ := hB0.at_ 4
  have b5_ := hB0.at_ 5
  have b6_ := hB0.at_ 6
  have b7_ := hB0.at_ 7
  have b8_ := hB0.at_ 8
  have b9_ := hB0.at_ 9
  have b10_ := hB0.at_ 10
  simp at a0 a1 a2 a3 a4 a5 a6 a7 a8 a9 a10 b0_ b1_ b2_ b3_ b4_ b5_ b6_ b7_ b8_ b9_ b10_
  refine region_makes 4 197 [0, 2] [1, 3] (al2 n m P Q) (val2 n m) (by kernel_rfl) (al2_lasts n m P Q) (by kernel_rfl) rfl (by kernel_rfl) rfl ?_
  apply Exists.intro
  refine ⟨?h1, ?h2⟩
  case h1 =>
    intro Ty hT fw hf
    have a0 := Class.reads hf a0
    have a1 := Class.reads hf a1
    have a2 := Class.reads hf a2
    have a3 := Class.reads hf a3
    have a4 := Class.reads hf a4
    have a5 := Class.reads hf a5
    have a6 := Class.reads hf a6
    have a7 := Class.reads hf a7
    have a8 := Class.reads hf a8
    have a9 := Class.reads hf a9
    have a10 := Class.reads hf a10
    have b0_ := Class.reads hf b0_
    have b1_ := Class.reads hf b1_
    have b2_ := Class.reads hf b2_
    have b3_ := Class.reads hf b3_
    have b4_ := Class.reads hf b4_
    have b5_ := Class.reads hf b5_
    have b6_ := Class.reads hf b6_
    have b7_ := Class.reads hf b7_
    have b8_ := Class.reads hf b8_
    have b9_ := Class.reads hf b9_
    have b10_ := Class.reads hf b10_
    change wpQuiet _ _ _ _ [_, _] _
    repeat (go_big_quiet_step (fail))
    exact wpQuiet_nil rfl
  clear a0 a1 a2 a3 a4 a5 a6 a7 a8 a9 a10 b0_ b1_ b2_ b3_ b4_ b5_ b6_ b7_ b8_ b9_ b10_
  have mka : Hid (∀ (G : Nat → Option Nat) (u : World), ClM W0 (al2 n m P Q) G u → MkUpon Try.prog W0 (al2 n m P Q) (val2 n m) 1 G (.ok (.enter 21 #[bodyV 0 X Y 0 0 A 0 0 2 0 (.slice (some ⟨b, off, none⟩) n cap)]) u)) := by
    intro G u hu
    refine (HCa.out u (HPW.out u hu.1)).mono ?_
    rintro e u' ⟨g', rfl, hrow', hg', k'⟩
    exact ⟨g', 0, rfl, hu.next (al2_lasts n m P Q) k' hg' hrow'.here hrow'⟩
  have mkb : Hid (∀ (G : Nat → Option Nat) (u : World), ClM W0 (al2 n m P Q) G u → MkUpon Try.prog W0 (al2 n m P Q) (val2 n m) 3 G (.ok (.enter 21 #[bodyV 0 X2 Y2 0 0 A2 0 0 2 0 (.slice (some ⟨b2, off2, none⟩) m cap2)]) u)) := by
    intro G u hu
    refine (HCb.out u (HQW.out u hu.1)).mono ?_
    rintro e u' ⟨g', rfl, hrow', hg', k'⟩
    exact ⟨g', 0, rfl, hu.next (al2_lasts n m P Q) k' hg' hrow'.here hrow'⟩
  refine ⟨_, 30, rfl, ⟨rfl, rfl, fun G u hu => ?mk1⟩, fun gp cc1 => ⟨_, 32, rfl, ⟨rfl, rfl, fun G u hu => ?mk2⟩, fun gq cc2 => ?rest⟩⟩
  case mk1 =>
    rw [show (execOp _ _).run Try.prog u = .ok (.enter 21 #[bodyV 0 X Y 0 0 A 0 0 2 0 (.slice (some ⟨b, off, none⟩) n cap)]) u by kernel_rfl]
    exact mka.out G u hu
  case mk2 =>
    rw [show (execOp _ _).run Try.prog u = .ok (.enter 21 #[bodyV 0 X2 Y2 0 0 A2 0 0 2 0 (.slice (some ⟨b2, off2, none⟩) m cap2)]) u by kernel_rfl]
    exact mkb.out G u hu
  clear mka mkb
  intro w1 hu
  have q1 : upd (upd (fun _ => none) 1 gp) 3 gq 1 = some gp := by unfold upd; simp
  have q2 : upd (upd (fun _ => none) 1 gp) 3 gq 3 = some gq := by unfold upd; simp
  have RP : Hid (Row w1 gp 26 n P) := (hu.2.1 1 gp q1).2.2
  have RQ : Hid (Row w1 gq 26 m Q) := (hu.2.1 3 gq q2).2.2
  have HO1 := hid (hO0.stays hu.1 hO0.here)
  have M1 : Hid (Made w.heap.size w w1) := M0.out.then_ (hu.1.low M0.out.1.size)
  have lo1 : w.heap.size + 1 + 1 < w1.heap.size := HO1.out.here
  have lgp : gp < w1.heap.size := RP.out.here
  have lgq : gq < w1.heap.size := RQ.out.here
  simp only [List.drop_succ_cons, List.drop_zero]
  clear hu q1 q2 hB0 hO0 hA0 M0 HPW HQW
  rw [show val2 n m 1 gp cc1 = .slice (some ⟨gp, 0, none⟩) n n from rfl, show val2 n m 3 gq cc2 = .slice (some ⟨gq, 0, none⟩) m m from rfl]
  go_wp2_with fail
  refine (HGa.out gp gq w1 RP.out.pts RQ.out.pts).mono ?_
  rintro e w2 ⟨gl, cl, rfl, hI, k2⟩
  have K2 : Hid (Made w1.heap.size w1 w2) := k2
  have HI2 := hid hI
  clear k2 hI
  go_wp2_with fail
  refine (HGb.out gq gp w2 (RQ.out.stays K2.out lgq).pts (RP.out.stays K2.out lgp).pts).mono ?_
  rintro e w3 ⟨gm, cm, rfl, hJ, k3⟩
  have K3 : Hid (Made w1.heap.size w1 w3) := K2.out.then_ (k3.low K2.out.1.size)
  have HI3 := hid (HI2.out.kept k3)
  have HJ3 := hid hJ
  clear k3 hJ HI2 K2
  go_wp2_with fail
  refine (HFa.out gl cl w3 HI3.out).mono ?_
  rintro e w4 ⟨rfl, k4⟩
  have K4 : Hid (Made w1.heap.size w1 w4) := K3.out.then_ (k4.low K3.out.1.size)
  have HI4 := hid (HI3.out.kept k4)
  have HJ4 := hid (HJ3.out.kept k4)
  clear k4 HI3 HJ3 K3
  go_wp2_with fail
  refine (HFb.out gm cm w4 HJ4.out).mono ?_
  rintro e w5 ⟨rfl, k5⟩
  have K5 : Hid (Made w1.heap.size w1 w5) := K4.out.then_ (k5.low K4.out.1.size)
  have c0 := (HI4.out.kept k5) i hin
  rw [EGI.out] at c0
  have c1 := (HJ4.out.kept k5) k hkm
  rw [EGK.out] at c1
  clear k5 HI4 HJ4 K4
  have g3 : decide (gi < gk) = true := decide_eq_true (by omega)
  go_upto_region 6 with fail
  refine reg_made (by kernel_rfl) (by kernel_rfl) ?_
  intro T hT fw hf
  have c0' := Class.reads hf c0
  have c1' := Class.reads hf c1
  repeat (go_big_quiet_step (fail))
  refine wpQuiet_nil ?_
  intro w6 h6
  have K6 : Hid (Made w1.heap.size w1 w6) := K5.out.then_ ((hf.here h6).low K5.out.1.size)
  clear h6 hf c0' c1' c0 c1 K5
  go_wp2_with fail
  refine (HNb.out gq w6 (RQ.out.stays K6.out lgq).pts).mono ?_
  rintro e_ w7 ⟨gn, rfl, hgn, hRN, k7⟩
  have K7 : Hid (Made w1.heap.size w1 w7) := K6.out.then_ (k7.low K6.out.1.size)
  obtain ⟨n0, n1⟩ := hRN.pts k hri
  rw [EN.out, Nat.zero_add] at n0 n1
  clear k7 hgn hRN K6
  go_upto_region 10 with fail
  obtain ⟨W8, eW⟩ : ∃ W, W = w7.alloc (.cells #[.int .i64 nx, .int .i64 ny] 26) := ⟨_, rfl⟩
  obtain ⟨Bn, eBn⟩ : ∃ B, w7.heap.size = B := ⟨_, rfl⟩
  have K8 : Hid (Made w1.heap.size w1 W8) := by unfold Hid; rw [eW]; exact K7.out.cells K7.out.1.size _ _
  have HN8 : Hid (Has W8 Bn 26 #[.int .i64 nx, .int .i64 ny]) := by unfold Hid; rw [eW, ← eBn]; exact has_new _ _ _
  have lBn : Bn < W8.heap.size := HN8.out.here
  have lwn : w1.heap.size ≤ Bn := by rw [← eBn]; exact K7.out.1.size
  rw [← eW, eBn]
  clear eW eBn n0 n1 K7
  obtain ⟨v0, v1⟩ := (RQ.out.stays K8.out lgq).pts k hri
  rw [EV.out, Nat.zero_add] at v0 v1
  obtain ⟨u0, u1⟩ := (RQ.out.stays K8.out lgq).pts rj hrj
  rw [EU.out, Nat.zero_add] at u0 u1
  have lgr8 : gq < W8.heap.size := World.block_lt_of_cell? _ _ v0
  go_cut [15, 16] (fun s7 s8 wx => ∃ g7 g8, s7 = .pointer (some ⟨g7, 0, none⟩) ∧ s8 = .pointer (some ⟨g8, 0, none⟩) ∧ W8.heap.size ≤ g7 ∧ W8.heap.size ≤ g8 ∧ Hid (Has wx g7 26 #[.int .i64 vx, .int .i64 vy]) ∧ Hid (Has wx g8 26 #[.int .i64 ux, .int .i64 uy]) ∧ Hid (Made W8.heap.size W8 wx))
  case first =>
    go_region
    all_goals (go_wp2_with fail)
    all_goals go_meet
    all_goals first
      | exact ⟨W8.heap.size, W8.heap.size + 1, rfl, rfl, by omega, by omega, ((has_new _ _ _).more _).drawn 1, (has_next _ _ _ _).drawn 1, (((Made.rfl_ _ _).cells (Nat.le_refl _) _ _).cells (by simp) _ _).draws 1⟩
      | exact ⟨W8.heap.size + 1, W8.heap.size, rfl, rfl, by omega, by omega, (has_next _ _ _ _).drawn 1, ((has_new _ _ _).more _).drawn 1, (((Made.rfl_ _ _).cells (Nat.le_refl _) _ _).cells (by simp) _ _).draws 1⟩
  obtain ⟨g7, g8, rfl, rfl, l7, l8, H7, H8, HM⟩ := hcut
  rename World => W9
  have K9 : Hid (Made w1.heap.size w1 W9) := K8.out.then_ (HM.out.low K8.out.1.size)
  have HN9 := hid (HN8.out.stays HM.out lBn)
  clear HM HN8 K8 v0 v1 u0 u1 lgr8
  have v0 := H7.out.at_ 0
  have v1 := H7.out.at_ 1
  have u0 := H8.out.at_ 0
  have u1 := H8.out.at_ 1
  simp at v0 v1 u0 u1
  go_wp2_with fail
  refine (vsub_is ux uy vx vy dx dy _ iux iuy ivx ivy EDX.out EDY.out).mono ?_
  rintro e_ w10 ⟨rfl, k10⟩
  have K10 : Hid (Made W9.heap.size W9 w10) := k10
  clear k10 v0 v1 u0 u1
  go_wp2_with fail
  refine (vunit_is dx dy _ _ idx idy EUN.out).mono ?_
  rintro e_ w11 ⟨rfl, k11⟩
  have K11 : Hid (Made W9.heap.size W9 w11) := K10.out.then_ (k11.low K10.out.1.size)
  clear k11 K10
  go_upto_region 13 with fail
  obtain ⟨Wa, eW⟩ : ∃ W, W = w11.alloc (.cells #[.int .i64 tx, .int .i64 ty] 26) := ⟨_, rfl⟩
  obtain ⟨Bt, eBt⟩ : ∃ B, w11.heap.size = B := ⟨_, rfl⟩
  have Ka' : Made W9.heap.size W9 Wa := by rw [eW]; exact K11.out.cells K11.out.1.size _ _
  have HTa : Hid (Has Wa Bt 26 #[.int .i64 tx, .int .i64 ty]) := by unfold Hid; rw [eW, ← eBt]; exact has_new _ _ _
  have Ka : Hid (Made w1.heap.size w1 Wa) := K9.out.then_ (Ka'.low K9.out.1.size)
  have HNa_ := hid (HN9.out.stays Ka' HN9.out.here)
  have H7a := hid (H7.out.stays Ka' H7.out.here)
  have H8a := hid (H8.out.stays Ka' H8.out.here)
  rw [← eW, eBt]
  clear eW eBt Ka' K11 HN9 H7 H8
  go_wp2_with fail
  refine (HNa.out gp Wa (RP.out.stays Ka.out lgp).pts).mono ?_
  rintro e_ wb ⟨gs, rfl, hgs, hRS, kb⟩
  have Kb : Hid (Made w1.heap.size w1 wb) := Ka.out.then_ (kb.low Ka.out.1.size)
  have HRS := hid hRS
  have HNb_ := hid (HNa_.out.stays kb HNa_.out.here)
  have H7b := hid (H7a.out.stays kb H7a.out.here)
  have H8b := hid (H8a.out.stays kb H8a.out.here)
  have HTb := hid (HTa.out.stays kb HTa.out.here)
  clear kb hgs hRS HNa_ H7a H8a HTa Ka
  go_wp2_with fail
  go_loopg [19, 103] n (fun gg s j wr => ∃ t : Nat, t + gg = n ∧ j = .int .i64 t ∧ s = .int .i64 (botF hh (t - 1)) ∧ Hid (Made wb.heap.size wb wr))
  case atStart => exact ⟨0, by omega, rfl, rfl, Made.rfl_ _ _⟩
  case round =>
    obtain ⟨t, ht, rfl, rfl, HMr⟩ := hrel
    have hNr := HNb_.out.stays HMr.out HNb_.out.here
    by_cases hlt : t < n
    · have hk : botF hh (t - 1) < n := by have := botF_le hh (t - 1); omega
      obtain ⟨z, ez⟩ : ∃ z, botF hh (t - 1) = z := ⟨_, rfl⟩
      rw [ez] at hk ⊢
      obtain ⟨SA, esa⟩ : ∃ x, normF P n t = x := ⟨_, rfl⟩
      obtain ⟨ax_, ay_⟩ := SA
      obtain ⟨SB, esb⟩ : ∃ x, normF P n z = x := ⟨_, rfl⟩
      obtain ⟨bx_, by_⟩ := SB
      obtain ⟨x, ex_⟩ : ∃ x, hh t = x := ⟨_, rfl⟩
      obtain ⟨y, ey_⟩ : ∃ y, hh z = y := ⟨_, rfl⟩
      have DA : Hid (addF (mulF nx ax_) (mulF ny ay_) = x) := (HIN.out t ax_ ay_ esa).trans ex_
      have DB : Hid (addF (mulF nx bx_) (mulF ny by_) = y) := (HIN.out z bx_ by_ esb).trans ey_
      have iSA := i64_norm P n t
      rw [esa] at iSA
      obtain ⟨iax_, iay_⟩ := iSA
      have iSB := i64_norm P n z
      rw [esb] at iSB
      obtain ⟨ibx_, iby_⟩ := iSB
      obtain ⟨a0, a1⟩ := (HRS.out.stays HMr.out HRS.out.here).pts t hlt
      rw [esa, Nat.zero_add] at a0 a1
      obtain ⟨b0, b1⟩ := (HRS.out.stays HMr.out HRS.out.here).pts z hk
      rw [esb, Nat.zero_add] at b0 b1
      have n0 := hNr.at_ 0
      have n1 := hNr.at_ 1
      simp at n0 n1
      have HF : Hid (botF hh (t + 1 - 1) = if x < y then t else z) := by
        unfold Hid
        rcases Nat.eq_zero_or_pos t with rfl | h0
        · have : z = 0 := by rw [← ez]; rfl
          subst this
          rw [ey_] at ex_
          subst ex_
          rw [if_neg (by omega)]; rfl
        · obtain ⟨p, rfl⟩ : ∃ p, t = p + 1 := ⟨t - 1, by omega⟩
          simp only [Nat.add_sub_cancel] at ez ⊢
          show (if hh (p + 1) < hh (botF hh p) then p + 1 else botF hh p) = _
          rw [ez, ex_, ey_]
      clear ez ex_ ey_ esa esb hNr
      go_upto_region 17 with fail
      refine reg_made (by kernel_rfl) (by kernel_rfl) ?_
      intro T hT fw hf
      have a0' := Class.reads hf a0
      have a1' := Class.reads hf a1
      have b0' := Class.reads hf b0
      have b1' := Class.reads hf b1
      have n0' := Class.reads hf n0
      have n1' := Class.reads hf n1
      repeat (go_big_quiet_step ((go_at_call 43; with_reducible first | exact hf.made (vdot_is _ _ _ _ _ _ inx iny iax_ iay_ DA.out) | exact hf.made (vdot_is _ _ _ _ _ _ inx iny ibx_ iby_ DB.out))))
      refine wpQuiet_nil ?_
      intro w12 h12
      have M12 : Hid (Made wb.heap.size wb w12) := HMr.out.then_ ((hf.here h12).low HMr.out.1.size)
      clear h12 hf a0 a1 b0 b1 n0 n1 a0' a1' b0' b1' n0' n1'
      by_cases hxy : x < y
      · have HF' : Hid (botF hh (t + 1 - 1) = t) := by have := HF.out; rw [if_pos hxy] at this; exact this
        have gxy : decide (x < y) = true := decide_eq_true hxy
        clear HF
        go_wp2_with fail
        go_roundg (n - t - 1)
        case rel => exact ⟨t + 1, by omega, by go_num, by rw [HF'.out], M12⟩
        case measure => omega
      · have HF' : Hid (botF hh (t + 1 - 1) = z) := by have := HF.out; rw [if_neg hxy] at this; exact this
        have gxy : decide (x < y) = false := decide_eq_false hxy
        clear HF
        go_wp2_with fail
        go_roundg (n - t - 1)
        case rel => exact ⟨t + 1, by omega, by go_num, by rw [HF'.out], M12⟩
        case measure => omega
    · have et : t = n := by omega
      subst et
      rw [EE.out]
      have Kr : Hid (Made w1.heap.size w1 wr) := Kb.out.then_ (HMr.out.low Kb.out.1.size)
      have hNr := HNb_.out.stays HMr.out HNb_.out.here
      have HNr := hid hNr
      have H7r := hid (H7b.out.stays HMr.out H7b.out.here)
      have H8r := hid (H8b.out.stays HMr.out H8b.out.here)
      have HTr := hid (HTb.out.stays HMr.out HTb.out.here)
      obtain ⟨e0, e1_⟩ := (RP.out.stays Kr.out lgp).pts e hem
      rw [EE0.out, Nat.zero_add] at e0 e1_
      obtain ⟨f0, f1⟩ := (RP.out.stays Kr.out lgp).pts e1 hem1
      rw [EF.out, Nat.zero_add] at f0 f1
      have v0 := H7r.out.at_ 0
      have v1 := H7r.out.at_ 1
      have t0 := HTr.out.at_ 0
      have t1 := HTr.out.at_ 1
      simp at v0 v1 t0 t1
      have lwn' : w1.heap.size ≤ Bn := lwn
      clear HMr HNb_ H7b H8b HTb hNr HRS Kb
      go_upto_region 20 with fail
      refine FS.reg_late2 19 197 [17, 18] 22 23 26 26 #[.int .i64 0, .int .i64 0] #[.int .i64 0, .int .i64 0] _ _ (by kernel_rfl) (by kernel_rfl) ?hpu (fun p hp => .inl (by simp at hp; omega)) (by kernel_rfl) rfl rfl alc_V alc_V ?_
      case hpu => intro p hp o ho; simp at hp; rcases hp with rfl | rfl <;> (cases ho; exact extract_pure rfl)
      apply Exists.intro
      refine ⟨?h5, ?h6⟩
      case h5 =>
        intro T hT fw hf
        have e0 := Class.reads hf e0
        have e1_ := Class.reads hf e1_
        have f0 := Class.reads hf f0
        have f1 := Class.reads hf f1
        have v0 := Class.reads hf v0
        have v1 := Class.reads hf v1
        have t0 := Class.reads hf t0
        have t1 := Class.reads hf t1
        simp only [List.take_succ_cons, List.take_zero]
        repeat (go_big_quiet_step ((go_at_call 59; with_reducible exact hf.made (HC1.out _))))
        exact wpQuiet_nil rfl
      intro g22 g23 w13 k13 hg1 hg2 hne hh1 hh2
      have K13 : Hid (Made w1.heap.size w1 w13) := Kr.out.then_ (k13.low Kr.out.1.size)
      have HNc := hid (HNr.out.stays k13 HNr.out.here)
      have H7c := hid (H7r.out.stays k13 H7r.out.here)
      have H8c := hid (H8r.out.stays k13 H8r.out.here)
      have HTc := hid (HTr.out.stays k13 HTr.out.here)
      have lN22 : Bn < g22 := by have := HNr.out.here; omega
      have lN23 : Bn < g23 := by have := HNr.out.here; omega
      have l722 : g7 < g22 := by have := H7r.out.here; omega
      have l723 : g7 < g23 := by have := H7r.out.here; omega
      have l822 : g8 < g22 := by have := H8r.out.here; omega
      have l823 : g8 < g23 := by have := H8r.out.here; omega
      have lT22 : Bt < g22 := by have := HTr.out.here; omega
      have lT23 : Bt < g23 := by have := HTr.out.here; omega
      have hne' : g23 ≠ g22 := fun e => hne e.symm
      have lw22 : w1.heap.size ≤ g22 := by omega
      have lw23 : w1.heap.size ≤ g23 := by omega
      have y0 := hh1.at_ 0
      have y1 := hh1.at_ 1
      have z0 := hh2.at_ 0
      have z1 := hh2.at_ 1
      simp at y0 y1 z0 z1
      have yf : ∀ i, w13.frozen? ⟨g22, i, none⟩ = false := hh1.free
      have zf : ∀ i, w13.frozen? ⟨g23, i, none⟩ = false := hh2.free
      clear k13 hg1 hg2 e0 e1_ f0 f1 v0 v1 t0 t1 HNr H7r H8r HTr Kr
      simp only [List.drop_succ_cons, List.drop_zero]
      go_upto_region 21 with fail
      obtain ⟨Wd, eW⟩ : ∃ W, W = (((w13.setCell ⟨g22, 0, none⟩ (.int .i64 ax)).setCell ⟨g22, 1, none⟩ (.int .i64 ay)).setCell ⟨g23, 0, none⟩ (.int .i64 bx)).setCell ⟨g23, 1, none⟩ (.int .i64 b_y) := ⟨_, rfl⟩
      have Kd : Hid (Made w1.heap.size w1 Wd) := by unfold Hid; rw [eW]; exact (((K13.out.put (by simp; omega) _).put (by simp; omega) _).put (by simp; omega) _).put (by simp; omega) _
      have HYd : Hid (Has Wd g22 26 #[.int .i64 ax, .int .i64 ay]) := by unfold Hid; rw [eW]; exact (Has.other (Has.other (by simpa using (hh1.put 0 (.int .i64 ax)).put 1 (.int .i64 ay)) _ (by simp; omega) _) _ (by simp; omega) _)
      have HZd : Hid (Has Wd g23 26 #[.int .i64 bx, .int .i64 b_y]) := by unfold Hid; rw [eW]; simpa using (((hh2.other ⟨g22, 0, none⟩ (by simp; omega) (.int .i64 ax)).other ⟨g22, 1, none⟩ (by simp; omega) (.int .i64 ay)).put 0 (.int .i64 bx)).put 1 (.int .i64 b_y)
      have HNd : Hid (Has Wd Bn 26 #[.int .i64 nx, .int .i64 ny]) := by unfold Hid; rw [eW]; exact ((((HNc.out.other _ (by simp; omega) _).other _ (by simp; omega) _).other _ (by simp; omega) _).other _ (by simp; omega) _)
      have H7d : Hid (Has Wd g7 26 #[.int .i64 vx, .int .i64 vy]) := by unfold Hid; rw [eW]; exact ((((H7c.out.other _ (by simp; omega) _).other _ (by simp; omega) _).other _ (by simp; omega) _).other _ (by simp; omega) _)
      have H8d : Hid (Has Wd g8 26 #[.int .i64 ux, .int .i64 uy]) := by unfold Hid; rw [eW]; exact ((((H8c.out.other _ (by simp; omega) _).other _ (by simp; omega) _).other _ (by simp; omega) _).other _ (by simp; omega) _)
      have HTd : Hid (Has Wd Bt 26 #[.int .i64 tx, .int .i64 ty]) := by unfold Hid; rw [eW]; exact ((((HTc.out.other _ (by simp; omega) _).other _ (by simp; omega) _).other _ (by simp; omega) _).other _ (by simp; omega) _)
      rw [← eW]
      clear eW hh1 hh2 y0 y1 z0 z1 yf zf HNc H7c H8c HTc K13
      refine NoPanic.normal ?_
      have y0 := HYd.out.at_ 0
      have y1 := HYd.out.at_ 1
      have z0 := HZd.out.at_ 0
      have z1 := HZd.out.at_ 1
      have u0 := H8d.out.at_ 0
      have u1 := H8d.out.at_ 1
      have t0 := HTd.out.at_ 0
      have t1 := HTd.out.at_ 1
      simp at y0 y1 z0 z1 u0 u1 t0 t1
      go_upto_region 23 with fail
      refine FS.reg_late0 10 197 [8, 9] (by kernel_rfl) (by kernel_rfl) ?hpv (fun p hp => .inl (by simp at hp; omega)) (by kernel_rfl) rfl ?_
      case hpv => intro p hp o ho; simp at hp; rcases hp with rfl | rfl <;> (cases ho; exact extract_pure rfl)
      apply Exists.intro
      refine ⟨?h7, ?h8⟩
      case h7 =>
        intro T hT fw hf
        have y0 := Class.reads hf y0
        have y1 := Class.reads hf y1
        have z0 := Class.reads hf z0
        have z1 := Class.reads hf z1
        have u0 := Class.reads hf u0
        have u1 := Class.reads hf u1
        have t0 := Class.reads hf t0
        have t1 := Class.reads hf t1
        simp only [List.take_succ_cons, List.take_zero]
        repeat (go_big_quiet_step ((first
          | (go_at_call 20; with_reducible exact hf.made (vneg_is _ _ _ _ _ itx ity ESX.out ESY.out))
          | (go_at_call 59; with_reducible exact hf.made (HC2.out _)))))
        exact wpQuiet_nil rfl
      intro w15 k15
      have K15 : Hid (Made w1.heap.size w1 w15) := Kd.out.then_ (k15.low Kd.out.1.size)
      have HNc := hid (HNd.out.stays k15 HNd.out.here)
      have H7c := hid (H7d.out.stays k15 H7d.out.here)
      have hh1 := HYd.out.stays k15 HYd.out.here
      have hh2 := HZd.out.stays k15 HZd.out.here
      have y0 := hh1.at_ 0
      have y1 := hh1.at_ 1
      have z0 := hh2.at_ 0
      have z1 := hh2.at_ 1
      simp at y0 y1 z0 z1
      have yf : ∀ i, w15.frozen? ⟨g22, i, none⟩ = false := hh1.free
      have zf : ∀ i, w15.frozen? ⟨g23, i, none⟩ = false := hh2.free
      clear k15 u0 u1 t0 t1 HNd H7d H8d HTd HYd HZd Kd
      simp only [List.drop_succ_cons, List.drop_zero]
      go_upto_region 24 with fail
      obtain ⟨We, eW⟩ : ∃ W, W = (((w15.setCell ⟨g22, 0, none⟩ (.int .i64 cx)).setCell ⟨g22, 1, none⟩ (.int .i64 cy)).setCell ⟨g23, 0, none⟩ (.int .i64 gx)).setCell ⟨g23, 1, none⟩ (.int .i64 gy) := ⟨_, rfl⟩
      have Ke : Hid (Made w1.heap.size w1 We) := by unfold Hid; rw [eW]; exact (((K15.out.put (by simp; omega) _).put (by simp; omega) _).put (by simp; omega) _).put (by simp; omega) _
      have HYe : Hid (Has We g22 26 #[.int .i64 cx, .int .i64 cy]) := by unfold Hid; rw [eW]; exact (Has.other (Has.other (by simpa using (hh1.put 0 (.int .i64 cx)).put 1 (.int .i64 cy)) _ (by simp; omega) _) _ (by simp; omega) _)
      have HZe : Hid (Has We g23 26 #[.int .i64 gx, .int .i64 gy]) := by unfold Hid; rw [eW]; simpa using (((hh2.other ⟨g22, 0, none⟩ (by simp; omega) (.int .i64 cx)).other ⟨g22, 1, none⟩ (by simp; omega) (.int .i64 cy)).put 0 (.int .i64 gx)).put 1 (.int .i64 gy)
      have HNe : Hid (Has We Bn 26 #[.int .i64 nx, .int .i64 ny]) := by unfold Hid; rw [eW]; exact ((((HNc.out.other _ (by simp; omega) _).other _ (by simp; omega) _).other _ (by simp; omega) _).other _ (by simp; omega) _)
      have H7e : Hid (Has We g7 26 #[.int .i64 vx, .int .i64 vy]) := by unfold Hid; rw [eW]; exact ((((H7c.out.other _ (by simp; omega) _).other _ (by simp; omega) _).other _ (by simp; omega) _).other _ (by simp; omega) _)
      rw [← eW]
      clear eW hh1 hh2 y0 y1 z0 z1 yf zf HNc H7c K15
      refine NoPanic.normal ?_
      have n0 := HNe.out.at_ 0
      have n1 := HNe.out.at_ 1
      simp at n0 n1
      have lN : Bn < We.heap.size := HNe.out.here
      have l7_ : g7 < We.heap.size := H7e.out.here
      have lY : g22 < We.heap.size := HYe.out.here
      have lZ : g23 < We.heap.size := HZe.out.here
      obtain ⟨mx, emx⟩ : ∃ z, negF nx = z := ⟨_, rfl⟩
      obtain ⟨my, emy⟩ : ∃ z, negF ny = z := ⟨_, rfl⟩
      have EMX := hid emx; have EMY := hid emy
      clear emx emy
      go_wp2_with fail
      refine (vneg_is nx ny mx my _ inx iny EMX.out EMY.out).mono ?_
      rintro e_ wf ⟨rfl, kf⟩
      have hBo := (has_new We 38 #[.int .i64 nx, .int .i64 ny, .slice none 0 0]).stays kf (by simp)
      have kf' := made_box kf
      have Kf : Hid (Made w1.heap.size w1 wf) := Ke.out.then_ (kf'.low Ke.out.1.size)
      have HYf := hid (HYe.out.stays kf' lY)
      have HZf := hid (HZe.out.stays kf' lZ)
      have HNf := hid (HNe.out.stays kf' lN)
      have H7f := hid (H7e.out.stays kf' l7_)
      have bo0 := hBo.at_ 0
      have bo1 := hBo.at_ 1
      simp at bo0 bo1
      have bof : ∀ i, wf.frozen? ⟨We.heap.size, i, none⟩ = false := hBo.free
      clear kf kf' n0 n1
      go_upto_region 29 with fail
      obtain ⟨Wg, eW⟩ : ∃ W, W = (wf.setCell ⟨We.heap.size, 0, none⟩ (.int .i64 mx)).setCell ⟨We.heap.size, 1, none⟩ (.int .i64 my) := ⟨_, rfl⟩
      obtain ⟨Bo, eBo⟩ : ∃ B, We.heap.size = B := ⟨_, rfl⟩
      have HBg : Hid (Has Wg Bo 38 #[.int .i64 mx, .int .i64 my, .slice none 0 0]) := by unfold Hid; rw [eW, ← eBo]; simpa using (hBo.put 0 (.int .i64 mx)).put 1 (.int .i64 my)
      have HYg : Hid (Has Wg g22 26 #[.int .i64 cx, .int .i64 cy]) := by unfold Hid; rw [eW]; exact (HYf.out.other _ (by simp; omega) _).other _ (by simp; omega) _
      have HZg : Hid (Has Wg g23 26 #[.int .i64 gx, .int .i64 gy]) := by unfold Hid; rw [eW]; exact (HZf.out.other _ (by simp; omega) _).other _ (by simp; omega) _
      have HNg : Hid (Has Wg Bn 26 #[.int .i64 nx, .int .i64 ny]) := by unfold Hid; rw [eW]; exact (HNf.out.other _ (by simp; omega) _).other _ (by simp; omega) _
      have H7g : Hid (Has Wg g7 26 #[.int .i64 vx, .int .i64 vy]) := by unfold Hid; rw [eW]; exact (H7f.out.other _ (by simp; omega) _).other _ (by simp; omega) _
      have Kg : Hid (Made w1.heap.size w1 Wg) := by unfold Hid; rw [eW]; exact (Kf.out.put (by simp; omega) _).put (by simp; omega) _
      rw [← eW]
      simp only [eBo]
      have lNB : Bn < Bo := by omega
      have l7B : g7 < Bo := by omega
      have lwB : w1.heap.size ≤ Bo := by omega
      clear eW eBo bo0 bo1 bof hBo Kf HYf HZf HNf H7f
      have y0 := HYg.out.at_ 0
      have y1 := HYg.out.at_ 1
      have z0 := HZg.out.at_ 0
      have z1 := HZg.out.at_ 1
      simp at y0 y1 z0 z1
      have lBo : Bo < Wg.heap.size := HBg.out.here
      clear HYe HZe HNe H7e Ke HYg HZg
      go_wp2_with fail
      obtain ⟨Wh, eW⟩ : ∃ W, W = Wg.alloc (.cells #[.int .i64 cx, .int .i64 cy, .int .i64 gx, .int .i64 gy] 26) := ⟨_, rfl⟩
      obtain ⟨Bv, eBv⟩ : ∃ B, Wg.heap.size = B := ⟨_, rfl⟩
      have HBh : Hid (Has Wh Bo 38 #[.int .i64 mx, .int .i64 my, .slice none 0 0]) := by unfold Hid; rw [eW]; exact HBg.out.more _
      have HNh : Hid (Has Wh Bn 26 #[.int .i64 nx, .int .i64 ny]) := by unfold Hid; rw [eW]; exact HNg.out.more _
      have H7h : Hid (Has Wh g7 26 #[.int .i64 vx, .int .i64 vy]) := by unfold Hid; rw [eW]; exact H7g.out.more _
      have HVh : Hid (Has Wh Bv 26 #[.int .i64 cx, .int .i64 cy, .int .i64 gx, .int .i64 gy]) := by unfold Hid; rw [eW, ← eBv]; exact has_new _ _ _
      have Kh : Hid (Made w1.heap.size w1 Wh) := by unfold Hid; rw [eW]; exact Kg.out.cells Kg.out.1.size _ _
      have lBv : Bo < Bv := by omega
      have lVh : Bv < Wh.heap.size := HVh.out.here
      rw [← eW, eBv]
      obtain ⟨key, ekey⟩ : ∃ z, 64 + 2 * (k : Int) = z := ⟨_, rfl⟩
      have ikey : 0 ≤ key ∧ key ≤ 100 := by omega
      have EKEY := hid ekey
      rw [ekey]
      clear eW eBv HBg HNg H7g Kg y0 y1 z0 z1 ekey
      obtain ⟨i4, hi4, hz0, hz1, hz2⟩ := info_parts info_Pt
      have iHi := hid hi4; have iH0 := hid hz0; have iH1 := hid hz1; have iH2 := hid hz2
      clear hi4 hz0 hz1 hz2
      obtain ⟨L1, eL1⟩ : ∃ l, endsF (nx, ny) (vx, vy) (cx, cy) key = l := ⟨_, rfl⟩
      obtain ⟨L2, eL2⟩ : ∃ l, endsF (nx, ny) (vx, vy) (gx, gy) (key + 1) = l := ⟨_, rfl⟩
      have hL1 : L1.length ≤ 1 := by rw [← eL1]; unfold endsF; split <;> simp
      have hL2 : L2.length ≤ 1 := by rw [← eL2]; unfold endsF; split <;> simp
      have HL1 := hid eL1; have HL2 := hid eL2
      clear eL1 eL2
      try clear HCa
      try clear HCb
      try clear HGa
      try clear HGb
      try clear HFa
      try clear HFb
      try clear HNa
      try clear HNb
      try clear HIN
      try clear EE
      try clear EDX
      try clear EDY
      try clear EUN
      try clear HC1
      try clear HC2
      try clear EGI
      try clear EGK
      try clear HP
      try clear HQ
      try clear EN
      try clear EV
      try clear EU
      try clear EE0
      try clear EF
      try clear ESX
      try clear ESY
      try clear rm
      try clear rm'
      try clear em
      try clear em'
      try clear hri
      try clear hrj
      try clear hem
      try clear hem1
      try clear hin
      try clear hkm
      try clear g3
      try clear h1
      try clear h2
      try clear h3
      try clear iax
      try clear iay
      try clear ibx
      try clear iby
      try clear isx
      try clear isy
      try clear iux
      try clear iuy
      try clear itx
      try clear ity
      try clear iex
      try clear iey
      try clear ifx
      try clear ify
      try clear idx
      try clear idy
      try clear iX
      try clear iY
      try clear iA
      try clear iX2
      try clear iY2
      try clear iA2
      try clear hn3
      try clear hm3
      try clear h8
      try clear hm8
      try clear lgp
      try clear lgq
      try clear l7
      try clear l8
      try clear lw22
      try clear lw23
      try clear lN22
      try clear lN23
      try clear l722
      try clear l723
      try clear l822
      try clear l823
      try clear lT22
      try clear lT23
      try clear hne
      try clear hne'
      try clear lN
      try clear l7_
      try clear lY
      try clear lZ
      try clear lwn
      try clear lwn'
      try clear lBn
      try clear HB0
      try clear hlt
      try clear ht
      try clear hk
      try clear hh
      try clear lBo
      try clear iN
      try clear iV
      try clear iU
      try clear RP
      try clear RQ
      try clear HPW
      go_loopg [166] 2 (fun gg j wr => ∃ (l : List Pnt) (sv : Value), Hid (Has wr Bo 38 #[.int .i64 mx, .int .i64 my, sv]) ∧ Hid (Has wr Bv 26 #[.int .i64 cx, .int .i64 cy, .int .i64 gx, .int .i64 gy]) ∧ Hid (wr.ownsRow Wh.heap.size 49 4 sv l.length (flatP l)) ∧ Hid (Made Bo Wh wr) ∧ ((gg = 2 ∧ j = .int .i64 0 ∧ [] = l) ∨ (gg = 1 ∧ j = .int .i64 1 ∧ L1 = l) ∨ (gg = 0 ∧ j = .int .i64 2 ∧ L1 ++ L2 = l)))
      case atStart => exact ⟨[], _, HBh, HVh, World.ownsRow_nil _ _ _ _, Made.rfl_ _ _, .inl ⟨rfl, rfl, rfl⟩⟩
      case round =>
        obtain ⟨l, sv, HB, HV, HS, HMr, (⟨hgg, rfl, rfl⟩ | ⟨hgg, rfl, rfl⟩ | ⟨hgg, rfl, rfl⟩)⟩ := hrel
        · have hV := HV.out
          have v0 := hV.at_ 0
          have v1 := hV.at_ 1
          have hN := HNh.out.stays HMr.out lNB
          have n0 := hN.at_ 0
          have n1 := hN.at_ 1
          have h7 := H7h.out.stays HMr.out l7B
          have w0 := h7.at_ 0
          have w1_ := h7.at_ 1
          simp at v0 v1 n0 n1 w0 w1_
          have lBr : Bo < wr.heap.size := HB.out.here
          have lVr : Bv < wr.heap.size := HV.out.here
          obtain ⟨rx, erx⟩ : ∃ z, subF cx vx = z := ⟨_, rfl⟩
          obtain ⟨ry, ery⟩ : ∃ z, subF cy vy = z := ⟨_, rfl⟩
          have irx : I64 rx := by rw [← erx]; exact i64_sub _ _
          have iry : I64 ry := by rw [← ery]; exact i64_sub _ _
          obtain ⟨x, ex_⟩ : ∃ z, addF (mulF nx rx) (mulF ny ry) = z := ⟨_, rfl⟩
          have rgx := rg_add (mulF nx rx) (mulF ny ry)
          rw [ex_] at rgx
          obtain ⟨rg0, rg1⟩ := rgx
          have EL : Hid ((if 0 < -x then [⟨cx, cy, -x, key⟩] else []) = L1) := by unfold Hid; rw [← HL1.out]; unfold endsF dotV subV; simp only []; rw [erx, ery, ex_]
          have ERX := hid erx; have ERY := hid ery; have EXX := hid ex_
          clear erx ery ex_ hV hN h7
          go_upto_region 32 with fail
          obtain ⟨Wi, eW⟩ : ∃ W, W = wr.alloc (.cells #[.int .i64 cx, .int .i64 cy] 26) := ⟨_, rfl⟩
          obtain ⟨Be, eBe⟩ : ∃ B, wr.heap.size = B := ⟨_, rfl⟩
          have HEi : Hid (Has Wi Be 26 #[.int .i64 cx, .int .i64 cy]) := by unfold Hid; rw [eW, ← eBe]; exact has_new _ _ _
          have HBi : Hid (Has Wi Bo 38 #[.int .i64 mx, .int .i64 my, sv]) := by unfold Hid; rw [eW]; exact HB.out.more _
          have HVi : Hid (Has Wi Bv 26 #[.int .i64 cx, .int .i64 cy, .int .i64 gx, .int .i64 gy]) := by unfold Hid; rw [eW]; exact HV.out.more _
          have HSi : Hid (Wi.ownsRow Wh.heap.size 49 4 sv ([] : List Pnt).length (flatP [])) := by unfold Hid; rw [eW]; exact HS.out.alloc _
          have HMi : Hid (Made Bo Wh Wi) := by unfold Hid; rw [eW]; exact HMr.out.cells (by omega) _ _
          have n0 := cell_new eW n0
          have n1 := cell_new eW n1
          have w0 := cell_new eW w0
          have w1_ := cell_new eW w1_
          rw [← eW, eBe]
          clear eW eBe v0 v1
          have e0 := HEi.out.at_ 0
          have e1 := HEi.out.at_ 1
          simp at e0 e1
          refine reg_made (by kernel_rfl) (by kernel_rfl) ?_
          intro T hT fw hf
          have n0' := Class.reads hf n0
          have n1' := Class.reads hf n1
          have w0' := Class.reads hf w0
          have w1' := Class.reads hf w1_
          have e0' := Class.reads hf e0
          have e1' := Class.reads hf e1
          repeat (go_big_quiet_step ((first
            | (go_at_call 19; with_reducible exact hf.made (vsub_is _ _ _ _ _ _ _ icx icy ivx ivy ERX.out ERY.out))
            | (go_at_call 43; with_reducible exact hf.made (vdot_is _ _ _ _ _ _ inx iny irx iry EXX.out)))))
          refine wpQuiet_nil ?_
          intro wj hj
          have kj := hf.here hj
          have HEj := hid (HEi.out.stays kj HEi.out.here)
          have HBj := hid (HBi.out.stays kj HBi.out.here)
          have HVj := hid (HVi.out.stays kj HVi.out.here)
          have HSj : Hid (wj.ownsRow Wh.heap.size 49 4 sv ([] : List Pnt).length (flatP [])) := own_stays HSi.out kj
          have HMj : Hid (Made Bo Wh wj) := HMi.out.then_ (kj.low (by have := HBi.out.here; omega))
          clear kj hj hf n0 n1 w0 w1_ e0 e1 n0' n1' w0' w1' e0' e1' HEi HBi HVi HSi HMi
          by_cases hpos : 0 < -x
          · have gp_ : decide (0 < -x) = true := decide_eq_true hpos
            have EL' : Hid ([⟨cx, cy, -x, key⟩] = L1) := by have := EL.out; rw [if_pos hpos] at this; exact this
            have e0 := HEj.out.at_ 0
            have e1 := HEj.out.at_ 1
            have b2 := HBj.out.at_ 2
            simp at e0 e1 b2
            have hlw : Wh.heap.size ≤ wj.heap.size := HMj.out.1.size
            have HSV : Hid (∀ b, sv.ownBlock = some b → Wh.heap.size ≤ b) := fun b hb => (HSj.out.lt b hb).1
            clear EL HEj
            go_wp2_with (at_builtin; refine wpList_append_made _ rfl (.tmp 180) (.tmp 187) 36 rfl Wh.heap.size 49 i4 (.agg #[.int .i64 0, .int .i64 0, .int .i64 0, .int .i64 0]) 4 32 Try.underlying36 iHi.out iH0.out iH1.out iH2.out rfl (by decide) sv ([] : List Pnt).length (flatP []) rfl (HSj.out.alloc _) ⟨wj.heap.size, 0, none⟩ 1 1 [.int .i64 cx, .int .i64 cy, .int .i64 (-x), .int .i64 (key)] rfl rfl (news_four _ _ _ _ _) (four_one _ _ _ _) (by unfold maxLen; simp only [List.length_nil]; omega) (by simp only [List.length_nil]; omega) (by simp; omega) (by omega) ?_)
            intro v' wk hown hgr hfr
            rw [flatP_one [] ⟨cx, cy, -x, key⟩, EL'.out] at hown
            have HBk : Hid (Has wk Bo 38 #[.int .i64 mx, .int .i64 my, sv]) := (HBj.out.more _).app hgr (fun e => by have := HSV.out Bo e.symm; omega)
            have HVk : Hid (Has wk Bv 26 #[.int .i64 cx, .int .i64 cy, .int .i64 gx, .int .i64 gy]) := (HVj.out.more _).app hgr (fun e => by have := HSV.out Bv e.symm; omega)
            have HMk : Hid (Made Bo Wh wk) := (HMj.out.cells (by omega) _ _).app hgr hfr (by simp; omega) (fun k hk => by have := HSV.out k hk; omega)
            have HSk : Hid (wk.ownsRow Wh.heap.size 49 4 v' (L1).length (flatP (L1))) := by
              have hl : ([] : List Pnt).length + 1 = (L1).length := by rw [← EL'.out]; simp
              unfold Hid
              rw [← hl]
              exact hown
            obtain ⟨ao', c', rfl, _⟩ := PtsT.of_own HSk.out
            have bk2 := HBk.out.at_ 2
            simp at bk2
            have bkf : ∀ i, wk.frozen? ⟨Bo, i, none⟩ = false := HBk.out.free
            clear hown hgr hfr e0 e1 b2 HBj HVj HSj HMj
            go_wp2_with fail
            go_roundg 1
            case rel =>
              refine ⟨L1, .slice ao' (L1).length c', ?_, ?_, ?_, ?_, ?_⟩
              · have := HBk.out.put 2 (.slice ao' (L1).length c')
                simp at this
                exact this
              · exact HVk.out.other _ (by simp; omega) _
              · exact ownsRow_setCell_below HSk.out (by simp; omega) _
              · exact HMk.out.put (by simp) _
              · exact .inr (.inl ⟨rfl, by go_num, rfl⟩)
            case measure => omega
          · have gp_ : decide (0 < -x) = false := decide_eq_false hpos
            have EL' : Hid (([] : List Pnt) = L1) := by have := EL.out; rw [if_neg hpos] at this; exact this
            clear EL
            go_wp2_with fail
            go_roundg 1
            case rel => exact ⟨L1, sv, HBj, HVj, by rw [← EL'.out]; exact HSj, HMj, .inr (.inl ⟨rfl, by go_num, rfl⟩)⟩
            case measure => omega
        · have hV := HV.out
          have v0 := hV.at_ 2
          have v1 := hV.at_ 3
          have hN := HNh.out.stays HMr.out lNB
          have n0 := hN.at_ 0
          have n1 := hN.at_ 1
          have h7 := H7h.out.stays HMr.out l7B
          have w0 := h7.at_ 0
          have w1_ := h7.at_ 1
          simp at v0 v1 n0 n1 w0 w1_
          have lBr : Bo < wr.heap.size := HB.out.here
          have lVr : Bv < wr.heap.size := HV.out.here
          obtain ⟨rx, erx⟩ : ∃ z, subF gx vx = z := ⟨_, rfl⟩
          obtain ⟨ry, ery⟩ : ∃ z, subF gy vy = z := ⟨_, rfl⟩
          have irx : I64 rx := by rw [← erx]; exact i64_sub _ _
          have iry : I64 ry := by rw [← ery]; exact i64_sub _ _
          obtain ⟨x, ex_⟩ : ∃ z, addF (mulF nx rx) (mulF ny ry) = z := ⟨_, rfl⟩
          have rgx := rg_add (mulF nx rx) (mulF ny ry)
          rw [ex_] at rgx
          obtain ⟨rg0, rg1⟩ := rgx
          have EL : Hid ((if 0 < -x then [⟨gx, gy, -x, key + 1⟩] else []) = L2) := by unfold Hid; rw [← HL2.out]; unfold endsF dotV subV; simp only []; rw [erx, ery, ex_]
          have ERX := hid erx; have ERY := hid ery; have EXX := hid ex_
          clear erx ery ex_ hV hN h7
          go_upto_region 32 with fail
          obtain ⟨Wi, eW⟩ : ∃ W, W = wr.alloc (.cells #[.int .i64 gx, .int .i64 gy] 26) := ⟨_, rfl⟩
          obtain ⟨Be, eBe⟩ : ∃ B, wr.heap.size = B := ⟨_, rfl⟩
          have HEi : Hid (Has Wi Be 26 #[.int .i64 gx, .int .i64 gy]) := by unfold Hid; rw [eW, ← eBe]; exact has_new _ _ _
          have HBi : Hid (Has Wi Bo 38 #[.int .i64 mx, .int .i64 my, sv]) := by unfold Hid; rw [eW]; exact HB.out.more _
          have HVi : Hid (Has Wi Bv 26 #[.int .i64 cx, .int .i64 cy, .int .i64 gx, .int .i64 gy]) := by unfold Hid; rw [eW]; exact HV.out.more _
          have HSi : Hid (Wi.ownsRow Wh.heap.size 49 4 sv (L1 : List Pnt).length (flatP L1)) := by unfold Hid; rw [eW]; exact HS.out.alloc _
          have HMi : Hid (Made Bo Wh Wi) := by unfold Hid; rw [eW]; exact HMr.out.cells (by omega) _ _
          have n0 := cell_new eW n0
          have n1 := cell_new eW n1
          have w0 := cell_new eW w0
          have w1_ := cell_new eW w1_
          rw [← eW, eBe]
          clear eW eBe v0 v1
          have e0 := HEi.out.at_ 0
          have e1 := HEi.out.at_ 1
          simp at e0 e1
          refine reg_made (by kernel_rfl) (by kernel_rfl) ?_
          intro T hT fw hf
          have n0' := Class.reads hf n0
          have n1' := Class.reads hf n1
          have w0' := Class.reads hf w0
          have w1' := Class.reads hf w1_
          have e0' := Class.reads hf e0
          have e1' := Class.reads hf e1
          repeat (go_big_quiet_step ((first
            | (go_at_call 19; with_reducible exact hf.made (vsub_is _ _ _ _ _ _ _ igx igy ivx ivy ERX.out ERY.out))
            | (go_at_call 43; with_reducible exact hf.made (vdot_is _ _ _ _ _ _ inx iny irx iry EXX.out)))))
          refine wpQuiet_nil ?_
          intro wj hj
          have kj := hf.here hj
          have HEj := hid (HEi.out.stays kj HEi.out.here)
          have HBj := hid (HBi.out.stays kj HBi.out.here)
          have HVj := hid (HVi.out.stays kj HVi.out.here)
          have HSj : Hid (wj.ownsRow Wh.heap.size 49 4 sv (L1 : List Pnt).length (flatP L1)) := own_stays HSi.out kj
          have HMj : Hid (Made Bo Wh wj) := HMi.out.then_ (kj.low (by have := HBi.out.here; omega))
          clear kj hj hf n0 n1 w0 w1_ e0 e1 n0' n1' w0' w1' e0' e1' HEi HBi HVi HSi HMi
          by_cases hpos : 0 < -x
          · have gp_ : decide (0 < -x) = true := decide_eq_true hpos
            have EL' : Hid ([⟨gx, gy, -x, key + 1⟩] = L2) := by have := EL.out; rw [if_pos hpos] at this; exact this
            have e0 := HEj.out.at_ 0
            have e1 := HEj.out.at_ 1
            have b2 := HBj.out.at_ 2
            simp at e0 e1 b2
            have hlw : Wh.heap.size ≤ wj.heap.size := HMj.out.1.size
            have HSV : Hid (∀ b, sv.ownBlock = some b → Wh.heap.size ≤ b) := fun b hb => (HSj.out.lt b hb).1
            clear EL HEj
            go_wp2_with (at_builtin; refine wpList_append_made _ rfl (.tmp 180) (.tmp 187) 36 rfl Wh.heap.size 49 i4 (.agg #[.int .i64 0, .int .i64 0, .int .i64 0, .int .i64 0]) 4 32 Try.underlying36 iHi.out iH0.out iH1.out iH2.out rfl (by decide) sv (L1 : List Pnt).length (flatP L1) rfl (HSj.out.alloc _) ⟨wj.heap.size, 0, none⟩ 1 1 [.int .i64 gx, .int .i64 gy, .int .i64 (-x), .int .i64 (key + 1)] rfl rfl (news_four _ _ _ _ _) (four_one _ _ _ _) (by unfold maxLen; omega) (by omega) (by simp; omega) (by omega) ?_)
            intro v' wk hown hgr hfr
            rw [flatP_one L1 ⟨gx, gy, -x, key + 1⟩, EL'.out] at hown
            have HBk : Hid (Has wk Bo 38 #[.int .i64 mx, .int .i64 my, sv]) := (HBj.out.more _).app hgr (fun e => by have := HSV.out Bo e.symm; omega)
            have HVk : Hid (Has wk Bv 26 #[.int .i64 cx, .int .i64 cy, .int .i64 gx, .int .i64 gy]) := (HVj.out.more _).app hgr (fun e => by have := HSV.out Bv e.symm; omega)
            have HMk : Hid (Made Bo Wh wk) := (HMj.out.cells (by omega) _ _).app hgr hfr (by simp; omega) (fun k hk => by have := HSV.out k hk; omega)
            have HSk : Hid (wk.ownsRow Wh.heap.size 49 4 v' (L1 ++ L2).length (flatP (L1 ++ L2))) := by
              have hl : (L1 : List Pnt).length + 1 = (L1 ++ L2).length := by rw [← EL'.out]; simp
              unfold Hid
              rw [← hl]
              exact hown
            obtain ⟨ao', c', rfl, _⟩ := PtsT.of_own HSk.out
            have bk2 := HBk.out.at_ 2
            simp at bk2
            have bkf : ∀ i, wk.frozen? ⟨Bo, i, none⟩ = false := HBk.out.free
            clear hown hgr hfr e0 e1 b2 HBj HVj HSj HMj
            go_wp2_with fail
            go_roundg 0
            case rel =>
              refine ⟨L1 ++ L2, .slice ao' (L1 ++ L2).length c', ?_, ?_, ?_, ?_, ?_⟩
              · have := HBk.out.put 2 (.slice ao' (L1 ++ L2).length c')
                simp at this
                unfold Hid; rw [List.length_append]; exact this
              · exact HVk.out.other _ (by simp; omega) _
              · exact ownsRow_setCell_below HSk.out (by simp; omega) _
              · exact HMk.out.put (by simp) _
              · exact .inr (.inr ⟨rfl, by go_num, rfl⟩)
            case measure => omega
          · have gp_ : decide (0 < -x) = false := decide_eq_false hpos
            have EL' : Hid (([] : List Pnt) = L2) := by have := EL.out; rw [if_neg hpos] at this; exact this
            clear EL
            go_wp2_with fail
            go_roundg 0
            case rel => exact ⟨L1 ++ L2, sv, HBj, HVj, by rw [← EL'.out]; rw [List.append_nil]; exact HSj, HMj, .inr (.inr ⟨rfl, by go_num, rfl⟩)⟩
            case measure => omega
        · have HT : Hid (pointsF (nx, ny) (vx, vy) (cx, cy) (gx, gy) (64 + 2 * (k : Int)) = if L1 ++ L2 = [] then none else some ⟨nx, ny, L1 ++ L2⟩) := by unfold Hid; rw [EKEY.out]; unfold pointsF; rw [HL1.out, HL2.out]
          have Kr2 : Hid (Made w1.heap.size w1 wr) := Kh.out.then_ (HMr.out.low lwB)
          obtain ⟨ao', c', rfl, hpt⟩ := PtsT.of_own HS.out
          have HPt := hid hpt
          have HPb : Hid (∀ bb oo, ao' = some ⟨bb, oo, none⟩ → bb ≠ w.heap.size + 1 + 1) := fun bb oo e => by
            have := (HS.out.lt bb (by rw [e]; rfl)).1
            have := Kh.out.1.size
            omega
          have hO := HO1.out.stays Kr2.out lo1
          have o0 := hO.at_ 0
          have o1 := hO.at_ 1
          have o2 := hO.at_ 2
          simp at o0 o1 o2
          have of_ : ∀ i, wr.frozen? ⟨w.heap.size + 1 + 1, i, none⟩ = false := hO.free
          have MO : Hid (Made w.heap.size w wr) := M1.out.then_ (Kr2.out.low M1.out.1.size)
          have b0 := HB.out.at_ 0
          have b1 := HB.out.at_ 1
          have b2 := HB.out.at_ 2
          simp only [List.length_append] at b0 b1 b2
          simp at b0 b1 b2
          have lob : w.heap.size + 1 + 1 < Bo := by omega
          clear hO hpt
          by_cases hnil : L1 ++ L2 = []
          · have HT' : Hid (pointsF (nx, ny) (vx, vy) (cx, cy) (gx, gy) (64 + 2 * (k : Int)) = none) := by have := HT.out; rw [if_pos hnil] at this; exact this
            have hl0 : ((L1.length + L2.length : Nat) : Int) = 0 := by rw [← List.length_append, hnil]; rfl
            have hl1 : (L1.length : Int) + (L2.length : Int) = 0 := by omega
            clear HT
            go_wp2_with fail
            rw [HT'.out]
            refine bodyPost_ret (v := .tuple #[tchV 0 0 none 0 0, .bool false]) (by simp [results, Try.results35, go_sem, o0, o1, o2]) rfl (touch_none ?_)
            exact ((MO.out.put (by simp; try omega) _).put (by simp; try omega) _).put (by simp; try omega) _
          · have HT' : Hid (pointsF (nx, ny) (vx, vy) (cx, cy) (gx, gy) (64 + 2 * (k : Int)) = some ⟨nx, ny, L1 ++ L2⟩) := by have := HT.out; rw [if_neg hnil] at this; exact this
            have hl0 : ¬ ((L1.length + L2.length : Nat) : Int) = 0 := by
              rw [← List.length_append]
              intro h
              exact hnil (List.length_eq_zero_iff.1 (by omega))
            have hl1 : ¬ (L1.length : Int) + (L2.length : Int) = 0 := by omega
            clear HT
            go_wp2_with fail
            rw [HT'.out]
            refine bodyPost_ret (v := .tuple #[tchV mx my ao' (L1 ++ L2).length c', .bool true]) (by simp [results, Try.results35, go_sem, o0, o1, o2]) rfl ⟨ao', c', by rw [← EMX.out, ← EMY.out]; rfl, ?_, ?_⟩
            · intro hl
              obtain ⟨bb, oo, eb, hb⟩ := HPt.out hl
              have hbw : bb ≠ w.heap.size + 1 + 1 := HPb.out bb oo eb
              exact ⟨bb, oo, eb, fun i p hi => by
                obtain ⟨r0, r1, r2, r3⟩ := hb i p hi
                exact ⟨cell_else (by simpa using hbw) (cell_else (by simpa using hbw) (cell_else (by simpa using hbw) r0)), cell_else (by simpa using hbw) (cell_else (by simpa using hbw) (cell_else (by simpa using hbw) r1)), cell_else (by simpa using hbw) (cell_else (by simpa using hbw) (cell_else (by simpa using hbw) r2)), cell_else (by simpa using hbw) (cell_else (by simpa using hbw) (cell_else (by simpa using hbw) r3))⟩⟩
            · exact ((MO.out.put (by simp; try omega) _).put (by simp; try omega) _).put (by simp; try omega) _
end Go.Proofs.Ytckgpkbdckpcmaa.Fx
