/- The statements' own polys: two polygons. -/
import Derived.Test.YtckgpkbdckpcmaaTouchI
import Derived.Test.YtckgpkbdckpcmaaMex
import Derived.Test.YtckgpkbdckpcmaaFls
import Derived.Deep.DeepCutAuto
namespace Go.Proofs.Ytckgpkbdckpcmaa.Fx
open Go.ChangeShapes Go.WideShapes Go.ChangeAt Go.RowKit
set_option linter.unusedVariables false

def al2 (n m : Nat) (P Q : Cs) (j : Nat) (v : World) (g : Nat) : Prop := if j = 1 then Row v g 26 n P else Row v g 26 m Q
def val2 (n m : Nat) (j g e : Nat) : Value := if j = 1 then .slice (some ⟨g, 0, none⟩) n n else .slice (some ⟨g, 0, none⟩) m m
theorem al2_lasts (n m : Nat) (P Q : Cs) : Lasts (al2 n m P Q) := fun j u v g h hg k => by
  unfold al2 at *
  by_cases hj : j = 1
  · simp only [hj, if_true] at h ⊢; exact h.stays k hg
  · simp only [hj, if_false] at h ⊢; exact h.stays k hg
theorem i64_move (p q : Int × Int) (x y : Int) (h : I64 p.1 ∧ I64 p.2) : I64 (moveV p q x y).1 ∧ I64 (moveV p q x y).2 := by
  unfold moveV
  split
  · exact ⟨i64_add _ _, i64_add _ _⟩
  · exact h

set_option maxRecDepth 100000 in
set_option maxHeartbeats 2000000 in
theorem lpolys_far0 (X Y A : Int) (b off n cap : Nat) (f : Cs) (X2 Y2 A2 : Int) (b2 off2 m cap2 : Nat) (f2 : Cs) (P Q : Cs) (w : World) (iX : I64 X) (iY : I64 Y) (iA : I64 A) (hn3 : 3 ≤ n) (h8 : n ≤ 8) (hp : Pts w b off n f) (hi : Cin f n) (hP : placeF f (cs (stepF A)) (sn (stepF A)) X Y = P) (iX2 : I64 X2) (iY2 : I64 Y2) (iA2 : I64 A2) (hm3 : 3 ≤ m) (hm8 : m ≤ 8) (hq : Pts w b2 off2 m f2) (hi2 : Cin f2 m) (hQ : placeF f2 (cs (stepF A2)) (sn (stepF A2)) X2 Y2 = Q) (i k : Nat) (ei : sideF P n Q m = i) (ek : sideF Q m P n = k) (h1 : 0 ≤ gapF P n Q m i) :
    Calls Try.prog 35 #[bodyV 0 X Y 0 0 A 0 0 2 0 (.slice (some ⟨b, off, none⟩) n cap), bodyV 0 X2 Y2 0 0 A2 0 0 2 0 (.slice (some ⟨b2, off2, none⟩) m cap2)] w (TouchR (none) w) := by
  have hn : 0 < n := by omega
  have hm : 0 < m := by omega
  have hin : i < n := by rw [← ei]; have := firstF_le (gapF P n Q m) (n - 1); unfold sideF; omega
  have hkm : k < m := by rw [← ek]; have := firstF_le (gapF Q m P n) (m - 1); unfold sideF; omega
  have iP : Cin P n := by rw [← hP]; exact fun j hj => ⟨i64_add _ _, i64_add _ _⟩
  have iQ : Cin Q m := by rw [← hQ]; exact fun j hj => ⟨i64_add _ _, i64_add _ _⟩
  obtain ⟨gi, egi⟩ : ∃ z, gapF P n Q m i = z := ⟨_, rfl⟩
  obtain ⟨gk, egk⟩ : ∃ z, gapF Q m P n k = z := ⟨_, rfl⟩
  rw [egi] at h1
  have HCa := hid (fun w hp => lcorners_is X Y A b off n cap f w iX iY iA hn3 h8 hp hi P hP)
  have HCb := hid (fun w hp => lcorners_is X2 Y2 A2 b2 off2 m cap2 f2 w iX2 iY2 iA2 hm3 hm8 hp hi2 Q hQ)
  have HGa := hid (fun g g2 w hp hq => gaps_is g 0 n n g2 0 m P Q w hn h8 hm hm8 hp hq iP iQ)
  have HGb := hid (fun g g2 w hp hq => gaps_is g 0 m m g2 0 n Q P w hm hm8 hn h8 hp hq iQ iP)
  have HFa := hid (fun g c w q => first_is g n c (gapF P n Q m) w hn h8 q)
  rw [show firstF (gapF P n Q m) (n - 1) = i from ei] at HFa
  have HFb := hid (fun g c w q => first_is g m c (gapF Q m P n) w hm hm8 q)
  rw [show firstF (gapF Q m P n) (m - 1) = k from ek] at HFb
  have HNa := hid (fun g w hp => normals_is g 0 n n P w hn h8 hp iP)
  have HNb := hid (fun g w hp => normals_is g 0 m m Q w hm hm8 hp iQ)
  have HP := hid hp
  have HQ := hid hq
  have EGI := hid egi
  have EGK := hid egk
  clear hp hi hP hq hi2 hQ ei ek egi egk iP iQ
  go_enter Try.func35, Try.ntmps35
  go_upto_region 1 with fail
  obtain ⟨W0, eW⟩ : ∃ W, W = ((w.alloc (.cells #[.int .i64 0, .int .i64 X, .int .i64 Y, .int .i64 0, .int .i64 0, .int .i64 A, .int .i64 0, .int .i64 0, .int .i64 2, .int .i64 0, .slice (some ⟨b, off, none⟩) n cap] 34)).alloc (.cells #[.int .i64 0, .int .i64 X2, .int .i64 Y2, .int .i64 0, .int .i64 0, .int .i64 A2, .int .i64 0, .int .i64 0, .int .i64 2, .int .i64 0, .slice (some ⟨b2, off2, none⟩) m cap2] 34)).alloc (.cells #[.int .i64 0, .int .i64 0, .slice none 0 0] 38) := ⟨_, rfl⟩
  have hA0 : Has W0 w.heap.size 34 #[.int .i64 0, .int .i64 X, .int .i64 Y, .int .i64 0, .int .i64 0, .int .i64 A, .int .i64 0, .int .i64 0, .int .i64 2, .int .i64 0, .slice (some ⟨b, off, none⟩) n cap] := by rw [eW]; exact ((has_new _ _ _).more _).more _
  have hB0 : Has W0 (w.heap.size + 1) 34 #[.int .i64 0, .int .i64 X2, .int .i64 Y2, .int .i64 0, .int .i64 0, .int .i64 A2, .int .i64 0, .int .i64 0, .int .i64 2, .int .i64 0, .slice (some ⟨b2, off2, none⟩) m cap2] := by rw [eW]; exact (has_next _ _ _ _).more _
  have hO0 : Has W0 (w.heap.size + 1 + 1) 38 #[.int .i64 0, .int .i64 0, .slice none 0 0] := by rw [eW]; simpa using has_new ((w.alloc (.cells #[.int .i64 0, .int .i64 X, .int .i64 Y, .int .i64 0, .int .i64 0, .int .i64 A, .int .i64 0, .int .i64 0, .int .i64 2, .int .i64 0, .slice (some ⟨b, off, none⟩) n cap] 34)).alloc (.cells #[.int .i64 0, .int .i64 X2, .int .i64 Y2, .int .i64 0, .int .i64 0, .int .i64 A2, .int .i64 0, .int .i64 0, .int .i64 2, .int .i64 0, .slice (some ⟨b2, off2, none⟩) m cap2] 34)) 38 #[.int .i64 0, .int .i64 0, .slice none 0 0]
  have M0 : Hid (Made w.heap.size w W0) := by unfold Hid; rw [eW]; exact (((Made.rfl_ _ _).cells (Nat.le_refl _) _ _).cells (by simp) _ _).cells (by simp; omega) _ _
  have HPW : Hid (∀ v, Made W0.heap.size W0 v → Pts v b off n f) := fun v kv => HP.out.kept (M0.out.then_ (kv.low M0.out.1.size))
  have HQW : Hid (∀ v, Made W0.heap.size W0 v → Pts v b2 off2 m f2) := fun v kv => HQ.out.kept (M0.out.then_ (kv.low M0.out.1.size))
  rw [← eW]
  clear eW
  have a0 := hA0.at_ 0
  have a1 := hA0.at_ 1
  have a2 := hA0.at_ 2
  have a3 := hA0.at_ 3
  have a4 := hA0.at_ 4
  have a5 := hA0.at_ 5
  have a6 := hA0.at_ 6
  have a7 := hA0.at_ 7
  have a8 := hA0.at_ 8
  have a9 := hA0.at_ 9
  have a10 := hA0.at_ 10
  have b0_ := hB0.at_ 0
  have b1_ := hB0.at_ 1
  have b2_ := hB0.at_ 2
  have b3_ := hB0.at_ 3
  have b4_ := hB0.at_ 4
  have b5_ := hB0.at_ 5
  have b6_ := hB0.at_ 6
  have b7_ := hB0.at_ 7
  have b8_ := hB0.at_ 8
  have b9_ := hB0.at_ 9
  have b10_ := hB0.at_ 10
  simp at a0 a1 a2 a3 a4 a5 a6 a7 a8 a9 a10 b0_ b1_ b2_ b3_ b4_ b5_ b6_ b7_ b8_ b9_ b10_
  refine region_makes 4 197 [0, 2] [1, 3] (al2 n m P Q) (val2 n m) (by kernel_rfl) (al2_lasts n m P Q) (by kernel_rfl) rfl (by kernel_rfl) rfl ?_
  apply Exists.intro
  refine ⟨?h1, ?h2⟩
  case h1 =>
    intro Ty hT fw hf
    have a0 := Class.reads hf a0
    have a1 := Class.reads hf a1
    have a2 := Class.reads hf a2
    have a3 := Class.reads hf a3
    have a4 := Class.reads hf a4
    have a5 := Class.reads hf a5
    have a6 := Class.reads hf a6
    have a7 := Class.reads hf a7
    have a8 := Class.reads hf a8
    have a9 := Class.reads hf a9
    have a10 := Class.reads hf a10
    have b0_ := Class.reads hf b0_
    have b1_ := Class.reads hf b1_
    have b2_ := Class.reads hf b2_
    have b3_ := Class.reads hf b3_
    have b4_ := Class.reads hf b4_
    have b5_ := Class.reads hf b5_
    have b6_ := Class.reads hf b6_
    have b7_ := Class.reads hf b7_
    have b8_ := Class.reads hf b8_
    have b9_ := Class.reads hf b9_
    have b10_ := Class.reads hf b10_
    change wpQuiet _ _ _ _ [_, _] _
    repeat (go_big_quiet_step (fail))
    exact wpQuiet_nil rfl
  clear a0 a1 a2 a3 a4 a5 a6 a7 a8 a9 a10 b0_ b1_ b2_ b3_ b4_ b5_ b6_ b7_ b8_ b9_ b10_
  have mka : Hid (∀ (G : Nat → Option Nat) (u : World), ClM W0 (al2 n m P Q) G u → MkUpon Try.prog W0 (al2 n m P Q) (val2 n m) 1 G (.ok (.enter 21 #[bodyV 0 X Y 0 0 A 0 0 2 0 (.slice (some ⟨b, off, none⟩) n cap)]) u)) := by
    intro G u hu
    refine (HCa.out u (HPW.out u hu.1)).mono ?_
    rintro e u' ⟨g', rfl, hrow', hg', k'⟩
    exact ⟨g', 0, rfl, hu.next (al2_lasts n m P Q) k' hg' hrow'.here hrow'⟩
  have mkb : Hid (∀ (G : Nat → Option Nat) (u : World), ClM W0 (al2 n m P Q) G u → MkUpon Try.prog W0 (al2 n m P Q) (val2 n m) 3 G (.ok (.enter 21 #[bodyV 0 X2 Y2 0 0 A2 0 0 2 0 (.slice (some ⟨b2, off2, none⟩) m cap2)]) u)) := by
    intro G u hu
    refine (HCb.out u (HQW.out u hu.1)).mono ?_
    rintro e u' ⟨g', rfl, hrow', hg', k'⟩
    exact ⟨g', 0, rfl, hu.next (al2_lasts n m P Q) k' hg' hrow'.here hrow'⟩
  refine ⟨_, 30, rfl, ⟨rfl, rfl, fun G u hu => ?mk1⟩, fun gp cc1 => ⟨_, 32, rfl, ⟨rfl, rfl, fun G u hu => ?mk2⟩, fun gq cc2 => ?rest⟩⟩
  case mk1 =>
    rw [show (execOp _ _).run Try.prog u = .ok (.enter 21 #[bodyV 0 X Y 0 0 A 0 0 2 0 (.slice (some ⟨b, off, none⟩) n cap)]) u by kernel_rfl]
    exact mka.out G u hu
  case mk2 =>
    rw [show (execOp _ _).run Try.prog u = .ok (.enter 21 #[bodyV 0 X2 Y2 0 0 A2 0 0 2 0 (.slice (some ⟨b2, off2, none⟩) m cap2)]) u by kernel_rfl]
    exact mkb.out G u hu
  clear mka mkb
  intro w1 hu
  have q1 : upd (upd (fun _ => none) 1 gp) 3 gq 1 = some gp := by unfold upd; simp
  have q2 : upd (upd (fun _ => none) 1 gp) 3 gq 3 = some gq := by unfold upd; simp
  have RP : Hid (Row w1 gp 26 n P) := (hu.2.1 1 gp q1).2.2
  have RQ : Hid (Row w1 gq 26 m Q) := (hu.2.1 3 gq q2).2.2
  have HO1 := hid (hO0.stays hu.1 hO0.here)
  have M1 : Hid (Made w.heap.size w w1) := M0.out.then_ (hu.1.low M0.out.1.size)
  have lo1 : w.heap.size + 1 + 1 < w1.heap.size := HO1.out.here
  have lgp : gp < w1.heap.size := RP.out.here
  have lgq : gq < w1.heap.size := RQ.out.here
  simp only [List.drop_succ_cons, List.drop_zero]
  clear hu q1 q2 hB0 hO0 hA0 M0 HPW HQW
  rw [show val2 n m 1 gp cc1 = .slice (some ⟨gp, 0, none⟩) n n from rfl, show val2 n m 3 gq cc2 = .slice (some ⟨gq, 0, none⟩) m m from rfl]
  go_wp2_with fail
  refine (HGa.out gp gq w1 RP.out.pts RQ.out.pts).mono ?_
  rintro e w2 ⟨gl, cl, rfl, hI, k2⟩
  have K2 : Hid (Made w1.heap.size w1 w2) := k2
  have HI2 := hid hI
  clear k2 hI
  go_wp2_with fail
  refine (HGb.out gq gp w2 (RQ.out.stays K2.out lgq).pts (RP.out.stays K2.out lgp).pts).mono ?_
  rintro e w3 ⟨gm, cm, rfl, hJ, k3⟩
  have K3 : Hid (Made w1.heap.size w1 w3) := K2.out.then_ (k3.low K2.out.1.size)
  have HI3 := hid (HI2.out.kept k3)
  have HJ3 := hid hJ
  clear k3 hJ HI2 K2
  go_wp2_with fail
  refine (HFa.out gl cl w3 HI3.out).mono ?_
  rintro e w4 ⟨rfl, k4⟩
  have K4 : Hid (Made w1.heap.size w1 w4) := K3.out.then_ (k4.low K3.out.1.size)
  have HI4 := hid (HI3.out.kept k4)
  have HJ4 := hid (HJ3.out.kept k4)
  clear k4 HI3 HJ3 K3
  go_wp2_with fail
  refine (HFb.out gm cm w4 HJ4.out).mono ?_
  rintro e w5 ⟨rfl, k5⟩
  have K5 : Hid (Made w1.heap.size w1 w5) := K4.out.then_ (k5.low K4.out.1.size)
  have c0 := (HI4.out.kept k5) i hin
  rw [EGI.out] at c0
  have c1 := (HJ4.out.kept k5) k hkm
  rw [EGK.out] at c1
  clear k5 HI4 HJ4 K4
  have hO := HO1.out.stays K5.out lo1
  have o0 := hO.at_ 0
  have o1 := hO.at_ 1
  have o2 := hO.at_ 2
  simp at o0 o1 o2
  have of_ : ∀ i, w5.frozen? ⟨w.heap.size + 1 + 1, i, none⟩ = false := hO.free
  have MO : Hid (Made w.heap.size w w5) := M1.out.then_ (K5.out.low M1.out.1.size)
  clear hO
  go_wp2_with fail
  refine bodyPost_ret (v := .tuple #[tchV 0 0 none 0 0, .bool false]) (by simp [results, Try.results35, go_sem, o0, o1, o2]) rfl (touch_none ?_)
  exact ((MO.out.put (by simp; try omega) _).put (by simp; try omega) _).put (by simp; try omega) _

set_option maxRecDepth 100000 in
set_option maxHeartbeats 2000000 in
theorem lpolys_far1 (X Y A : Int) (b off n cap : Nat) (f : Cs) (X2 Y2 A2 : Int) (b2 off2 m cap2 : Nat) (f2 : Cs) (P Q : Cs) (w : World) (iX : I64 X) (iY : I64 Y) (iA : I64 A) (hn3 : 3 ≤ n) (h8 : n ≤ 8) (hp : Pts w b off n f) (hi : Cin f n) (hP : placeF f (cs (stepF A)) (sn (stepF A)) X Y = P) (iX2 : I64 X2) (iY2 : I64 Y2) (iA2 : I64 A2) (hm3 : 3 ≤ m) (hm8 : m ≤ 8) (hq : Pts w b2 off2 m f2) (hi2 : Cin f2 m) (hQ : placeF f2 (cs (stepF A2)) (sn (stepF A2)) X2 Y2 = Q) (i k : Nat) (ei : sideF P n Q m = i) (ek : sideF Q m P n = k) (h1 : ¬ 0 ≤ gapF P n Q m i) (h2 : 0 ≤ gapF Q m P n k) :
    Calls Try.prog 35 #[bodyV 0 X Y 0 0 A 0 0 2 0 (.slice (some ⟨b, off, none⟩) n cap), bodyV 0 X2 Y2 0 0 A2 0 0 2 0 (.slice (some ⟨b2, off2, none⟩) m cap2)] w (TouchR (none) w) := by
  have hn : 0 < n := by omega
  have hm : 0 < m := by omega
  have hin : i < n := by rw [← ei]; have := firstF_le (gapF P n Q m) (n - 1); unfold sideF; omega
  have hkm : k < m := by rw [← ek]; have := firstF_le (gapF Q m P n) (m - 1); unfold sideF; omega
  have iP : Cin P n := by rw [← hP]; exact fun j hj => ⟨i64_add _ _, i64_add _ _⟩
  have iQ : Cin Q m := by rw [← hQ]; exact fun j hj => ⟨i64_add _ _, i64_add _ _⟩
  obtain ⟨gi, egi⟩ : ∃ z, gapF P n Q m i = z := ⟨_, rfl⟩
  obtain ⟨gk, egk⟩ : ∃ z, gapF Q m P n k = z := ⟨_, rfl⟩
  rw [egi] at h1
  rw [egk] at h2
  have HCa := hid (fun w hp => lcorners_is X Y A b off n cap f w iX iY iA hn3 h8 hp hi P hP)
  have HCb := hid (fun w hp => lcorners_is X2 Y2 A2 b2 off2 m cap2 f2 w iX2 iY2 iA2 hm3 hm8 hp hi2 Q hQ)
  have HGa := hid (fun g g2 w hp hq => gaps_is g 0 n n g2 0 m P Q w hn h8 hm hm8 hp hq iP iQ)
  have HGb := hid (fun g g2 w hp hq => gaps_is g 0 m m g2 0 n Q P w hm hm8 hn h8 hp hq iQ iP)
  have HFa := hid (fun g c w q => first_is g n c (gapF P n Q m) w hn h8 q)
  rw [show firstF (gapF P n Q m) (n - 1) = i from ei] at HFa
  have HFb := hid (fun g c w q => first_is g m c (gapF Q m P n) w hm hm8 q)
  rw [show firstF (gapF Q m P n) (m - 1) = k from ek] at HFb
  have HNa := hid (fun g w hp => normals_is g 0 n n P w hn h8 hp iP)
  have HNb := hid (fun g w hp => normals_is g 0 m m Q w hm hm8 hp iQ)
  have HP := hid hp
  have HQ := hid hq
  have EGI := hid egi
  have EGK := hid egk
  clear hp hi hP hq hi2 hQ ei ek egi egk iP iQ
  go_enter Try.func35, Try.ntmps35
  go_upto_region 1 with fail
  obtain ⟨W0, eW⟩ : ∃ W, W = ((w.alloc (.cells #[.int .i64 0, .int .i64 X, .int .i64 Y, .int .i64 0, .int .i64 0, .int .i64 A, .int .i64 0, .int .i64 0, .int .i64 2, .int .i64 0, .slice (some ⟨b, off, none⟩) n cap] 34)).alloc (.cells #[.int .i64 0, .int .i64 X2, .int .i64 Y2, .int .i64 0, .int .i64 0, .int .i64 A2, .int .i64 0, .int .i64 0, .int .i64 2, .int .i64 0, .slice (some ⟨b2, off2, none⟩) m cap2] 34)).alloc (.cells #[.int .i64 0, .int .i64 0, .slice none 0 0] 38) := ⟨_, rfl⟩
  have hA0 : Has W0 w.heap.size 34 #[.int .i64 0, .int .i64 X, .int .i64 Y, .int .i64 0, .int .i64 0, .int .i64 A, .int .i64 0, .int .i64 0, .int .i64 2, .int .i64 0, .slice (some ⟨b, off, none⟩) n cap] := by rw [eW]; exact ((has_new _ _ _).more _).more _
  have hB0 : Has W0 (w.heap.size + 1) 34 #[.int .i64 0, .int .i64 X2, .int .i64 Y2, .int .i64 0, .int .i64 0, .int .i64 A2, .int .i64 0, .int .i64 0, .int .i64 2, .int .i64 0, .slice (some ⟨b2, off2, none⟩) m cap2] := by rw [eW]; exact (has_next _ _ _ _).more _
  have hO0 : Has W0 (w.heap.size + 1 + 1) 38 #[.int .i64 0, .int .i64 0, .slice none 0 0] := by rw [eW]; simpa using has_new ((w.alloc (.cells #[.int .i64 0, .int .i64 X, .int .i64 Y, .int .i64 0, .int .i64 0, .int .i64 A, .int .i64 0, .int .i64 0, .int .i64 2, .int .i64 0, .slice (some ⟨b, off, none⟩) n cap] 34)).alloc (.cells #[.int .i64 0, .int .i64 X2, .int .i64 Y2, .int .i64 0, .int .i64 0, .int .i64 A2, .int .i64 0, .int .i64 0, .int .i64 2, .int .i64 0, .slice (some ⟨b2, off2, none⟩) m cap2] 34)) 38 #[.int .i64 0, .int .i64 0, .slice none 0 0]
  have M0 : Hid (Made w.heap.size w W0) := by unfold Hid; rw [eW]; exact (((Made.rfl_ _ _).cells (Nat.le_refl _) _ _).cells (by simp) _ _).cells (by simp; omega) _ _
  have HPW : Hid (∀ v, Made W0.heap.size W0 v → Pts v b off n f) := fun v kv => HP.out.kept (M0.out.then_ (kv.low M0.out.1.size))
  have HQW : Hid (∀ v, Made W0.heap.size W0 v → Pts v b2 off2 m f2) := fun v kv => HQ.out.kept (M0.out.then_ (kv.low M0.out.1.size))
  rw [← eW]
  clear eW
  have a0 := hA0.at_ 0
  have a1 := hA0.at_ 1
  have a2 := hA0.at_ 2
  have a3 := hA0.at_ 3
  have a4 := hA0.at_ 4
  have a5 := hA0.at_ 5
  have a6 := hA0.at_ 6
  have a7 := hA0.at_ 7
  have a8 := hA0.at_ 8
  have a9 := hA0.at_ 9
  have a10 := hA0.at_ 10
  have b0_ := hB0.at_ 0
  have b1_ := hB0.at_ 1
  have b2_ := hB0.at_ 2
  have b3_ := hB0.at_ 3
  have b4_ := hB0.at_ 4
  have b5_ := hB0.at_ 5
  have b6_ := hB0.at_ 6
  have b7_ := hB0.at_ 7
  have b8_ := hB0.at_ 8
  have b9_ := hB0.at_ 9
  have b10_ := hB0.at_ 10
  simp at a0 a1 a2 a3 a4 a5 a6 a7 a8 a9 a10 b0_ b1_ b2_ b3_ b4_ b5_ b6_ b7_ b8_ b9_ b10_
  refine region_makes 4 197 [0, 2] [1, 3] (al2 n m P Q) (val2 n m) (by kernel_rfl) (al2_lasts n m P Q) (by kernel_rfl) rfl (by kernel_rfl) rfl ?_
  apply Exists.intro
  refine ⟨?h1, ?h2⟩
  case h1 =>
    intro Ty hT fw hf
    have a0 := Class.reads hf a0
    have a1 := Class.reads hf a1
    have a2 := Class.reads hf a2
    have a3 := Class.reads hf a3
    have a4 := Class.reads hf a4
    have a5 := Class.reads hf a5
    have a6 := Class.reads hf a6
    have a7 := Class.reads hf a7
    have a8 := Class.reads hf a8
    have a9 := Class.reads hf a9
    have a10 := Class.reads hf a10
    have b0_ := Class.reads hf b0_
    have b1_ := Class.reads hf b1_
    have b2_ := Class.reads hf b2_
    have b3_ := Class.reads hf b3_
    have b4_ := Class.reads hf b4_
    have b5_ := Class.reads hf b5_
    have b6_ := Class.reads hf b6_
    have b7_ := Class.reads hf b7_
    have b8_ := Class.reads hf b8_
    have b9_ := Class.reads hf b9_
    have b10_ := Class.reads hf b10_
    change wpQuiet _ _ _ _ [_, _] _
    repeat (go_big_quiet_step (fail))
    exact wpQuiet_nil rfl
  clear a0 a1 a2 a3 a4 a5 a6 a7 a8 a9 a10 b0_ b1_ b2_ b3_ b4_ b5_ b6_ b7_ b8_ b9_ b10_
  have mka : Hid (∀ (G : Nat → Option Nat) (u : World), ClM W0 (al2 n m P Q) G u → MkUpon Try.prog W0 (al2 n m P Q) (val2 n m) 1 G (.ok (.enter 21 #[bodyV 0 X Y 0 0 A 0 0 2 0 (.slice (some ⟨b, off, none⟩) n cap)]) u)) := by
    intro G u hu
    refine (HCa.out u (HPW.out u hu.1)).mono ?_
    rintro e u' ⟨g', rfl, hrow', hg', k'⟩
    exact ⟨g', 0, rfl, hu.next (al2_lasts n m P Q) k' hg' hrow'.here hrow'⟩
  have mkb : Hid (∀ (G : Nat → Option Nat) (u : World), ClM W0 (al2 n m P Q) G u → MkUpon Try.prog W0 (al2 n m P Q) (val2 n m) 3 G (.ok (.enter 21 #[bodyV 0 X2 Y2 0 0 A2 0 0 2 0 (.slice (some ⟨b2, off2, none⟩) m cap2)]) u)) := by
    intro G u hu
    refine (HCb.out u (HQW.out u hu.1)).mono ?_
    rintro e u' ⟨g', rfl, hrow', hg', k'⟩
    exact ⟨g', 0, rfl, hu.next (al2_lasts n m P Q) k' hg' hrow'.here hrow'⟩
  refine ⟨_, 30, rfl, ⟨rfl, rfl, fun G u hu => ?mk1⟩, fun gp cc1 => ⟨_, 32, rfl, ⟨rfl, rfl, fun G u hu => ?mk2⟩, fun gq cc2 => ?rest⟩⟩
  case mk1 =>
    rw [show (execOp _ _).run Try.prog u = .ok (.enter 21 #[bodyV 0 X Y 0 0 A 0 0 2 0 (.slice (some ⟨b, off, none⟩) n cap)]) u by kernel_rfl]
    exact mka.out G u hu
  case mk2 =>
    rw [show (execOp _ _).run Try.prog u = .ok (.enter 21 #[bodyV 0 X2 Y2 0 0 A2 0 0 2 0 (.slice (some ⟨b2, off2, none⟩) m cap2)]) u by kernel_rfl]
    exact mkb.out G u hu
  clear mka mkb
  intro w1 hu
  have q1 : upd (upd (fun _ => none) 1 gp) 3 gq 1 = some gp := by unfold upd; simp
  have q2 : upd (upd (fun _ => none) 1 gp) 3 gq 3 = some gq := by unfold upd; simp
  have RP : Hid (Row w1 gp 26 n P) := (hu.2.1 1 gp q1).2.2
  have RQ : Hid (Row w1 gq 26 m Q) := (hu.2.1 3 gq q2).2.2
  have HO1 := hid (hO0.stays hu.1 hO0.here)
  have M1 : Hid (Made w.heap.size w w1) := M0.out.then_ (hu.1.low M0.out.1.size)
  have lo1 : w.heap.size + 1 + 1 < w1.heap.size := HO1.out.here
  have lgp : gp < w1.heap.size := RP.out.here
  have lgq : gq < w1.heap.size := RQ.out.here
  simp only [List.drop_succ_cons, List.drop_zero]
  clear hu q1 q2 hB0 hO0 hA0 M0 HPW HQW
  rw [show val2 n m 1 gp cc1 = .slice (some ⟨gp, 0, none⟩) n n from rfl, show val2 n m 3 gq cc2 = .slice (some ⟨gq, 0, none⟩) m m from rfl]
  go_wp2_with fail
  refine (HGa.out gp gq w1 RP.out.pts RQ.out.pts).mono ?_
  rintro e w2 ⟨gl, cl, rfl, hI, k2⟩
  have K2 : Hid (Made w1.heap.size w1 w2) := k2
  have HI2 := hid hI
  clear k2 hI
  go_wp2_with fail
  refine (HGb.out gq gp w2 (RQ.out.stays K2.out lgq).pts (RP.out.stays K2.out lgp).pts).mono ?_
  rintro e w3 ⟨gm, cm, rfl, hJ, k3⟩
  have K3 : Hid (Made w1.heap.size w1 w3) := K2.out.then_ (k3.low K2.out.1.size)
  have HI3 := hid (HI2.out.kept k3)
  have HJ3 := hid hJ
  clear k3 hJ HI2 K2
  go_wp2_with fail
  refine (HFa.out gl cl w3 HI3.out).mono ?_
  rintro e w4 ⟨rfl, k4⟩
  have K4 : Hid (Made w1.heap.size w1 w4) := K3.out.then_ (k4.low K3.out.1.size)
  have HI4 := hid (HI3.out.kept k4)
  have HJ4 := hid (HJ3.out.kept k4)
  clear k4 HI3 HJ3 K3
  go_wp2_with fail
  refine (HFb.out gm cm w4 HJ4.out).mono ?_
  rintro e w5 ⟨rfl, k5⟩
  have K5 : Hid (Made w1.heap.size w1 w5) := K4.out.then_ (k5.low K4.out.1.size)
  have c0 := (HI4.out.kept k5) i hin
  rw [EGI.out] at c0
  have c1 := (HJ4.out.kept k5) k hkm
  rw [EGK.out] at c1
  clear k5 HI4 HJ4 K4
  have hO := HO1.out.stays K5.out lo1
  have o0 := hO.at_ 0
  have o1 := hO.at_ 1
  have o2 := hO.at_ 2
  simp at o0 o1 o2
  have of_ : ∀ i, w5.frozen? ⟨w.heap.size + 1 + 1, i, none⟩ = false := hO.free
  have MO : Hid (Made w.heap.size w w5) := M1.out.then_ (K5.out.low M1.out.1.size)
  clear hO
  go_wp2_with fail
  refine bodyPost_ret (v := .tuple #[tchV 0 0 none 0 0, .bool false]) (by simp [results, Try.results35, go_sem, o0, o1, o2]) rfl (touch_none ?_)
  exact ((MO.out.put (by simp; try omega) _).put (by simp; try omega) _).put (by simp; try omega) _
end Go.Proofs.Ytckgpkbdckpcmaa.Fx
