/- Contracts of package touch: Of, by kinds. -/
import Derived.Test.YtmfkcdinfahjlaaTcC
import Derived.Test.YtmfkcdinfahjlaaTcJ
import Derived.Test.YtmfkcdinfahjlaaTcK
namespace Go.Proofs.Ytmfkcdinfahjlaa.Fx
open Go.ChangeShapes Go.WideShapes Go.ChangeAt Go.RowKit
set_option linter.unusedVariables false

/-- outlines made at i1 and i2, a touch made at it, and variables for touches -/
def alO (i1 n : Nat) (P : Cs) (i2 m : Nat) (Q : Cs) (it : Nat) (T : Option Tch) (i : Nat) (v : World) (g e : Nat) : Prop :=
  if i = i1 then OutAt v g 0 e n P else if i = i2 then OutAt v g 0 e m Q else if i = it then ansP T v g else Has v g 38 #[.int .i64 0, .int .i64 0, .slice none 0 0]
def valO (i1 n i2 m it : Nat) (T : Option Tch) (i g c : Nat) : Value :=
  if i = i1 then outV g 0 n c n n else if i = i2 then outV g 0 m c m m else if i = it then ansV T g c else .pointer (some ⟨g, 0, none⟩)
theorem alO_lasts (i1 n : Nat) (P : Cs) (i2 m : Nat) (Q : Cs) (it : Nat) (T : Option Tch) : MK.Lasts (alO i1 n P i2 m Q it T) := fun i u v g e h hg k => by
  unfold alO at h ⊢
  split
  · rename_i e1; rw [if_pos e1] at h; exact h.kept k
  · rename_i e1; rw [if_neg e1] at h
    split
    · rename_i e2; rw [if_pos e2] at h; exact h.kept k
    · rename_i e2; rw [if_neg e2] at h
      split
      · rename_i e3; rw [if_pos e3] at h; exact h.kept k
      · rename_i e3; rw [if_neg e3] at h; exact h.stays k hg

set_option maxRecDepth 100000 in
set_option maxHeartbeats 4000000 in
theorem tof_ccn (X Y A R X2 Y2 A2 R2 : Int) (w : World) (iX : I64 X) (iY : I64 Y) (iA : I64 A) (iX2 : I64 X2) (iY2 : I64 Y2) (iA2 : I64 A2) (iR : I64 R) (iR2 : I64 R2) (et : roundsF (X, Y) R (X2, Y2) R2 = none) :
    Calls Try.prog 11 #[bodyV 0 X Y 0 0 A 0 0 1 R (.slice none 0 0), bodyV 0 X2 Y2 0 0 A2 0 0 1 R2 (.slice none 0 0)] w (TouchQ none w) := by
  have HC := hid (fun w => tcircles_is X Y A R X2 Y2 A2 R2 w iX iY iR iX2 iY2 iR2)
  rw [et] at HC
  clear et
  go_enter Try.func11, Try.ntmps11
  go_upto_region 1 with fail
  obtain ⟨W0, eW⟩ : ∃ W, W = ((w.alloc (.cells #[.int .i64 0, .int .i64 X, .int .i64 Y, .int .i64 0, .int .i64 0, .int .i64 A, .int .i64 0, .int .i64 0, .int .i64 1, .int .i64 R, .slice none 0 0] 34)).alloc (.cells #[.int .i64 0, .int .i64 X2, .int .i64 Y2, .int .i64 0, .int .i64 0, .int .i64 A2, .int .i64 0, .int .i64 0, .int .i64 1, .int .i64 R2, .slice none 0 0] 34)).alloc (.cells #[.int .i64 0, .int .i64 0, .slice none 0 0] 38) := ⟨_, rfl⟩
  have M0 : Hid (Made w.heap.size w W0) := by unfold Hid; rw [eW]; exact (((Made.rfl_ _ _).cells (Nat.le_refl _) _ _).cells (by simp) _ _).cells (by simp; omega) _ _
  have HA : Has W0 (w.heap.size) 34 #[.int .i64 0, .int .i64 X, .int .i64 Y, .int .i64 0, .int .i64 0, .int .i64 A, .int .i64 0, .int .i64 0, .int .i64 1, .int .i64 R, .slice none 0 0] := by rw [eW]; exact ((has_new _ _ _).more _).more _
  have HB : Has W0 (w.heap.size + 1) 34 #[.int .i64 0, .int .i64 X2, .int .i64 Y2, .int .i64 0, .int .i64 0, .int .i64 A2, .int .i64 0, .int .i64 0, .int .i64 1, .int .i64 R2, .slice none 0 0] := by rw [eW]; exact (has_next _ _ _ _).more _
  obtain ⟨a0, a1, a2, a3, a4, a5, a6, a7, a8, a9, a10⟩ := HA.c11
  obtain ⟨c0, c1, c2, c3, c4, c5, c6, c7, c8, c9, c10⟩ := HB.c11
  have o0 : W0.cell? ⟨w.heap.size + 1 + 1, 0, none⟩ = some (.int .i64 0) := by rw [eW]; go_simp
  have o1 : W0.cell? ⟨w.heap.size + 1 + 1, 1, none⟩ = some (.int .i64 0) := by rw [eW]; go_simp
  have o2 : W0.cell? ⟨w.heap.size + 1 + 1, 2, none⟩ = some (.slice none 0 0) := by rw [eW]; go_simp
  have of_ : ∀ i, W0.frozen? ⟨w.heap.size + 1 + 1, i, none⟩ = false := fun i => by rw [eW]; go_simp
  rw [← eW]
  clear eW
  go_wp2_with fail
  refine (tround_is X Y A 1 (R) (.slice none 0 0) true (by decide) _).mono ?_
  rintro e w1 ⟨rfl, k1⟩
  have HA := HA.stays k1 HA.here
  have HB := HB.stays k1 HB.here
  obtain ⟨a0, a1, a2, a3, a4, a5, a6, a7, a8, a9, a10⟩ := HA.c11
  obtain ⟨c0, c1, c2, c3, c4, c5, c6, c7, c8, c9, c10⟩ := HB.c11
  have o0 := k1.reads o0
  have o1 := k1.reads o1
  have o2 := k1.reads o2
  have of_ : ∀ i, w1.frozen? ⟨w.heap.size + 1 + 1, i, none⟩ = false := fun i => (k1.2 _).trans (of_ i)
  have M1 : Hid (Made w.heap.size w w1) := M0.out.then_ (k1.low M0.out.1.size)
  clear k1
  go_wp2_with fail
  refine (tround_is X2 Y2 A2 1 (R2) (.slice none 0 0) true (by decide) _).mono ?_
  rintro e w2 ⟨rfl, k1⟩
  have HA := HA.stays k1 HA.here
  have HB := HB.stays k1 HB.here
  obtain ⟨a0, a1, a2, a3, a4, a5, a6, a7, a8, a9, a10⟩ := HA.c11
  obtain ⟨c0, c1, c2, c3, c4, c5, c6, c7, c8, c9, c10⟩ := HB.c11
  have o0 := k1.reads o0
  have o1 := k1.reads o1
  have o2 := k1.reads o2
  have of_ : ∀ i, w2.frozen? ⟨w.heap.size + 1 + 1, i, none⟩ = false := fun i => (k1.2 _).trans (of_ i)
  have M2 : Hid (Made w.heap.size w w2) := M1.out.then_ (k1.low M1.out.1.size)
  clear k1
  have loc : w.heap.size + 1 + 1 < w2.heap.size := World.block_lt_of_cell? _ _ o0
  go_wp2_with fail
  refine (HC.out _).mono ?_
  intro e w9 hT
  have hk := hT.made
  have o0 := hk.reads o0
  have o1 := hk.reads o1
  have o2 := hk.reads o2
  have of_ : ∀ i, w9.frozen? ⟨w.heap.size + 1 + 1, i, none⟩ = false := fun i => (hk.2 _).trans (of_ i)
  have M9 : Hid (Made w.heap.size w w9) := M2.out.then_ (hk.low M2.out.1.size)
  have lo9 : w.heap.size + 1 + 1 < w9.heap.size := World.block_lt_of_cell? _ _ o0
  clear hk HA HB a0 a1 a2 a3 a4 a5 a6 a7 a8 a9 a10 c0 c1 c2 c3 c4 c5 c6 c7 c8 c9 c10
  obtain ⟨rfl, _⟩ := hT
  go_wp2_with fail
  refine bodyPost_ret (v := .tuple #[tchV 0 0 none 0 0, .bool false]) (by simp [results, Try.results11, go_sem, o0, o1, o2]) rfl (touchq_none (by simp; omega) ?_)
  exact ((M9.out.put (by simp; try omega) _).put (by simp; try omega) _).put (by simp; try omega) _

set_option maxRecDepth 100000 in
set_option maxHeartbeats 4000000 in
theorem tof_ccs (X Y A R X2 Y2 A2 R2 : Int) (w : World) (iX : I64 X) (iY : I64 Y) (iA : I64 A) (iX2 : I64 X2) (iY2 : I64 Y2) (iA2 : I64 A2) (iR : I64 R) (iR2 : I64 R2) (t : Tch) (et : roundsF (X, Y) R (X2, Y2) R2 = some t) :
    Calls Try.prog 11 #[bodyV 0 X Y 0 0 A 0 0 1 R (.slice none 0 0), bodyV 0 X2 Y2 0 0 A2 0 0 1 R2 (.slice none 0 0)] w (TouchQ (some t) w) := by
  obtain ⟨tx, ty, l⟩ := t
  have HC := hid (fun w => tcircles_is X Y A R X2 Y2 A2 R2 w iX iY iR iX2 iY2 iR2)
  rw [et] at HC
  clear et
  go_enter Try.func11, Try.ntmps11
  go_upto_region 1 with fail
  obtain ⟨W0, eW⟩ : ∃ W, W = ((w.alloc (.cells #[.int .i64 0, .int .i64 X, .int .i64 Y, .int .i64 0, .int .i64 0, .int .i64 A, .int .i64 0, .int .i64 0, .int .i64 1, .int .i64 R, .slice none 0 0] 34)).alloc (.cells #[.int .i64 0, .int .i64 X2, .int .i64 Y2, .int .i64 0, .int .i64 0, .int .i64 A2, .int .i64 0, .int .i64 0, .int .i64 1, .int .i64 R2, .slice none 0 0] 34)).alloc (.cells #[.int .i64 0, .int .i64 0, .slice none 0 0] 38) := ⟨_, rfl⟩
  have M0 : Hid (Made w.heap.size w W0) := by unfold Hid; rw [eW]; exact (((Made.rfl_ _ _).cells (Nat.le_refl _) _ _).cells (by simp) _ _).cells (by simp; omega) _ _
  have HA : Has W0 (w.heap.size) 34 #[.int .i64 0, .int .i64 X, .int .i64 Y, .int .i64 0, .int .i64 0, .int .i64 A, .int .i64 0, .int .i64 0, .int .i64 1, .int .i64 R, .slice none 0 0] := by rw [eW]; exact ((has_new _ _ _).more _).more _
  have HB : Has W0 (w.heap.size + 1) 34 #[.int .i64 0, .int .i64 X2, .int .i64 Y2, .int .i64 0, .int .i64 0, .int .i64 A2, .int .i64 0, .int .i64 0, .int .i64 1, .int .i64 R2, .slice none 0 0] := by rw [eW]; exact (has_next _ _ _ _).more _
  obtain ⟨a0, a1, a2, a3, a4, a5, a6, a7, a8, a9, a10⟩ := HA.c11
  obtain ⟨c0, c1, c2, c3, c4, c5, c6, c7, c8, c9, c10⟩ := HB.c11
  have o0 : W0.cell? ⟨w.heap.size + 1 + 1, 0, none⟩ = some (.int .i64 0) := by rw [eW]; go_simp
  have o1 : W0.cell? ⟨w.heap.size + 1 + 1, 1, none⟩ = some (.int .i64 0) := by rw [eW]; go_simp
  have o2 : W0.cell? ⟨w.heap.size + 1 + 1, 2, none⟩ = some (.slice none 0 0) := by rw [eW]; go_simp
  have of_ : ∀ i, W0.frozen? ⟨w.heap.size + 1 + 1, i, none⟩ = false := fun i => by rw [eW]; go_simp
  rw [← eW]
  clear eW
  go_wp2_with fail
  refine (tround_is X Y A 1 (R) (.slice none 0 0) true (by decide) _).mono ?_
  rintro e w1 ⟨rfl, k1⟩
  have HA := HA.stays k1 HA.here
  have HB := HB.stays k1 HB.here
  obtain ⟨a0, a1, a2, a3, a4, a5, a6, a7, a8, a9, a10⟩ := HA.c11
  obtain ⟨c0, c1, c2, c3, c4, c5, c6, c7, c8, c9, c10⟩ := HB.c11
  have o0 := k1.reads o0
  have o1 := k1.reads o1
  have o2 := k1.reads o2
  have of_ : ∀ i, w1.frozen? ⟨w.heap.size + 1 + 1, i, none⟩ = false := fun i => (k1.2 _).trans (of_ i)
  have M1 : Hid (Made w.heap.size w w1) := M0.out.then_ (k1.low M0.out.1.size)
  clear k1
  go_wp2_with fail
  refine (tround_is X2 Y2 A2 1 (R2) (.slice none 0 0) true (by decide) _).mono ?_
  rintro e w2 ⟨rfl, k1⟩
  have HA := HA.stays k1 HA.here
  have HB := HB.stays k1 HB.here
  obtain ⟨a0, a1, a2, a3, a4, a5, a6, a7, a8, a9, a10⟩ := HA.c11
  obtain ⟨c0, c1, c2, c3, c4, c5, c6, c7, c8, c9, c10⟩ := HB.c11
  have o0 := k1.reads o0
  have o1 := k1.reads o1
  have o2 := k1.reads o2
  have of_ : ∀ i, w2.frozen? ⟨w.heap.size + 1 + 1, i, none⟩ = false := fun i => (k1.2 _).trans (of_ i)
  have M2 : Hid (Made w.heap.size w w2) := M1.out.then_ (k1.low M1.out.1.size)
  clear k1
  have loc : w.heap.size + 1 + 1 < w2.heap.size := World.block_lt_of_cell? _ _ o0
  go_wp2_with fail
  refine (HC.out _).mono ?_
  intro e w9 hT
  have hk := hT.made
  have o0 := hk.reads o0
  have o1 := hk.reads o1
  have o2 := hk.reads o2
  have of_ : ∀ i, w9.frozen? ⟨w.heap.size + 1 + 1, i, none⟩ = false := fun i => (hk.2 _).trans (of_ i)
  have M9 : Hid (Made w.heap.size w w9) := M2.out.then_ (hk.low M2.out.1.size)
  have lo9 : w.heap.size + 1 + 1 < w9.heap.size := World.block_lt_of_cell? _ _ o0
  clear hk HA HB a0 a1 a2 a3 a4 a5 a6 a7 a8 a9 a10 c0 c1 c2 c3 c4 c5 c6 c7 c8 c9 c10
  obtain ⟨gp, cp, hgp, rfl, hl, hpt, _⟩ := hT
  have HPp := hid hpt
  have hne : gp ≠ w.heap.size + 1 + 1 := by omega
  clear hpt
  go_wp2_with fail
  refine bodyPost_ret (v := .tuple #[tchV tx ty (some ⟨gp, 0, none⟩) l.length cp, .bool true]) (by simp [results, Try.results11, go_sem, o0, o1, o2]) rfl ⟨gp, cp, by omega, rfl, hl, ?_, ?_⟩
  · exact HPp.out.putO hne _ _ _
  · exact ((M9.out.put (by simp; try omega) _).put (by simp; try omega) _).put (by simp; try omega) _

set_option maxRecDepth 100000 in
set_option maxHeartbeats 4000000 in
theorem tof_pcn (X Y A X2 Y2 A2 R2 : Int) (b off n cap : Nat) (f P : Cs) (w : World) (iX : I64 X) (iY : I64 Y) (iA : I64 A) (iX2 : I64 X2) (iY2 : I64 Y2) (iA2 : I64 A2) (iR2 : I64 R2) (hn3 : 3 ≤ n) (h8 : n ≤ 8) (hp : Pts w b off n f) (hi : Cin f n) (hP : placeF f (cs (stepF A)) (sn (stepF A)) X Y = P) (et : mixedF P n (X2, Y2) R2 = none) :
    Calls Try.prog 11 #[bodyV 0 X Y 0 0 A 0 0 2 0 (.slice (some ⟨b, off, none⟩) n cap), bodyV 0 X2 Y2 0 0 A2 0 0 1 R2 (.slice none 0 0)] w (TouchQ none w) := by
  have HPt := hid hp
  have HPl := hid (fun w hp => tplace_is X Y A b off n cap f w iX iY iA hn3 h8 hp hi P hP)
  have IP : Hid (Cin P n) := fun i _ => by rw [← hP]; exact ⟨i64_add _ _, i64_add _ _⟩
  clear hp hi hP
  have HC := hid (fun p g w ho => tpc_is X2 Y2 A2 R2 p 0 n g n n P w hn3 h8 iX2 iY2 iR2 ho IP.out _ et)
  clear et
  go_enter Try.func11, Try.ntmps11
  go_upto_region 1 with fail
  obtain ⟨W0, eW⟩ : ∃ W, W = ((w.alloc (.cells #[.int .i64 0, .int .i64 X, .int .i64 Y, .int .i64 0, .int .i64 0, .int .i64 A, .int .i64 0, .int .i64 0, .int .i64 2, .int .i64 0, .slice (some ⟨b, off, none⟩) n cap] 34)).alloc (.cells #[.int .i64 0, .int .i64 X2, .int .i64 Y2, .int .i64 0, .int .i64 0, .int .i64 A2, .int .i64 0, .int .i64 0, .int .i64 1, .int .i64 R2, .slice none 0 0] 34)).alloc (.cells #[.int .i64 0, .int .i64 0, .slice none 0 0] 38) := ⟨_, rfl⟩
  have M0 : Hid (Made w.heap.size w W0) := by unfold Hid; rw [eW]; exact (((Made.rfl_ _ _).cells (Nat.le_refl _) _ _).cells (by simp) _ _).cells (by simp; omega) _ _
  have HA : Has W0 (w.heap.size) 34 #[.int .i64 0, .int .i64 X, .int .i64 Y, .int .i64 0, .int .i64 0, .int .i64 A, .int .i64 0, .int .i64 0, .int .i64 2, .int .i64 0, .slice (some ⟨b, off, none⟩) n cap] := by rw [eW]; exact ((has_new _ _ _).more _).more _
  have HB : Has W0 (w.heap.size + 1) 34 #[.int .i64 0, .int .i64 X2, .int .i64 Y2, .int .i64 0, .int .i64 0, .int .i64 A2, .int .i64 0, .int .i64 0, .int .i64 1, .int .i64 R2, .slice none 0 0] := by rw [eW]; exact (has_next _ _ _ _).more _
  obtain ⟨a0, a1, a2, a3, a4, a5, a6, a7, a8, a9, a10⟩ := HA.c11
  obtain ⟨c0, c1, c2, c3, c4, c5, c6, c7, c8, c9, c10⟩ := HB.c11
  have o0 : W0.cell? ⟨w.heap.size + 1 + 1, 0, none⟩ = some (.int .i64 0) := by rw [eW]; go_simp
  have o1 : W0.cell? ⟨w.heap.size + 1 + 1, 1, none⟩ = some (.int .i64 0) := by rw [eW]; go_simp
  have o2 : W0.cell? ⟨w.heap.size + 1 + 1, 2, none⟩ = some (.slice none 0 0) := by rw [eW]; go_simp
  have of_ : ∀ i, W0.frozen? ⟨w.heap.size + 1 + 1, i, none⟩ = false := fun i => by rw [eW]; go_simp
  rw [← eW]
  clear eW
  go_wp2_with fail
  refine (tround_is X Y A 2 (0) (.slice (some ⟨b, off, none⟩) n cap) false (by decide) _).mono ?_
  rintro e w1 ⟨rfl, k1⟩
  have HA := HA.stays k1 HA.here
  have HB := HB.stays k1 HB.here
  obtain ⟨a0, a1, a2, a3, a4, a5, a6, a7, a8, a9, a10⟩ := HA.c11
  obtain ⟨c0, c1, c2, c3, c4, c5, c6, c7, c8, c9, c10⟩ := HB.c11
  have o0 := k1.reads o0
  have o1 := k1.reads o1
  have o2 := k1.reads o2
  have of_ : ∀ i, w1.frozen? ⟨w.heap.size + 1 + 1, i, none⟩ = false := fun i => (k1.2 _).trans (of_ i)
  have M1 : Hid (Made w.heap.size w w1) := M0.out.then_ (k1.low M0.out.1.size)
  clear k1
  go_wp2_with fail
  refine (tround_is X2 Y2 A2 1 (R2) (.slice none 0 0) true (by decide) _).mono ?_
  rintro e w3 ⟨rfl, k1⟩
  have HA := HA.stays k1 HA.here
  have HB := HB.stays k1 HB.here
  obtain ⟨a0, a1, a2, a3, a4, a5, a6, a7, a8, a9, a10⟩ := HA.c11
  obtain ⟨c0, c1, c2, c3, c4, c5, c6, c7, c8, c9, c10⟩ := HB.c11
  have o0 := k1.reads o0
  have o1 := k1.reads o1
  have o2 := k1.reads o2
  have of_ : ∀ i, w3.frozen? ⟨w.heap.size + 1 + 1, i, none⟩ = false := fun i => (k1.2 _).trans (of_ i)
  have M3 : Hid (Made w.heap.size w w3) := M1.out.then_ (k1.low M1.out.1.size)
  clear k1
  have HPt : Hid (Pts w3 b off n f) := HPt.out.kept M3.out
  have loc : w.heap.size + 1 + 1 < w3.heap.size := World.block_lt_of_cell? _ _ o0
  go_upto_region 4 with fail
  have mk1 : Hid (∀ (G : Nat → Option (Nat × Nat)) (u : World), MK.Cm w3 (alO 1 n P 99 n P 3 none) G u → MK.MkUpon Try.prog w3 (alO 1 n P 99 n P 3 none) (valO 1 n 99 n 3 none) 1 G (.ok (.enter 25 #[bodyV 0 X Y 0 0 A 0 0 2 0 (.slice (some ⟨b, off, none⟩) n cap)]) u)) := by
    intro G u hu
    refine (HPl.out u (HPt.out.kept hu.1)).mono ?_
    rintro e u' ⟨p, g, rfl, hpn, ho, kk⟩
    exact ⟨p, g, rfl, hu.next (alO_lasts _ _ _ _ _ _ _ _) kk hpn (ho.1.here (by omega)) ho⟩
  have mkt : Hid (∀ (pA gA : Nat) (G : Nat → Option (Nat × Nat)) (u : World), G 1 = some (pA, gA) → MK.Cm w3 (alO 1 n P 99 n P 3 none) G u → MK.MkUpon Try.prog w3 (alO 1 n P 99 n P 3 none) (valO 1 n 99 n 3 none) 3 G (.ok (.enter 24 #[outV pA 0 n gA n n, bodyV 0 X2 Y2 0 0 A2 0 0 1 R2 (.slice none 0 0)]) u)) := by
    intro pA gA G u e1 hu
    have h1 : OutAt u pA 0 gA n P := (hu.2.1 1 _ e1).2.2
    refine (HC.out pA gA u h1).mono ?_
    intro e u' hT
    obtain ⟨gg, cc, rfl, hg1, hg2, hp, kk⟩ := hT.ans
    exact ⟨gg, cc, rfl, hu.next (alO_lasts _ _ _ _ _ _ _ _) kk hg1 hg2 hp⟩
  refine MK.reg_mk (alO 1 n P 99 n P 3 none) 6 [0, 2, 1, 3, 4, 5] [0, 2, 4, 5] [1, 3] [5] (fun i => if i = 3 then [1] else []) (val := valO 1 n 99 n 3 none) (by kernel_rfl) (by kernel_rfl) ?hpu ?_
  case hpu => intro p hp o ho; simp at hp; subst hp; cases ho; exact extract_pure rfl
  refine MK.can_class (rest := [1, 3, 4, 5]) [0, 2] [] 49 (alO_lasts _ _ _ _ _ _ _ _) (MK.any_class _) (by kernel_rfl) rfl (by kernel_rfl) (by kernel_rfl) ?_
  apply Exists.intro
  refine ⟨?q1, ?q2⟩
  case q1 =>
    intro Ty hT fw hf _
    have a0 := Class.reads hf a0
    have a1 := Class.reads hf a1
    have a2 := Class.reads hf a2
    have a3 := Class.reads hf a3
    have a4 := Class.reads hf a4
    have a5 := Class.reads hf a5
    have a6 := Class.reads hf a6
    have a7 := Class.reads hf a7
    have a8 := Class.reads hf a8
    have a9 := Class.reads hf a9
    have a10 := Class.reads hf a10
    have c0 := Class.reads hf c0
    have c1 := Class.reads hf c1
    have c2 := Class.reads hf c2
    have c3 := Class.reads hf c3
    have c4 := Class.reads hf c4
    have c5 := Class.reads hf c5
    have c6 := Class.reads hf c6
    have c7 := Class.reads hf c7
    have c8 := Class.reads hf c8
    have c9 := Class.reads hf c9
    have c10 := Class.reads hf c10
    change wpQuiet _ _ _ _ [_, _] _
    repeat (go_big_quiet_step (fail))
    exact wpQuiet_nil rfl
  refine MK.can_mk 1 24 _ rfl rfl rfl rfl ?m1 fun pA gA => ?m2
  case m1 =>
    intro G' u _ hu
    rw [show (execOp _ _).run Try.prog u = .ok (.enter 25 #[bodyV 0 X Y 0 0 A 0 0 2 0 (.slice (some ⟨b, off, none⟩) n cap)]) u by kernel_rfl]
    exact mk1.out G' u hu
  rw [show valO 1 n 99 n 3 none 1 pA gA = outV pA 0 n gA n n from rfl]
  simp only [Act.put, List.setIfInBounds_toArray, List.set_cons_succ, List.set_cons_zero]
  refine MK.can_mk 3 26 _ rfl rfl rfl rfl ?m5 fun bb ce => ?m6
  case m5 =>
    intro G' u ha hu
    rw [show (execOp _ _).run Try.prog u = .ok (.enter 24 #[outV pA 0 n gA n n, bodyV 0 X2 Y2 0 0 A2 0 0 1 R2 (.slice none 0 0)]) u by kernel_rfl]
    have e1 : G' 1 = some (pA, gA) := (ha 1 (by simp)).trans (by unfold MK.upd; simp)
    exact mkt.out pA gA G' u e1 hu
  clear mk1 mkt
  rw [show valO 1 n 99 n 3 none 3 bb ce = .tuple #[tchV 0 0 none 0 0, .bool false] from rfl]
  simp only [Act.put, List.setIfInBounds_toArray, List.set_cons_succ, List.set_cons_zero]
  refine MK.can_class (rest := []) [4, 5] [] 49 (alO_lasts _ _ _ _ _ _ _ _) (MK.any_class _) (by kernel_rfl) rfl (by kernel_rfl) (by kernel_rfl) ?_
  apply Exists.intro
  refine ⟨?q3, ?q4⟩
  case q3 =>
    intro Ty hT fw hf _
    change wpQuiet _ _ _ _ [_, _] _
    repeat (go_big_quiet_step (fail))
    exact wpQuiet_nil rfl
  intro w9 hu
  have qt : (MK.upd (MK.upd (fun _ => none) 1 (pA, gA)) 3 (bb, ce)) 3 = some (bb, ce) := by unfold MK.upd; simp
  obtain ⟨lbb, lbb9, hans⟩ := hu.2.1 3 _ qt
  have k9 := hu.1
  have o0 := k9.reads o0
  have o1 := k9.reads o1
  have o2 := k9.reads o2
  have of_ : ∀ i, w9.frozen? ⟨w.heap.size + 1 + 1, i, none⟩ = false := fun i => (k9.2 _).trans (of_ i)
  have M9 : Hid (Made w.heap.size w w9) := M3.out.then_ (k9.low M3.out.1.size)
  have lo9 : w.heap.size + 1 + 1 < w9.heap.size := World.block_lt_of_cell? _ _ o0
  have lcw : w.heap.size ≤ w3.heap.size := M3.out.1.size
  have lob : w.heap.size + 1 + 1 < bb := by simp only [] at lbb; omega
  have bne : bb ≠ w.heap.size + 1 + 1 := by omega
  clear hans
  simp only [List.drop_succ_cons, List.drop_zero]
  clear k9 hu qt HA HB a0 a1 a2 a3 a4 a5 a6 a7 a8 a9 a10 c0 c1 c2 c3 c4 c5 c6 c7 c8 c9 c10
  go_wp2_with fail
  refine NoPanic.normal ?_
  go_wp2_with fail
  refine bodyPost_ret (v := .tuple #[tchV 0 0 none 0 0, .bool false]) (by simp [results, Try.results11, go_sem, o0, o1, o2]) rfl (touchq_none (by simp; omega) ?_)
  exact ((M9.out.put (by simp; try omega) _).put (by simp; try omega) _).put (by simp; try omega) _

set_option maxRecDepth 100000 in
set_option maxHeartbeats 4000000 in
theorem tof_pcs (X Y A X2 Y2 A2 R2 : Int) (b off n cap : Nat) (f P : Cs) (w : World) (iX : I64 X) (iY : I64 Y) (iA : I64 A) (iX2 : I64 X2) (iY2 : I64 Y2) (iA2 : I64 A2) (iR2 : I64 R2) (hn3 : 3 ≤ n) (h8 : n ≤ 8) (hp : Pts w b off n f) (hi : Cin f n) (hP : placeF f (cs (stepF A)) (sn (stepF A)) X Y = P) (t : Tch) (et : mixedF P n (X2, Y2) R2 = some t) :
    Calls Try.prog 11 #[bodyV 0 X Y 0 0 A 0 0 2 0 (.slice (some ⟨b, off, none⟩) n cap), bodyV 0 X2 Y2 0 0 A2 0 0 1 R2 (.slice none 0 0)] w (TouchQ (some t) w) := by
  have HPt := hid hp
  have HPl := hid (fun w hp => tplace_is X Y A b off n cap f w iX iY iA hn3 h8 hp hi P hP)
  have IP : Hid (Cin P n) := fun i _ => by rw [← hP]; exact ⟨i64_add _ _, i64_add _ _⟩
  clear hp hi hP
  obtain ⟨tx, ty, l⟩ := t
  have HC := hid (fun p g w ho => tpc_is X2 Y2 A2 R2 p 0 n g n n P w hn3 h8 iX2 iY2 iR2 ho IP.out _ et)
  clear et
  go_enter Try.func11, Try.ntmps11
  go_upto_region 1 with fail
  obtain ⟨W0, eW⟩ : ∃ W, W = ((w.alloc (.cells #[.int .i64 0, .int .i64 X, .int .i64 Y, .int .i64 0, .int .i64 0, .int .i64 A, .int .i64 0, .int .i64 0, .int .i64 2, .int .i64 0, .slice (some ⟨b, off, none⟩) n cap] 34)).alloc (.cells #[.int .i64 0, .int .i64 X2, .int .i64 Y2, .int .i64 0, .int .i64 0, .int .i64 A2, .int .i64 0, .int .i64 0, .int .i64 1, .int .i64 R2, .slice none 0 0] 34)).alloc (.cells #[.int .i64 0, .int .i64 0, .slice none 0 0] 38) := ⟨_, rfl⟩
  have M0 : Hid (Made w.heap.size w W0) := by unfold Hid; rw [eW]; exact (((Made.rfl_ _ _).cells (Nat.le_refl _) _ _).cells (by simp) _ _).cells (by simp; omega) _ _
  have HA : Has W0 (w.heap.size) 34 #[.int .i64 0, .int .i64 X, .int .i64 Y, .int .i64 0, .int .i64 0, .int .i64 A, .int .i64 0, .int .i64 0, .int .i64 2, .int .i64 0, .slice (some ⟨b, off, none⟩) n cap] := by rw [eW]; exact ((has_new _ _ _).more _).more _
  have HB : Has W0 (w.heap.size + 1) 34 #[.int .i64 0, .int .i64 X2, .int .i64 Y2, .int .i64 0, .int .i64 0, .int .i64 A2, .int .i64 0, .int .i64 0, .int .i64 1, .int .i64 R2, .slice none 0 0] := by rw [eW]; exact (has_next _ _ _ _).more _
  obtain ⟨a0, a1, a2, a3, a4, a5, a6, a7, a8, a9, a10⟩ := HA.c11
  obtain ⟨c0, c1, c2, c3, c4, c5, c6, c7, c8, c9, c10⟩ := HB.c11
  have o0 : W0.cell? ⟨w.heap.size + 1 + 1, 0, none⟩ = some (.int .i64 0) := by rw [eW]; go_simp
  have o1 : W0.cell? ⟨w.heap.size + 1 + 1, 1, none⟩ = some (.int .i64 0) := by rw [eW]; go_simp
  have o2 : W0.cell? ⟨w.heap.size + 1 + 1, 2, none⟩ = some (.slice none 0 0) := by rw [eW]; go_simp
  have of_ : ∀ i, W0.frozen? ⟨w.heap.size + 1 + 1, i, none⟩ = false := fun i => by rw [eW]; go_simp
  rw [← eW]
  clear eW
  go_wp2_with fail
  refine (tround_is X Y A 2 (0) (.slice (some ⟨b, off, none⟩) n cap) false (by decide) _).mono ?_
  rintro e w1 ⟨rfl, k1⟩
  have HA := HA.stays k1 HA.here
  have HB := HB.stays k1 HB.here
  obtain ⟨a0, a1, a2, a3, a4, a5, a6, a7, a8, a9, a10⟩ := HA.c11
  obtain ⟨c0, c1, c2, c3, c4, c5, c6, c7, c8, c9, c10⟩ := HB.c11
  have o0 := k1.reads o0
  have o1 := k1.reads o1
  have o2 := k1.reads o2
  have of_ : ∀ i, w1.frozen? ⟨w.heap.size + 1 + 1, i, none⟩ = false := fun i => (k1.2 _).trans (of_ i)
  have M1 : Hid (Made w.heap.size w w1) := M0.out.then_ (k1.low M0.out.1.size)
  clear k1
  go_wp2_with fail
  refine (tround_is X2 Y2 A2 1 (R2) (.slice none 0 0) true (by decide) _).mono ?_
  rintro e w3 ⟨rfl, k1⟩
  have HA := HA.stays k1 HA.here
  have HB := HB.stays k1 HB.here
  obtain ⟨a0, a1, a2, a3, a4, a5, a6, a7, a8, a9, a10⟩ := HA.c11
  obtain ⟨c0, c1, c2, c3, c4, c5, c6, c7, c8, c9, c10⟩ := HB.c11
  have o0 := k1.reads o0
  have o1 := k1.reads o1
  have o2 := k1.reads o2
  have of_ : ∀ i, w3.frozen? ⟨w.heap.size + 1 + 1, i, none⟩ = false := fun i => (k1.2 _).trans (of_ i)
  have M3 : Hid (Made w.heap.size w w3) := M1.out.then_ (k1.low M1.out.1.size)
  clear k1
  have HPt : Hid (Pts w3 b off n f) := HPt.out.kept M3.out
  have loc : w.heap.size + 1 + 1 < w3.heap.size := World.block_lt_of_cell? _ _ o0
  go_upto_region 4 with fail
  have mk1 : Hid (∀ (G : Nat → Option (Nat × Nat)) (u : World), MK.Cm w3 (alO 1 n P 99 n P 3 (some ⟨tx, ty, l⟩)) G u → MK.MkUpon Try.prog w3 (alO 1 n P 99 n P 3 (some ⟨tx, ty, l⟩)) (valO 1 n 99 n 3 (some ⟨tx, ty, l⟩)) 1 G (.ok (.enter 25 #[bodyV 0 X Y 0 0 A 0 0 2 0 (.slice (some ⟨b, off, none⟩) n cap)]) u)) := by
    intro G u hu
    refine (HPl.out u (HPt.out.kept hu.1)).mono ?_
    rintro e u' ⟨p, g, rfl, hpn, ho, kk⟩
    exact ⟨p, g, rfl, hu.next (alO_lasts _ _ _ _ _ _ _ _) kk hpn (ho.1.here (by omega)) ho⟩
  have mkt : Hid (∀ (pA gA : Nat) (G : Nat → Option (Nat × Nat)) (u : World), G 1 = some (pA, gA) → MK.Cm w3 (alO 1 n P 99 n P 3 (some ⟨tx, ty, l⟩)) G u → MK.MkUpon Try.prog w3 (alO 1 n P 99 n P 3 (some ⟨tx, ty, l⟩)) (valO 1 n 99 n 3 (some ⟨tx, ty, l⟩)) 3 G (.ok (.enter 24 #[outV pA 0 n gA n n, bodyV 0 X2 Y2 0 0 A2 0 0 1 R2 (.slice none 0 0)]) u)) := by
    intro pA gA G u e1 hu
    have h1 : OutAt u pA 0 gA n P := (hu.2.1 1 _ e1).2.2
    refine (HC.out pA gA u h1).mono ?_
    intro e u' hT
    obtain ⟨gg, cc, rfl, hg1, hg2, hp, kk⟩ := hT.ans
    exact ⟨gg, cc, rfl, hu.next (alO_lasts _ _ _ _ _ _ _ _) kk hg1 hg2 hp⟩
  refine MK.reg_mk (alO 1 n P 99 n P 3 (some ⟨tx, ty, l⟩)) 6 [0, 2, 1, 3, 4, 5] [0, 2, 4, 5] [1, 3] [5] (fun i => if i = 3 then [1] else []) (val := valO 1 n 99 n 3 (some ⟨tx, ty, l⟩)) (by kernel_rfl) (by kernel_rfl) ?hpu ?_
  case hpu => intro p hp o ho; simp at hp; subst hp; cases ho; exact extract_pure rfl
  refine MK.can_class (rest := [1, 3, 4, 5]) [0, 2] [] 49 (alO_lasts _ _ _ _ _ _ _ _) (MK.any_class _) (by kernel_rfl) rfl (by kernel_rfl) (by kernel_rfl) ?_
  apply Exists.intro
  refine ⟨?q1, ?q2⟩
  case q1 =>
    intro Ty hT fw hf _
    have a0 := Class.reads hf a0
    have a1 := Class.reads hf a1
    have a2 := Class.reads hf a2
    have a3 := Class.reads hf a3
    have a4 := Class.reads hf a4
    have a5 := Class.reads hf a5
    have a6 := Class.reads hf a6
    have a7 := Class.reads hf a7
    have a8 := Class.reads hf a8
    have a9 := Class.reads hf a9
    have a10 := Class.reads hf a10
    have c0 := Class.reads hf c0
    have c1 := Class.reads hf c1
    have c2 := Class.reads hf c2
    have c3 := Class.reads hf c3
    have c4 := Class.reads hf c4
    have c5 := Class.reads hf c5
    have c6 := Class.reads hf c6
    have c7 := Class.reads hf c7
    have c8 := Class.reads hf c8
    have c9 := Class.reads hf c9
    have c10 := Class.reads hf c10
    change wpQuiet _ _ _ _ [_, _] _
    repeat (go_big_quiet_step (fail))
    exact wpQuiet_nil rfl
  refine MK.can_mk 1 24 _ rfl rfl rfl rfl ?m1 fun pA gA => ?m2
  case m1 =>
    intro G' u _ hu
    rw [show (execOp _ _).run Try.prog u = .ok (.enter 25 #[bodyV 0 X Y 0 0 A 0 0 2 0 (.slice (some ⟨b, off, none⟩) n cap)]) u by kernel_rfl]
    exact mk1.out G' u hu
  rw [show valO 1 n 99 n 3 (some ⟨tx, ty, l⟩) 1 pA gA = outV pA 0 n gA n n from rfl]
  simp only [Act.put, List.setIfInBounds_toArray, List.set_cons_succ, List.set_cons_zero]
  refine MK.can_mk 3 26 _ rfl rfl rfl rfl ?m5 fun bb ce => ?m6
  case m5 =>
    intro G' u ha hu
    rw [show (execOp _ _).run Try.prog u = .ok (.enter 24 #[outV pA 0 n gA n n, bodyV 0 X2 Y2 0 0 A2 0 0 1 R2 (.slice none 0 0)]) u by kernel_rfl]
    have e1 : G' 1 = some (pA, gA) := (ha 1 (by simp)).trans (by unfold MK.upd; simp)
    exact mkt.out pA gA G' u e1 hu
  clear mk1 mkt
  rw [show valO 1 n 99 n 3 (some ⟨tx, ty, l⟩) 3 bb ce = .tuple #[tchV tx ty (some ⟨bb, 0, none⟩) l.length ce, .bool true] from rfl]
  simp only [Act.put, List.setIfInBounds_toArray, List.set_cons_succ, List.set_cons_zero]
  refine MK.can_class (rest := []) [4, 5] [] 49 (alO_lasts _ _ _ _ _ _ _ _) (MK.any_class _) (by kernel_rfl) rfl (by kernel_rfl) (by kernel_rfl) ?_
  apply Exists.intro
  refine ⟨?q3, ?q4⟩
  case q3 =>
    intro Ty hT fw hf _
    change wpQuiet _ _ _ _ [_, _] _
    repeat (go_big_quiet_step (fail))
    exact wpQuiet_nil rfl
  intro w9 hu
  have qt : (MK.upd (MK.upd (fun _ => none) 1 (pA, gA)) 3 (bb, ce)) 3 = some (bb, ce) := by unfold MK.upd; simp
  obtain ⟨lbb, lbb9, hans⟩ := hu.2.1 3 _ qt
  have k9 := hu.1
  have o0 := k9.reads o0
  have o1 := k9.reads o1
  have o2 := k9.reads o2
  have of_ : ∀ i, w9.frozen? ⟨w.heap.size + 1 + 1, i, none⟩ = false := fun i => (k9.2 _).trans (of_ i)
  have M9 : Hid (Made w.heap.size w w9) := M3.out.then_ (k9.low M3.out.1.size)
  have lo9 : w.heap.size + 1 + 1 < w9.heap.size := World.block_lt_of_cell? _ _ o0
  have lcw : w.heap.size ≤ w3.heap.size := M3.out.1.size
  have lob : w.heap.size + 1 + 1 < bb := by simp only [] at lbb; omega
  have bne : bb ≠ w.heap.size + 1 + 1 := by omega
  have hans : 0 < l.length ∧ PtsT w9 (some ⟨bb, 0, none⟩) l := hans
  obtain ⟨hl, hpt⟩ := hans
  have HPp := hid hpt
  clear hpt
  simp only [List.drop_succ_cons, List.drop_zero]
  clear k9 hu qt HA HB a0 a1 a2 a3 a4 a5 a6 a7 a8 a9 a10 c0 c1 c2 c3 c4 c5 c6 c7 c8 c9 c10
  go_wp2_with fail
  refine NoPanic.normal ?_
  go_wp2_with fail
  refine bodyPost_ret (v := .tuple #[tchV tx ty (some ⟨bb, 0, none⟩) l.length ce, .bool true]) (by simp [results, Try.results11, go_sem, o0, o1, o2]) rfl ⟨bb, ce, by omega, rfl, hl, ?_, ?_⟩
  · exact HPp.out.putO bne _ _ _
  · exact ((M9.out.put (by simp; try omega) _).put (by simp; try omega) _).put (by simp; try omega) _
end Go.Proofs.Ytmfkcdinfahjlaa.Fx
