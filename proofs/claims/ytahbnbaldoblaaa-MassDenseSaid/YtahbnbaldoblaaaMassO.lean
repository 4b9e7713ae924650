/- MassDense: the walk. -/
import Derived.Test.YtahbnbaldoblaaaMassL
import Derived.Test.YtahbnbaldoblaaaFlb
namespace Go.Proofs.Ytahbnbaldoblaaa.Fx
open Go.ChangeShapes Go.WideShapes Go.ChangeAt Go.RowKit
set_option linter.unusedVariables false

theorem alc_M {d : Tmp} {ty : TypeId} {ps : String} {af : Array Edge} : Alc Try.prog { dst := some d, op := .alloc 31, type := ty, pos := ps, after := af, guard := none } d 31 #[.int .i64 0, .int .i64 0, .int .i64 0, .int .i64 0] :=
  ⟨rfl, rfl, fun a w => by kernel_rfl⟩
theorem and41 (x : Int) : bits .and .i64 x 2199023255551 = x % 2199023255552 := and_low x 41 (by omega)
theorem massOf_pos {d A B M I V S : Int} (h : 0 < d) (hM : massF d A = M) (hI : massF d B = I) (hV : divF 4294967296 M = V) (hS : divF 4294967296 I = S) : massOf d A B = massV M I V S := by
  unfold massOf massF at *
  rw [if_neg (by omega), hM, hI, hV, hS]

set_option maxRecDepth 100000 in
set_option maxHeartbeats 4000000 in
theorem mdense_walk (a b c d x : Int) (w : World) :
    Calls Try.prog 6 #[seedV a b c d, .int .i64 x] w fun e w' => e = .returned (.bool true) ∧ Below w.heap.size w w' := by
  have MS := hid mass_says
  have aX := and41 x
  obtain ⟨y, ey⟩ : ∃ y, x % 2199023255552 = y := ⟨_, rfl⟩
  have y0 : 0 ≤ y := by omega
  have y1 : y ≤ 2199023255551 := by omega
  rw [ey] at aX
  clear ey
  obtain ⟨D, eD⟩ : ∃ D, 1 + y = D := ⟨_, rfl⟩
  have D0 : 1 ≤ D := by omega
  have D1 : D ≤ 2199023255552 := by omega
  have iD : I64 D := by unfold I64; omega
  have i2D : I64 (2 * D) := by unfold I64; omega
  go_enter Try.func6, Try.ntmps6
  go_wp2_with fail
  refine (fit_is MS.out _).mono ?_
  rintro e w1 ⟨rfl, k1⟩
  have r0 := Below.reads k1 (p := ⟨w.heap.size, 0, none⟩) (x := .int .i64 a) (by go_simp)
  have r1 := Below.reads k1 (p := ⟨w.heap.size, 1, none⟩) (x := .int .i64 b) (by go_simp)
  have r2 := Below.reads k1 (p := ⟨w.heap.size, 2, none⟩) (x := .int .i64 c) (by go_simp)
  have r3 := Below.reads k1 (p := ⟨w.heap.size, 3, none⟩) (x := .int .i64 d) (by go_simp)
  have K1 : Hid (Below w.heap.size w w1) := ((Below.refl _ w).alloc (Nat.le_refl _) _).trans (k1.mono (by simp))
  clear k1
  go_wp2_with fail
  refine (seed_says a b c d _).mono ?_
  rintro e w2 ⟨K, R, ao, n, cap, A, B, rfl, hs, iA, iB, A0, A1, B0, hm⟩
  have K2 : Hid (Below w.heap.size w w2) := K1.out.trans (hm.1.mono K1.out.size)
  have HS := hid hs
  clear hs hm
  obtain ⟨M1, eM1⟩ : ∃ z, massF D A = z := ⟨_, rfl⟩
  obtain ⟨M2, eM2⟩ : ∃ z, massF (2 * D) A = z := ⟨_, rfl⟩
  obtain ⟨I1, eI1⟩ : ∃ z, massF D B = z := ⟨_, rfl⟩
  obtain ⟨I2, eI2⟩ : ∃ z, massF (2 * D) B = z := ⟨_, rfl⟩
  obtain ⟨V1, eV1⟩ : ∃ z, divF 4294967296 M1 = z := ⟨_, rfl⟩
  obtain ⟨V2, eV2⟩ : ∃ z, divF 4294967296 M2 = z := ⟨_, rfl⟩
  obtain ⟨S1, eS1⟩ : ∃ z, divF 4294967296 I1 = z := ⟨_, rfl⟩
  obtain ⟨S2, eS2⟩ : ∃ z, divF 4294967296 I2 = z := ⟨_, rfl⟩
  obtain ⟨m1, m2, m3, m4⟩ := dense_mass D0 D1 A0 A1
  have n1 := dense_round (d := D) (B := B) D0 D1 B0 (by unfold I64 at iB; unfold Rg; omega)
  obtain ⟨p1, p2⟩ := mass_pos D A
  obtain ⟨p3, p4⟩ := mass_pos (2 * D) A
  obtain ⟨q1, q2⟩ := mass_pos D B
  obtain ⟨q3, q4⟩ := mass_pos (2 * D) B
  rw [eM1] at m1 m2 m3 p1 p2
  rw [eM2] at m1 m2 m3 m4 p3 p4
  rw [eI1] at n1 q1 q2
  rw [eI2] at n1 q3 q4
  have v1 := move_less (by omega) m3 p4
  have v2 := move_less (by omega) n1 q4
  rw [eV1, eV2] at v1
  rw [eS1, eS2] at v2
  have E1 := hid (massOf_pos (by omega) eM1 eI1 eV1 eS1)
  have E2 := hid (massOf_pos (by omega) eM2 eI2 eV2 eS2)
  clear eM1 eM2 eI1 eI2 eV1 eV2 eS1 eS2 p2 p4 q2 q4
  have d1 : decide (M2 ≤ 2 * M1 + 1) = true := by simpa using m1
  have d2 : decide (2 * M1 - 1 ≤ M2 + 1) = true := by simpa using m2
  have d3 : decide (V2 ≤ V1) = true := by simpa using v1
  have d4 : decide (S2 ≤ S1) = true := by simpa using v2
  have d5 : decide (I1 ≤ I2) = true := by simpa using n1
  go_wp2_with fail
  obtain ⟨W, eW⟩ : ∃ W, W = w2.alloc (.cells #[.int .i64 K, .int .i64 R, .slice ao n cap] 28) := ⟨_, rfl⟩
  have kW : Below w2.heap.size w2 W := by rw [eW]; exact (Below.refl _ _).alloc (Nat.le_refl _) _
  have hT : Has W w2.heap.size 28 #[.int .i64 K, .int .i64 R, .slice ao n cap] := by rw [eW]; exact has_new _ _ _
  have HS := hid (HS.out.on kW)
  have KW : Hid (Below w.heap.size w W) := K2.out.trans (kW.mono K2.out.size)
  rw [← eW]
  have s0 := hT.at_ 0
  have s1 := hT.at_ 1
  have s2 := hT.at_ 2
  clear eW kW hT
  refine FB.reg_float2 9 62 6 7 31 31 #[.int .i64 0, .int .i64 0, .int .i64 0, .int .i64 0] #[.int .i64 0, .int .i64 0, .int .i64 0, .int .i64 0] _ _ (by kernel_rfl) (by kernel_rfl) (by kernel_rfl) rfl rfl alc_M alc_M ?_
  apply Exists.intro
  refine ⟨?h1, ?h2⟩
  case h1 =>
    intro T hT fw hf
    have z0 := hf.reads s0
    have z1 := hf.reads s1
    have z2 := hf.reads s2
    have HZ := hid (fun t => hf.below (x := t) (HS.out.of D _ iD (hf.1 t)))
    have HY := hid (fun t => hf.below (x := t) (HS.out.of (2 * D) _ i2D (hf.1 t)))
    rw [E1.out] at HZ
    rw [E2.out] at HY
    simp only [List.take_succ_cons, List.take_zero]
    repeat (go_big_quiet_step ((go_at_call 9; with_reducible first | exact HZ.out _ | exact HY.out _)))
    exact wpQuiet_nil rfl
  intro g g' w3 k3 hg hg' hne hh hh'
  have K3 : Hid (Below w.heap.size w w3) := KW.out.trans (k3.mono KW.out.size)
  have hgw : w.heap.size ≤ g := Nat.le_trans KW.out.size hg
  have hgw' : w.heap.size ≤ g' := Nat.le_trans KW.out.size hg'
  have z0 := hh.at_ 0
  have z1 := hh.at_ 1
  have z2 := hh.at_ 2
  have z3 := hh.at_ 3
  have y0 := hh'.at_ 0
  have y1 := hh'.at_ 1
  have y2 := hh'.at_ 2
  have y3 := hh'.at_ 3
  simp at z0 z1 z2 z3 y0 y1 y2 y3
  have zf : ∀ i, w3.frozen? ⟨g, i, none⟩ = false := fun i => hh.free i
  have yf : ∀ i, w3.frozen? ⟨g', i, none⟩ = false := fun i => hh'.free i
  have HH := hid hh
  have HH' := hid hh'
  clear k3 hh hh'
  simp only [List.drop_succ_cons, List.drop_zero]
  go_wp2_with fail
  go_ret
  refine ⟨rfl, ?_⟩
  exact (((((((K3.out.setCell (p := ⟨g, 0, none⟩) hgw _).setCell (p := ⟨g, 1, none⟩) hgw _).setCell (p := ⟨g, 2, none⟩) hgw _).setCell (p := ⟨g, 3, none⟩) hgw _).setCell (p := ⟨g', 0, none⟩) hgw' _).setCell (p := ⟨g', 1, none⟩) hgw' _).setCell (p := ⟨g', 2, none⟩) hgw' _).setCell (p := ⟨g', 3, none⟩) hgw' _
end Go.Proofs.Ytahbnbaldoblaaa.Fx
