/- MassBoxes: the walk. -/
import Derived.Test.YtahbnbaldoblaaaMassJ
import Derived.Test.YtahbnbaldoblaaaShapeI
namespace Go.Proofs.Ytahbnbaldoblaaa.Fx
open Go.ChangeShapes Go.WideShapes Go.ChangeAt Go.RowKit
set_option linter.unusedVariables false

def U16 (a : Int) : Prop := 0 ≤ a ∧ a ≤ 65535
theorem U16_wf {a : Int} (h : (Lit.int .u16 a).wf = true) : U16 a := bounds_u16 h
set_option maxRecDepth 100000 in
set_option maxHeartbeats 4000000 in
theorem mboxes_walk (x y : Int) (w : World) (hx : U16 x) (hy : U16 y) :
    Calls Try.prog 5 #[.int .u16 x, .int .u16 y] w fun e w' => e = .returned (.bool true) ∧ Below w.heap.size w w' := by
  obtain ⟨hx0, hx1⟩ := hx
  obtain ⟨hy0, hy1⟩ := hy
  have MS := hid mass_says
  obtain ⟨A, eA⟩ : ∃ A, x * 1048576 + 16777216 = A := ⟨_, rfl⟩
  obtain ⟨B, eB⟩ : ∃ B, y * 1048576 + 16777216 = B := ⟨_, rfl⟩
  have A0 : 0 ≤ A := by omega
  have A1 : A ≤ 137438953472 := by omega
  have B0 : 0 ≤ B := by omega
  have B1 : B ≤ 137438953472 := by omega
  have iA : I64 A := by unfold I64; omega
  have iB : I64 B := by unfold I64; omega
  have i2A : I64 (2 * A) := by unfold I64; omega
  have i2B : I64 (2 * B) := by unfold I64; omega
  obtain ⟨f, ef⟩ : ∃ f, f = boxF A B := ⟨_, rfl⟩
  have nA : negF A = -A := negR (by unfold Rg; omega)
  have nB : negF B = -B := negR (by unfold Rg; omega)
  have f0 : f 0 = (-A, -B) := by rw [ef]; unfold boxF; simp [nA, nB]
  have f1 : f 1 = (A, -B) := by rw [ef]; unfold boxF; simp [nB]
  have f2 : f 2 = (A, B) := by rw [ef]; unfold boxF; simp
  have f3 : f 3 = (-A, B) := by rw [ef]; unfold boxF; simp [nA]
  obtain ⟨m, em, m1, m2, m3, m4⟩ := box_area A0 A1 B0 B1 f0 f1 f2 f3
  obtain ⟨r, er⟩ : ∃ r, 4 * m = r := ⟨_, rfl⟩
  obtain ⟨p, ep⟩ : ∃ p, mulF (2 * A) (2 * B) = p := ⟨_, rfl⟩
  rw [er] at em m1 m2
  rw [ep] at m1 m2
  have r0 : 0 ≤ r := by omega
  have r1 : r ≤ 17592186044416 := by omega
  obtain ⟨D, eD⟩ : ∃ D, r - p = D := ⟨_, rfl⟩
  have iD : I64 D := by unfold I64; omega
  have wD : wrap64 D = D := by unfold wrap64; omega
  obtain ⟨E, eE⟩ : ∃ E, absF D = E := ⟨_, rfl⟩
  have hE : decide (64 < E) = false := by
    have : E ≤ 3 := by rw [← eE]; unfold absF negF cl; (repeat' split) <;> omega
    simp
    omega
  obtain ⟨c1, c2, c3, c4, c5⟩ := circle_between A0 A1
  obtain ⟨a, ea⟩ : ∃ a, areaC A = a := ⟨_, rfl⟩
  obtain ⟨o, eo⟩ : ∃ o, roundC A = o := ⟨_, rfl⟩
  obtain ⟨q, eq⟩ : ∃ q, mulF (2 * A) (2 * A) = q := ⟨_, rfl⟩
  obtain ⟨s, es⟩ : ∃ s, mulF A A = s := ⟨_, rfl⟩
  obtain ⟨t, et⟩ : ∃ t, mulF a s = t := ⟨_, rfl⟩
  rw [ea, eq] at c1
  rw [ea, es] at c2
  rw [eo, ea, es, et] at c3
  rw [es] at c4 c5
  have ia : I64 a := by rw [← ea]; exact i64_mul _ _
  have is : I64 s := by rw [← es]; exact i64_mul _ _
  have d1 : decide (a ≤ q) = true := by simp; omega
  have d2 : decide (2 * s ≤ a) = true := by simp; omega
  have d3 : decide (o ≤ t) = true := by simp; omega
  have HC : Hid (Cin f 4) := by rw [ef]; exact box_i64 iA iB
  have HF : Hid (∀ i, i < 4 → boxF A B i = f i) := fun i _ => by rw [ef]
  have EM := hid em
  have EP := hid ep
  have EE := hid eE
  have EA := hid ea
  have EO := hid eo
  have EQ := hid eq
  have ES := hid es
  have ET := hid et
  clear em ep eE ea eo eq es et ef nA nB f0 f1 f2 f3 er m1 m2 m3 m4 c1 c2 c3
  go_enter Try.func5, Try.ntmps5
  go_wp2_with fail
  refine (fit_is MS.out _).mono ?_
  rintro e w1 ⟨rfl, k1⟩
  have K1 := hid k1
  clear k1
  go_wp2_with fail
  refine (box_is A B _ f iA iB HF.out).mono ?_
  rintro e w2 ⟨g, rfl, hg, hr, hm⟩
  have P2 := hid hr.pts
  have K2 : Hid (Below w.heap.size w w2) := K1.out.trans (hm.1.mono K1.out.size)
  clear hg hr hm
  go_wp2_with fail
  obtain ⟨W1, eW⟩ : ∃ W1, W1 = w2.alloc (.cells #[.int .i64 2, .int .i64 0, .slice (some ⟨g, 0, none⟩) 4 4] 28) := ⟨_, rfl⟩
  have hT : Has W1 w2.heap.size 28 #[.int .i64 2, .int .i64 0, .slice (some ⟨g, 0, none⟩) 4 4] := by rw [eW]; exact has_new _ _ _
  have hB : Below w.heap.size w W1 := by rw [eW]; exact K2.out.alloc K2.out.size _
  have hR : Pts W1 g 0 4 f := by rw [eW]; exact P2.out.kept ((Made.rfl_ _ _).cells (Nat.le_refl _) _ _)
  rw [← eW]
  clear eW
  have r0 := hT.at_ 0
  have r1 := hT.at_ 1
  have r2 := hT.at_ 2
  have HB := hid hB
  have HR1 := hid hR
  clear hT hB hR
  go_wp2_with fail
  refine (MS.out.area g 0 4 4 f W1 (by omega) (by omega) HR1.out HC.out).mono ?_
  rw [EM.out]
  rintro e w3 ⟨rfl, k3⟩
  have K3 : Hid (Below w.heap.size w w3) := HB.out.trans (k3.mono HB.out.size)
  clear k3
  go_wp2_with fail
  refine (mul_is _ _ p _ i2A i2B EP.out).mono ?_
  rintro e w' ⟨rfl, rfl⟩
  go_wp2_with fail
  refine (abs_is D E _ iD EE.out).mono ?_
  rintro e w' ⟨rfl, rfl⟩
  go_wp2_with fail
  obtain ⟨W4, eW⟩ : ∃ W4, W4 = w3.alloc (.cells #[.int .i64 1, .int .i64 A, .slice none 0 0] 28) := ⟨_, rfl⟩
  have hT : Has W4 w3.heap.size 28 #[.int .i64 1, .int .i64 A, .slice none 0 0] := by rw [eW]; exact has_new _ _ _
  have K4 : Hid (Below w.heap.size w W4) := by unfold Hid; rw [eW]; exact K3.out.alloc K3.out.size _
  rw [← eW]
  clear eW
  have r0 := hT.at_ 0
  have r1 := hT.at_ 1
  have r2 := hT.at_ 2
  go_wp2_with fail
  refine (MS.out.disc A _ iA).mono ?_
  rw [EA.out]
  rintro e w5 ⟨rfl, k5⟩
  have r0 := Below.reads k5 r0
  have r1 := Below.reads k5 r1
  have r2 := Below.reads k5 r2
  have K5 : Hid (Below w.heap.size w w5) := K4.out.trans (k5.mono K4.out.size)
  clear k5 hT
  go_wp2_with fail
  refine (mul_is _ _ q _ i2A i2A EQ.out).mono ?_
  rintro e w' ⟨rfl, rfl⟩
  go_wp2_with fail
  refine (mul_is _ _ s _ iA iA ES.out).mono ?_
  rintro e w' ⟨rfl, rfl⟩
  go_wp2_with fail
  refine (MS.out.discRound A _ iA).mono ?_
  rw [EO.out]
  rintro e w6 ⟨rfl, k6⟩
  have K6 : Hid (Below w.heap.size w w6) := K5.out.trans (k6.mono K5.out.size)
  clear k6
  go_wp2_with fail
  refine (mul_is _ _ s _ iA iA ES.out).mono ?_
  rintro e w' ⟨rfl, rfl⟩
  go_wp2_with fail
  refine (mul_is _ _ t _ ia is ET.out).mono ?_
  rintro e w' ⟨rfl, rfl⟩
  go_wp2_with fail
  go_ret
  exact ⟨rfl, K6.out⟩
end Go.Proofs.Ytahbnbaldoblaaa.Fx
