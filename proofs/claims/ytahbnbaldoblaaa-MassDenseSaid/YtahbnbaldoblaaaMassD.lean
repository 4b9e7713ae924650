/- What package mass is to answer, as one premise; the statements' own square. -/
import Derived.Test.YtahbnbaldoblaaaMassC
import Derived.Test.YtahbnbaldoblaaaMassB
import Derived.Test.YtahbnbaldoblaaaShapes
import Derived.Test.YtahbnbaldoblaaaMem
namespace Go.Proofs.Ytahbnbaldoblaaa.Fx
open Go.ChangeShapes Go.WideShapes Go.ChangeAt Go.RowKit
set_option linter.unusedVariables false

/-- a body of density d and shape s -/
abbrev bodyV (i x y vx vy an sp d K R : Int) (s : Value) : Value := .agg #[.int .i64 i, .int .i64 x, .int .i64 y, .int .i64 vx, .int .i64 vy, .int .i64 an, .int .i64 sp, .int .i64 d, .int .i64 K, .int .i64 R, s]
abbrev massV (m i v s : Int) : Value := .agg #[.int .i64 m, .int .i64 i, .int .i64 v, .int .i64 s]
/-- the mass by density d, of area a and round r -/
def massOf (d a r : Int) : Value := if d ≤ 0 then massV 0 0 0 0 else massV (max (mulF d a) 1) (max (mulF d r) 1) (divF 4294967296 (max (mulF d a) 1)) (divF 4294967296 (max (mulF d r) 1))

structure MassSays : Prop where
  area : ∀ (b off n cap : Nat) (f : Cs) (w : World), 0 < n → n ≤ 8 → Pts w b off n f → Cin f n →
    Calls Try.prog 16 #[shapeV 2 0 (.slice (some ⟨b, off, none⟩) n cap)] w fun e w' => e = .returned (.int .i64 (sumT areaT f n n)) ∧ Below w.heap.size w w'
  disc : ∀ (R : Int) (w : World), I64 R →
    Calls Try.prog 16 #[shapeV 1 R (.slice none 0 0)] w fun e w' => e = .returned (.int .i64 (areaC R)) ∧ Below w.heap.size w w'
  round : ∀ (b off n cap : Nat) (f : Cs) (w : World), 0 < n → n ≤ 8 → Pts w b off n f → Cin f n →
    Calls Try.prog 17 #[shapeV 2 0 (.slice (some ⟨b, off, none⟩) n cap)] w fun e w' => e = .returned (.int .i64 (sumT roundT f n n)) ∧ Below w.heap.size w w'
  discRound : ∀ (R : Int) (w : World), I64 R →
    Calls Try.prog 17 #[shapeV 1 R (.slice none 0 0)] w fun e w' => e = .returned (.int .i64 (roundC R)) ∧ Below w.heap.size w w'
  of : ∀ (d : Int) (b off n cap : Nat) (f : Cs) (w : World), I64 d → 0 < n → n ≤ 8 → Pts w b off n f → Cin f n →
    Calls Try.prog 9 #[bodyV 0 0 0 0 0 0 0 d 2 0 (.slice (some ⟨b, off, none⟩) n cap)] w fun e w' => e = .returned (massOf d (sumT areaT f n n) (sumT roundT f n n)) ∧ Below w.heap.size w w'
  ofDisc : ∀ (d R : Int) (w : World), I64 d → I64 R →
    Calls Try.prog 9 #[bodyV 0 0 0 0 0 0 0 d 1 R (.slice none 0 0)] w fun e w' => e = .returned (massOf d (areaC R) (roundC R)) ∧ Below w.heap.size w w'

theorem unit_area : sumT areaT (boxF 4294967296 4294967296) 4 4 = 17179869184 := by kernel_rfl
theorem unit_round : sumT roundT (boxF 4294967296 4294967296) 4 4 = 11453246120 := by kernel_rfl
theorem unit_mass : massOf 4294967296 17179869184 11453246120 = massV 17179869184 11453246120 1073741824 (divF 4294967296 11453246120) := by kernel_rfl

/-- the third field of a mass -/
theorem mass_move (m i v s : Int) (w : World) : Sem.run Try.prog (Instr.field 31 (.agg #[.int .i64 m, .int .i64 i, .int .i64 v, .int .i64 s]) 2) w = .ok (.int .i64 v) w := by kernel_rfl
theorem unit_cin : Cin (boxF 4294967296 4294967296) 4 := fun i hi => by
  have i1 : I64 4294967296 := by unfold I64; omega
  unfold boxF
  exact ⟨by simp only []; split <;> first | exact i1 | exact i64_neg i1, by simp only []; split <;> first | exact i1 | exact i64_neg i1⟩

set_option maxRecDepth 100000 in
set_option maxHeartbeats 1000000 in
theorem fit_is (HS : MassSays) (w : World) : Calls Try.prog 7 #[] w fun e w' => e = .returned (.bool true) ∧ Below w.heap.size w w' := by
  have i1 : I64 4294967296 := by unfold I64; omega
  have i4 : I64 4 := by unfold I64; omega
  have HS := hid HS
  obtain ⟨f, ef⟩ : ∃ f, f = boxF 4294967296 4294967296 := ⟨_, rfl⟩
  have hA : Hid (sumT areaT f 4 4 = 17179869184) := by rw [ef]; exact unit_area
  have hO : Hid (massOf 4294967296 (sumT areaT f 4 4) (sumT roundT f 4 4) = massV 17179869184 11453246120 1073741824 (divF 4294967296 11453246120)) := by rw [ef, unit_area, unit_round]; exact unit_mass
  have hC : Cin f 4 := by rw [ef]; exact unit_cin
  have hF : ∀ i, i < 4 → boxF 4294967296 4294967296 i = f i := fun i _ => by rw [ef]
  have HC := hid hC
  have HF := hid hF
  clear ef hC hF
  obtain ⟨sp, esp⟩ : ∃ sp, divF 4294967296 11453246120 = sp := ⟨_, rfl⟩
  have ESP := hid esp
  clear esp
  go_enter Try.func7, Try.ntmps7
  go_wp2_with fail
  refine (box_is 4294967296 4294967296 _ f i1 i1 HF.out).mono ?_
  rintro e w1 ⟨g, rfl, hg, hr, hm⟩
  have HR := hid hr
  have HM := hid hm
  clear hg hr hm
  go_wp2_with fail
  obtain ⟨W1, eW⟩ : ∃ W1, W1 = w1.alloc (.cells #[.int .i64 2, .int .i64 0, .slice (some ⟨g, 0, none⟩) 4 4] 28) := ⟨_, rfl⟩
  have hT : Has W1 w1.heap.size 28 #[.int .i64 2, .int .i64 0, .slice (some ⟨g, 0, none⟩) 4 4] := by rw [eW]; exact has_new _ _ _
  have hB : Below w.heap.size w W1 := by rw [eW]; exact HM.out.1.alloc HM.out.1.size _
  have hR : Pts W1 g 0 4 f := by rw [eW]; exact HR.out.pts.kept ((Made.rfl_ _ _).cells (Nat.le_refl _) _ _)
  rw [← eW]
  clear eW
  have r0 := hT.at_ 0
  have r1 := hT.at_ 1
  have r2 := hT.at_ 2
  have HB := hid hB
  have HR1 := hid hR
  clear hT hB hR
  go_wp2_with fail
  refine (HS.out.area g 0 4 4 f W1 (by omega) (by omega) HR1.out HC.out).mono ?_
  rw [hA.out]
  rintro e w2 ⟨rfl, k2⟩
  have r0 := Below.reads k2 r0
  have r1 := Below.reads k2 r1
  have r2 := Below.reads k2 r2
  have HR2 : Hid (Pts w2 g 0 4 f) := fun i hi => ⟨Below.reads k2 (HR1.out i hi).1, Below.reads k2 (HR1.out i hi).2⟩
  have K2 := hid k2
  clear k2
  go_wp2_with fail
  refine (of_is 4 17179869184 _ i4 (by kernel_rfl)).mono ?_
  rintro e w' ⟨rfl, rfl⟩
  go_wp2_with fail
  refine (HS.out.of 4294967296 g 0 4 4 f w2 i1 (by omega) (by omega) HR2.out HC.out).mono ?_
  rw [hO.out, ESP.out]
  rintro e w3 ⟨rfl, k3⟩
  have K3 := hid k3
  clear k3
  simp only [massV]
  have u := mass_move 17179869184 11453246120 1073741824 sp
  go_wp2_with fail
  go_ret
  exact ⟨rfl, HB.out.trans ((K2.out.mono HB.out.size).trans (K3.out.mono (Nat.le_trans HB.out.size K2.out.size)))⟩
end Go.Proofs.Ytahbnbaldoblaaa.Fx
