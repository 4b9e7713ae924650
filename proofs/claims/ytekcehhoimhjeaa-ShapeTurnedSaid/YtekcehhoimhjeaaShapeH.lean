/- The contract of the statements' anchor. -/
import Derived.Test.YtekcehhoimhjeaaShapeG
import Derived.Test.YtekcehhoimhjeaaShapeE
import Derived.Test.YtekcehhoimhjeaaShapeF
namespace Go.Proofs.Ytekcehhoimhjeaa.Fx
open Go.ChangeShapes Go.WideShapes Go.ChangeAt Go.RowKit
set_option linter.unusedVariables false

set_option maxRecDepth 100000 in
set_option maxHeartbeats 2000000 in
theorem sfit_c (w : World) : Calls Try.prog 8 #[] w fun e w' => e = .returned (.bool true) ∧ Made w.heap.size w w' := by
  have iO : I64 4294967296 := by unfold I64; omega
  have gr := box_grid (a := 16) (b := 16) (by omega) (by omega) (by omega) (by omega)
  have HF : Hid (∀ i, i < 4 → boxF 4294967296 4294967296 i = grid (boxX 16) (boxY 16) 64 i) := fun i hi => by
    have nz : negF 4294967296 = -4294967296 := by decide
    unfold boxF grid boxX boxY
    rw [nz]
    simp only [Prod.mk.injEq]
    constructor <;> split <;> omega
  have GR := hid gr
  have RF : Hid (¬ RightP 2 0 0 (grid (boxX 16) (boxY 16) 64)) := by
    intro h
    rcases h with h | h
    · omega
    · have := h.2.2.1; omega
  have GI := hid (grid_i64 gr)
  clear gr
  go_enter Try.func8, Try.ntmps8
  go_wp2_with fail
  refine (box_is 4294967296 4294967296 _ _ iO iO HF.out).mono ?_
  rintro e w1 ⟨g, rfl, hg, hrow, k1⟩
  have M1 := hid k1
  have R1 := hid hrow
  have hgs := hrow.here
  clear k1 hrow hg
  go_wp2_with fail
  refine (right_poly g 0 4 4 _ _ (by omega) (by omega) (R1.out.more _).pts GI.out true (yes_iff (grid_right GR.out))).mono ?_
  rintro e w2 ⟨rfl, k2⟩
  have c2 := k2.reads (p := ⟨w1.heap.size, 2, none⟩) (x := .slice (some ⟨g, 0, none⟩) 4 4) (by go_simp)
  have M2 : Hid (Made w.heap.size w w2) := M1.out.then_ (made_box k2 |>.low M1.out.1.size)
  have R2 : Hid (Row w2 g 33 4 (grid (boxX 16) (boxY 16) 64)) := (R1.out.more _).kept k2
  clear k2
  go_wp2_with fail
  refine (right_none 2 0 none 0 0 (grid (boxX 16) (boxY 16) 64) _ (by omega) (by omega) false (no_iff RF.out)).mono ?_
  rintro e w3 ⟨rfl, k3⟩
  have M3 : Hid (Made w.heap.size w w3) := M2.out.then_ (k3.low M2.out.1.size)
  have R3 : Hid (Row w3 g 33 4 (grid (boxX 16) (boxY 16) 64)) := R2.out.kept k3
  have c3 := k3.reads c2
  clear k3 c2
  go_wp2_with fail
  refine (reach_circle 5 (.slice none 0 0) _).mono ?_
  rintro e w4 ⟨rfl, k4⟩
  have M4 : Hid (Made w.heap.size w w4) := M3.out.then_ (k4.low M3.out.1.size)
  have R4 : Hid (Row w4 g 33 4 (grid (boxX 16) (boxY 16) 64)) := R3.out.kept k4
  have c4 := k4.reads c3
  clear k4 c3
  go_wp2_with fail
  refine (normals_is g 0 4 4 _ _ (by omega) (by omega) R4.out.pts GI.out).mono ?_
  rintro e w5 ⟨g5, rfl, _, _, k5⟩
  have M5 : Hid (Made w.heap.size w w5) := M4.out.then_ (k5.low M4.out.1.size)
  clear k5
  go_wp2_with fail
  go_ret
  exact ⟨rfl, M5.out⟩
end Go.Proofs.Ytekcehhoimhjeaa.Fx
