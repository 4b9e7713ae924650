/- MassTurned: copies of a shape without corners; rows over worlds of which only what lay below is known. -/
import Derived.Test.YtahbnbaldoblaaaMassL
import Derived.Test.YtahbnbaldoblaaaMassR
namespace Go.Proofs.Ytahbnbaldoblaaa.Fx
open Go.ChangeShapes Go.WideShapes Go.ChangeAt Go.RowKit
set_option linter.unusedVariables false

theorem Row.below {w v : World} {g B n : Nat} {t : TypeId} {f : Cs} (h : Row w g t n f) (hb : Below B w v) (hg : g < B) : Row v g t n f := by
  obtain ⟨A, hA, hs, hc⟩ := h
  exact ⟨A, hA.below hb hg, hs, hc⟩
set_option maxRecDepth 100000 in
set_option maxHeartbeats 1000000 in
theorem clone_none (w : World) : Calls Try.prog 31 #[.slice none 0 0] w fun e w' => e = .returned (.slice none 0 0) ∧ w = w' := by
  have q := fun W : World => Lib.run_eql_slice_nil (P := Try.prog) W 26 34 none 0 0 0 0 Try.underlying26
  go_enter Try.func31, Try.ntmps31
  go_wp2_with fail
  go_ret
  exact ⟨rfl, rfl⟩
set_option maxRecDepth 100000 in
set_option maxHeartbeats 1000000 in
theorem copy_none (K R : Int) (w : World) :
    Calls Try.prog 14 #[shapeV K R (.slice none 0 0)] w fun e w' => e = .returned (shapeV K R (.slice none 0 0)) ∧ Made w.heap.size w w' := by
  go_enter Try.func14, Try.ntmps14
  go_wp2_with fail
  refine (clone_none _).mono ?_
  rintro e w1 ⟨rfl, rfl⟩
  go_wp2_with fail
  obtain ⟨W, eW⟩ : ∃ W, W = (w.alloc (.cells #[.int .i64 K, .int .i64 R, .slice none 0 0] 28)).alloc (.cells #[.int .i64 K, .int .i64 R, .slice none 0 0] 28) := ⟨_, rfl⟩
  have hH : Has W (w.heap.size + 1) 28 #[.int .i64 K, .int .i64 R, .slice none 0 0] := by rw [eW]; exact has_next _ _ _ _
  have k0 : Made w.heap.size w W := by rw [eW]; exact ((Made.rfl_ _ _).cells (Nat.le_refl _) _ _).cells (by simp) _ _
  rw [← eW]
  have r0 := hH.at_ 0
  have r1 := hH.at_ 1
  have r2 := hH.at_ 2
  exact bodyPost_ret (v := shapeV K R (.slice none 0 0)) (by simp [results, Try.results14, go_sem, r0, r1, r2]) rfl ⟨rfl, k0⟩
end Go.Proofs.Ytahbnbaldoblaaa.Fx
