/- Area and Round of package mass, of a circle; Of: what a body weighs. -/
import Derived.Test.YtahbnbaldoblaaaMassG
import Derived.Test.YtahbnbaldoblaaaMassD
namespace Go.Proofs.Ytahbnbaldoblaaa.Fx
open Go.ChangeShapes Go.WideShapes Go.ChangeAt Go.RowKit
set_option linter.unusedVariables false

set_option maxRecDepth 100000 in
set_option maxHeartbeats 1000000 in
theorem area_circle (R r : Int) (ao : Option Addr) (n cap : Nat) (w : World) (hR : I64 R) (hr : areaC R = r) :
    Calls Try.prog 16 #[shapeV 1 R (.slice ao n cap)] w fun e w' => e = .returned (.int .i64 r) ∧ Made w.heap.size w w' := by
  obtain ⟨m, em⟩ : ∃ m, mulF R R = m := ⟨_, rfl⟩
  have im : I64 m := by rw [← em]; exact i64_mul _ _
  have iP : I64 13493037705 := by unfold I64; omega
  have EM := hid em
  have ER := hid (show mulF 13493037705 m = r by rw [← hr, ← em]; rfl)
  clear em hr
  go_enter Try.func16, Try.ntmps16
  go_wp2_with fail
  refine (mul_is R R m _ hR hR EM.out).mono ?_
  rintro e w' ⟨rfl, rfl⟩
  go_wp2_with fail
  refine (mul_is _ m r _ iP im ER.out).mono ?_
  rintro e w' ⟨rfl, rfl⟩
  go_wp2_with fail
  go_ret
  exact ⟨rfl, (Made.rfl_ _ _).cells (Nat.le_refl _) _ _⟩

set_option maxRecDepth 100000 in
set_option maxHeartbeats 1000000 in
theorem round_circle (R r : Int) (ao : Option Addr) (n cap : Nat) (w : World) (hR : I64 R) (hr : roundC R = r) :
    Calls Try.prog 17 #[shapeV 1 R (.slice ao n cap)] w fun e w' => e = .returned (.int .i64 r) ∧ Made w.heap.size w w' := by
  obtain ⟨m, em⟩ : ∃ m, mulF R R = m := ⟨_, rfl⟩
  obtain ⟨a, ea⟩ : ∃ a, areaC R = a := ⟨_, rfl⟩
  obtain ⟨p, ep⟩ : ∃ p, mulF a m = p := ⟨_, rfl⟩
  have im : I64 m := by rw [← em]; exact i64_mul _ _
  have ia : I64 a := by rw [← ea]; exact i64_mul _ _
  have ip : I64 p := by rw [← ep]; exact i64_mul _ _
  have iG : I64 8589934592 := by unfold I64; omega
  have i2 : I64 2 := by unfold I64; omega
  have EO := hid (show ofF 2 = 8589934592 by kernel_rfl)
  have ER := hid (show divF p 8589934592 = r by rw [← hr, ← ep, ← ea, ← em]; rfl)
  have EM := hid em
  have EA := hid ea
  have EP := hid ep
  clear em ea ep hr
  go_enter Try.func17, Try.ntmps17
  go_wp2_with fail
  refine reg_made (by kernel_rfl) (by kernel_rfl) ?_
  intro T hT fw hf
  have x0 := Class.reads hf (p := ⟨w.heap.size, 0, none⟩) (u := .int .i64 1) (by go_simp)
  have x1 := Class.reads hf (p := ⟨w.heap.size, 1, none⟩) (u := .int .i64 R) (by go_simp)
  have x2 := Class.reads hf (p := ⟨w.heap.size, 2, none⟩) (u := .slice ao n cap) (by go_simp)
  repeat (go_big_quiet_step ((first | (go_at_call 16; with_reducible exact hf.made (area_circle _ _ _ _ _ _ hR EA.out)) | (go_at_call 21; with_reducible exact hf.same (of_is 2 8589934592 _ i2 EO.out)) | (go_at_call 10; with_reducible first | exact hf.same (mul_is _ _ _ _ hR hR EM.out) | exact hf.same (mul_is _ _ _ _ ia im EP.out)) | (go_at_call 13; with_reducible exact hf.drawn (div_is _ _ _ _ ip iG ER.out)))))
  refine wpQuiet_nil ?_
  intro w3 h3
  have k3 := hf.here h3
  go_wp2_with fail
  go_ret
  exact ⟨rfl, made_box k3⟩
end Go.Proofs.Ytahbnbaldoblaaa.Fx
