/- Layer 14: the anchor; PackCounts. -/
import Derived.Test.YtecfnimpakmiaaaPaC
import Derived.Test.YtecfnimpakmiaaaCrO
namespace Go.Proofs.Ytecfnimpakmiaaa.Fx
open Go.ChangeShapes Go.WideShapes Go.ChangeAt Go.RowKit
set_option linter.unusedVariables false

def fitF : Nat → Nat := joinB (fun _ => 0) (byteZ 258) 0
theorem fitF_lt (i : Nat) : fitF i < 256 := by unfold fitF joinB; split; omega; exact byteZ_lt _ _
theorem fit_str : strB fitF 2 = ⟨#[2, 1]⟩ := by decide +kernel
theorem fit_val : valI fitF 2 = 258 := by rw [valI_two _ fitF_lt]; decide +kernel
set_option maxRecDepth 100000 in
set_option maxHeartbeats 4000000 in
theorem pfit_c {w : World} : Calls Try.prog 6 #[] w fun e w' => e = .returned (.bool true) ∧ Made w.heap.size w w' := by
  have M1 : Hid (Made w.heap.size w (w.alloc (.cells #[Value.slice none 0 0] 37))) := (Made.rfl_ _ _).cells (Nat.le_refl _) _ _
  have W1 := hid (Wr.new w (fun _ => 0) 37)
  go_enter Try.func6, Try.ntmps6
  go_wp2_with fail
  refine (pnum_c (m := 2) (X := 258) W1.out (by omega) (by omega) (by omega) (by omega)).mono ?_
  rintro e w1 ⟨rfl, hW, hM⟩
  have HW : Hid (Wr w1 w.heap.size 2 fitF) := hW
  have HM := hid (M1.out.then_ hM)
  clear hW hM
  go_wp2_with fail
  refine (pbytes_c HW.out (by omega)).mono ?_
  rintro e w2 ⟨ao, c, rfl, hc, hO, hM⟩
  have HB := hid hO.by_
  have HM2 := hid (HM.out.then_ (hM.low HM.out.1.size))
  clear hO hM hc
  go_wp2_with fail
  refine (pnew_c HB.out (by omega)).mono ?_
  rintro e w3 ⟨pb, ao2, c2, rfl, hp, hR, hM⟩
  have q4 := conv_by (c := c) (HB.out.kept hM)
  rw [fit_str] at q4
  have HR := hid hR
  have HM3 := hid (HM2.out.then_ (hM.low HM2.out.1.size))
  have HP := hid (Nat.le_trans HM2.out.1.size hp)
  clear hR hM hp
  go_wp2_with fail
  refine (rnum_c HR.out fitF_lt (m := 2) (by omega) (by omega) (by omega)).mono ?_
  rintro e w4 ⟨rfl, ⟨ao3, c3, hR⟩, ho⟩
  rw [fit_val]
  have HR2 := hid hR
  have HM4 := hid (On1.made_ HM3.out ho HM3.out.1.size HP.out)
  clear hR ho
  go_wp2_with fail
  refine (rdone_c HR2.out).mono ?_
  rintro e w5 ⟨rfl, rfl⟩
  go_wp2_with fail
  go_ret
  exact ⟨rfl, HM4.out⟩
end Go.Proofs.Ytecfnimpakmiaaa.Fx
