/- The walks of layer 6, whole, out of what package box answers. -/
import Derived.Test.YtpladcnckhpjmaaBoxO
import Derived.Test.YtpladcnckhpjmaaBoxB
import Derived.Test.YtpladcnckhpjmaaBoxC
import Derived.Test.YtpladcnckhpjmaaBoxE
import Derived.Test.YtpladcnckhpjmaaBoxF
import Derived.Test.YtpladcnckhpjmaaBoxG
import Derived.Test.YtpladcnckhpjmaaBoxI
import Derived.Test.YtpladcnckhpjmaaArr
namespace Go.Proofs.Ytpladcnckhpjmaa.Fx
open Go.ChangeShapes Go.WideShapes Go.ChangeAt Go.RowKit
set_option linter.unusedVariables false

theorem U8_wf {a : Int} (h : (Lit.int .u8 a).wf = true) : 0 ≤ a ∧ a ≤ 255 := bounds_u8 h
theorem bbodies_walk (BS : BoxSays) (a b c d x y an : Int) (w : World) (ix : I64 x) (iy : I64 y) :
    Calls Try.prog 3 #[placeV a b c d x y an] w fun e w' => e = .returned (.bool true) ∧ Made w.heap.size w w' := by
  rcases seed_det a b c d with ⟨R, h⟩ | ⟨n, gx, gy, gk, h⟩
  · exact bbodies_circle BS h x y an w ix iy
  · exact bbodies_poly BS h x y an w ix iy
theorem bturns_walk (BS : BoxSays) (a b c d x y an q : Int) (w : World) (ix : I64 x) (iy : I64 y) (hq : 0 ≤ q ∧ q ≤ 255) :
    Calls Try.prog 5 #[placeV a b c d x y an, .int .u8 q] w fun e w' => e = .returned (.bool true) ∧ Made w.heap.size w w' := by
  rcases seed_det a b c d with ⟨R, h⟩ | ⟨n, gx, gy, gk, h⟩
  · exact bturns_circle BS h x y an q w ix iy hq
  · rcases (show q % 4 = 0 ∨ q % 4 = 2 ∨ (q % 4 = 1 ∨ q % 4 = 3) by omega) with hr | hr | hr
    · exact bturns_zero BS h x y an q w ix iy hq hr
    · exact bturns_half BS h x y an q w ix iy hq hr
    · exact bturns_odd BS h x y an q w ix iy hq hr
theorem breaches_walk (BS : BoxSays) (a b c d x y an bx b_y : Int) (w : World) (ix : I64 x) (iy : I64 y) (ibx : I64 bx) (iby : I64 b_y) :
    Calls Try.prog 6 #[placeV a b c d x y an, vecV bx b_y] w fun e w' => e = .returned (.bool true) ∧ Made w.heap.size w w' := by
  rcases seed_det a b c d with ⟨R, h⟩ | ⟨n, gx, gy, gk, h⟩
  · exact breaches_circle BS h x y an bx b_y w ix iy ibx iby
  · exact breaches_poly BS h x y an bx b_y w ix iy ibx iby
end Go.Proofs.Ytpladcnckhpjmaa.Fx
