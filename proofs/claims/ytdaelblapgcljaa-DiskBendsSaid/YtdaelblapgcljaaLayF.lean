/- The sort's and the clone's contracts laid at this seat's numbers, in plain words. -/
import Derived.Shelf.SlLaysE0
import Derived.Test.YtdaelblapgcljaaProg
namespace Go.Proofs.Ytdaelblapgcljaa
open Go.Shelf
def Fx.layCG_ren : Go.Shelf.Ren := ⟨fun | 41 => 47 | n => n, fun | 22 => 60 | 23 => 89 | 4 => 4 | n => n, fun | n => n⟩
theorem Fx.layCG : Go.Proofs.SlLaysE0.n41 Try.prog Fx.layCG_ren := {
  mixed := by kernel_rfl
  f41 := ⟨Try.f47.name, by decide, Try.func47.trans (congrArg some (by kernel_rfl))⟩
  t4 := Try.underlying4
  a4 := Try.isAgg4
  z4 := Try.sizeOf4
  v4 := Try.zeroValue4
  t22 := Try.underlying60
  a22 := Try.isAgg60
  z22 := Try.sizeOf60
  v22 := Try.zeroValue60 }
end Go.Proofs.Ytdaelblapgcljaa
