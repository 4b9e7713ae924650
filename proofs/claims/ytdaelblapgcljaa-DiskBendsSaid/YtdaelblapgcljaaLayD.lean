/- The sort's and the clone's contracts laid at this seat's numbers, in plain words. -/
import Derived.Shelf.SlMaps.Clone
import Derived.Test.YtdaelblapgcljaaProg
namespace Go.Proofs.Ytdaelblapgcljaa
open Go.Shelf
def Fx.layMC_ren : Go.Shelf.Ren := ⟨fun | 5 => 46 | 7 => 63 | n => n, fun | 23 => 58 | 25 => 9 | 3 => 3 | 4 => 4 | 20 => 20 | n => n, fun | n => n⟩
theorem Fx.layMC : Go.Proofs.SlLaysW.n5 Try.prog Fx.layMC_ren := {
  mixed := by kernel_rfl
  f5 := ⟨Try.f46.name, by decide, Try.func46.trans (congrArg some (by kernel_rfl))⟩
  f7 := Try.func63.trans (congrArg some (by kernel_rfl))
  t4 := Try.underlying4
  a4 := Try.isAgg4
  z4 := Try.sizeOf4
  v4 := Try.zeroValue4
  t20 := Try.underlying20
  a20 := Try.isAgg20
  z20 := Try.sizeOf20
  v20 := Try.zeroValue20
  t23 := Try.underlying58
  a23 := Try.isAgg58
  z23 := Try.sizeOf58
  v23 := Try.zeroValue58 }
end Go.Proofs.Ytdaelblapgcljaa
