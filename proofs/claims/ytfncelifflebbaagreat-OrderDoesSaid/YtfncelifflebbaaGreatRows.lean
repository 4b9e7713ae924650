/-
  No cell of these rows narrows 'for every input' (looked for: loops, veiled, ifaces, maps, wideKeys, modest, calm, conditions, laid).
  DERIVED. THE GIVEN ROWS OF THIS SEAT. 5 by the template 'for every input the law returns true; each argument reads behind the call as it read before'; 0 by the template 'total and deterministic' (their statements: YtfncelifflebbaaGreatTotals.lean).
  GIVEN WITH THE SEED: the statements are not yours to turn. If you find one false, say at which input.
  Laid BY PROGRAM, IN A SANDBOX (cutbox-rows.mjs): the forced cells as the released guide's own fill.sh prints them over the translation 7b41e0eba27f97cf… (all of the seat's roots in one cut). By AI agents, Wed Nov 11 2026. No macro, syntax, notation, axiom, sorry.
-/
import Derived.Test.YtfncelifflebbaaGreatChecked
import GoSem.Claim
import GoSem.ClaimJoined
import GoSem.ClaimMapViews
import Derived.JoinedTies
import Derived.KernelRfl
namespace Go.Proofs.YtfncelifflebbaaGreat
/- THE CELL 'sum', in the pinned program and in every row, IS THE sha256 OF THE DUMP (.gsa) THAT YtfncelifflebbaaGreatProg.lean LOADS. Nothing in Lean hashes anything: it is a label: what it is worth is what the hold of that sum in a sandbox is worth. -/
noncomputable def Tryz.pinned : Pinned := { name := "ytfncelifflebbaagreat", sum := "7b41e0eba27f97cf513526f036e845e31ef35ba19272867b38b37ad83826bd40", checked := Tryz.checked }
namespace Rows
def none {H : Type} : Left H := { results := [], args := [] }

/-- 'bagatellelaw10.OrderRights': WHATEVER THE INPUT: true; the input reads as it did. -/
def orderRightsSpec : ChangeSpec := { name := "orderRights", fn := fun _ => fun
  | [d1, d2, d3] => { results := [.lit (.bool true)], args := [d1, d2, d3] }
  | _ => none }
def orderRightsRow : OpenClaim := { program := "ytfncelifflebbaagreat", sum := "7b41e0eba27f97cf513526f036e845e31ef35ba19272867b38b37ad83826bd40", func := "bagatelle/bagatellelaw10.OrderRights", spec := "orderRights", unfollowed := true, recurses := true, named := ["math/bits.divideError", "math/bits.overflowError"], apart := false }
def OrderRightsSaid : Prop := orderRightsRow.holds Tryz.pinned (OpenSpec.ofChange orderRightsSpec)

/-- ITS FALSE NEIGHBOUR: 'it returns false'. Refute it at one input. -/
def orderRightsWrong : ChangeSpec := { name := "orderRights", fn := fun _ => fun
  | [d1, d2, d3] => { results := [.lit (.bool false)], args := [d1, d2, d3] }
  | _ => none }
def OrderRightsWrongFalsely : Prop := orderRightsRow.holds Tryz.pinned (OpenSpec.ofChange orderRightsWrong)

/-- 'bagatellelaw10.OrderDoes': WHATEVER THE INPUT: true; the input reads as it did. -/
def orderDoesSpec : ChangeSpec := { name := "orderDoes", fn := fun _ => fun
  | [d1, d2] => { results := [.lit (.bool true)], args := [d1, d2] }
  | _ => none }
def orderDoesRow : OpenClaim := { program := "ytfncelifflebbaagreat", sum := "7b41e0eba27f97cf513526f036e845e31ef35ba19272867b38b37ad83826bd40", func := "bagatelle/bagatellelaw10.OrderDoes", spec := "orderDoes", unfollowed := true, recurses := true, named := ["math/bits.divideError", "math/bits.overflowError"], apart := false }
def OrderDoesSaid : Prop := orderDoesRow.holds Tryz.pinned (OpenSpec.ofChange orderDoesSpec)

/-- ITS FALSE NEIGHBOUR: 'it returns false'. Refute it at one input. -/
def orderDoesWrong : ChangeSpec := { name := "orderDoes", fn := fun _ => fun
  | [d1, d2] => { results := [.lit (.bool false)], args := [d1, d2] }
  | _ => none }
def OrderDoesWrongFalsely : Prop := orderDoesRow.holds Tryz.pinned (OpenSpec.ofChange orderDoesWrong)

/-- 'bagatellelaw10.OrderAlls': WHATEVER THE INPUT: true; the input reads as it did. -/
def orderAllsSpec : ChangeSpec := { name := "orderAlls", fn := fun _ => fun
  | [d1, d2, d3] => { results := [.lit (.bool true)], args := [d1, d2, d3] }
  | _ => none }
def orderAllsRow : OpenClaim := { program := "ytfncelifflebbaagreat", sum := "7b41e0eba27f97cf513526f036e845e31ef35ba19272867b38b37ad83826bd40", func := "bagatelle/bagatellelaw10.OrderAlls", spec := "orderAlls", unfollowed := true, recurses := true, named := ["math/bits.divideError", "math/bits.overflowError"], apart := false }
def OrderAllsSaid : Prop := orderAllsRow.holds Tryz.pinned (OpenSpec.ofChange orderAllsSpec)

/-- ITS FALSE NEIGHBOUR: 'it returns false'. Refute it at one input. -/
def orderAllsWrong : ChangeSpec := { name := "orderAlls", fn := fun _ => fun
  | [d1, d2, d3] => { results := [.lit (.bool false)], args := [d1, d2, d3] }
  | _ => none }
def OrderAllsWrongFalsely : Prop := orderAllsRow.holds Tryz.pinned (OpenSpec.ofChange orderAllsWrong)

/-- 'bagatellelaw10.OrderFulls': WHATEVER THE INPUT: true; the input reads as it did. -/
def orderFullsSpec : ChangeSpec := { name := "orderFulls", fn := fun _ => fun
  | [d1, d2] => { results := [.lit (.bool true)], args := [d1, d2] }
  | _ => none }
def orderFullsRow : OpenClaim := { program := "ytfncelifflebbaagreat", sum := "7b41e0eba27f97cf513526f036e845e31ef35ba19272867b38b37ad83826bd40", func := "bagatelle/bagatellelaw10.OrderFulls", spec := "orderFulls", unfollowed := true, recurses := true, named := ["math/bits.divideError", "math/bits.overflowError"], apart := false }
def OrderFullsSaid : Prop := orderFullsRow.holds Tryz.pinned (OpenSpec.ofChange orderFullsSpec)

/-- ITS FALSE NEIGHBOUR: 'it returns false'. Refute it at one input. -/
def orderFullsWrong : ChangeSpec := { name := "orderFulls", fn := fun _ => fun
  | [d1, d2] => { results := [.lit (.bool false)], args := [d1, d2] }
  | _ => none }
def OrderFullsWrongFalsely : Prop := orderFullsRow.holds Tryz.pinned (OpenSpec.ofChange orderFullsWrong)

/-- 'bagatellelaw10.OrderSames': WHATEVER THE INPUT: true; the input reads as it did. -/
def orderSamesSpec : ChangeSpec := { name := "orderSames", fn := fun _ => fun
  | [d1, d2, d3] => { results := [.lit (.bool true)], args := [d1, d2, d3] }
  | _ => none }
def orderSamesRow : OpenClaim := { program := "ytfncelifflebbaagreat", sum := "7b41e0eba27f97cf513526f036e845e31ef35ba19272867b38b37ad83826bd40", func := "bagatelle/bagatellelaw10.OrderSames", spec := "orderSames", unfollowed := true, recurses := true, named := ["math/bits.divideError", "math/bits.overflowError"], apart := false }
def OrderSamesSaid : Prop := orderSamesRow.holds Tryz.pinned (OpenSpec.ofChange orderSamesSpec)

/-- ITS FALSE NEIGHBOUR: 'it returns false'. Refute it at one input. -/
def orderSamesWrong : ChangeSpec := { name := "orderSames", fn := fun _ => fun
  | [d1, d2, d3] => { results := [.lit (.bool false)], args := [d1, d2, d3] }
  | _ => none }
def OrderSamesWrongFalsely : Prop := orderSamesRow.holds Tryz.pinned (OpenSpec.ofChange orderSamesWrong)

/- THE SECOND FORM. 'bulk': how many values and letters a reading holds, each counted each time it is reached (what is shared counts as often as it is met; a slice's spare places count too). A statement '..UptoSaid' is the law's where the arguments, and the package variables that the reading takes, are together of bulk at most 1048576: NARROWER than '..Said'. Prove '..Said' where nothing that the law and all that it calls make is longer than what came in: it says more and counts as full. Else prove '..UptoSaid'. A law counts once. -/
mutual
def uptoBulk {H : Type} : DataW H → Nat
  | .lit (.string bytes) => bytes.length + 1
  | .lit _ => 1
  | .nil => 1
  | .ptr d => uptoBulk d + 1
  | .slice elems spare => uptoBulkAll elems + uptoBulkAll spare + 1
  | .agg parts => uptoBulkAll parts + 1
  | .iface _ d => uptoBulk d + 1
  | .map entries => uptoBulkEntries entries + 1
  | .held _ => 1
def uptoBulkAll {H : Type} : List (DataW H) → Nat
  | [] => 0
  | d :: r => uptoBulk d + uptoBulkAll r
def uptoBulkEntries {H : Type} : List (Lit × DataW H) → Nat
  | [] => 0
  | x :: r => uptoBulkEntry x + uptoBulkEntries r
def uptoBulkEntry {H : Type} : Lit × DataW H → Nat
  | (.string bytes, d) => bytes.length + uptoBulk d + 1
  | (_, d) => uptoBulk d + 1
 end
def uptoSmall : (H : Type) → List (DataW H) → Bool := fun _ ds => decide (uptoBulkAll ds ≤ 1048576)
def OpenSpec.upto (s : _root_.Go.ChangeSpec) : _root_.Go.OpenSpec := { _root_.Go.OpenSpec.ofChange s with cond := some uptoSmall }

/-- 'bagatellelaw10.OrderRights', WHERE WHAT IT READS IS OF BULK AT MOST 1048576: true; the input reads as it did. -/
def orderRightsUptoRow : OpenClaim := { program := "ytfncelifflebbaagreat", sum := "7b41e0eba27f97cf513526f036e845e31ef35ba19272867b38b37ad83826bd40", func := "bagatelle/bagatellelaw10.OrderRights", spec := "orderRights", unfollowed := true, recurses := true, named := ["math/bits.divideError", "math/bits.overflowError"], apart := false, narrowed := true }
def OrderRightsUptoSaid : Prop := orderRightsUptoRow.holds Tryz.pinned (OpenSpec.upto orderRightsSpec)

/-- 'bagatellelaw10.OrderDoes', WHERE WHAT IT READS IS OF BULK AT MOST 1048576: true; the input reads as it did. -/
def orderDoesUptoRow : OpenClaim := { program := "ytfncelifflebbaagreat", sum := "7b41e0eba27f97cf513526f036e845e31ef35ba19272867b38b37ad83826bd40", func := "bagatelle/bagatellelaw10.OrderDoes", spec := "orderDoes", unfollowed := true, recurses := true, named := ["math/bits.divideError", "math/bits.overflowError"], apart := false, narrowed := true }
def OrderDoesUptoSaid : Prop := orderDoesUptoRow.holds Tryz.pinned (OpenSpec.upto orderDoesSpec)

/-- 'bagatellelaw10.OrderAlls', WHERE WHAT IT READS IS OF BULK AT MOST 1048576: true; the input reads as it did. -/
def orderAllsUptoRow : OpenClaim := { program := "ytfncelifflebbaagreat", sum := "7b41e0eba27f97cf513526f036e845e31ef35ba19272867b38b37ad83826bd40", func := "bagatelle/bagatellelaw10.OrderAlls", spec := "orderAlls", unfollowed := true, recurses := true, named := ["math/bits.divideError", "math/bits.overflowError"], apart := false, narrowed := true }
def OrderAllsUptoSaid : Prop := orderAllsUptoRow.holds Tryz.pinned (OpenSpec.upto orderAllsSpec)

/-- 'bagatellelaw10.OrderFulls', WHERE WHAT IT READS IS OF BULK AT MOST 1048576: true; the input reads as it did. -/
def orderFullsUptoRow : OpenClaim := { program := "ytfncelifflebbaagreat", sum := "7b41e0eba27f97cf513526f036e845e31ef35ba19272867b38b37ad83826bd40", func := "bagatelle/bagatellelaw10.OrderFulls", spec := "orderFulls", unfollowed := true, recurses := true, named := ["math/bits.divideError", "math/bits.overflowError"], apart := false, narrowed := true }
def OrderFullsUptoSaid : Prop := orderFullsUptoRow.holds Tryz.pinned (OpenSpec.upto orderFullsSpec)

/-- 'bagatellelaw10.OrderSames', WHERE WHAT IT READS IS OF BULK AT MOST 1048576: true; the input reads as it did. -/
def orderSamesUptoRow : OpenClaim := { program := "ytfncelifflebbaagreat", sum := "7b41e0eba27f97cf513526f036e845e31ef35ba19272867b38b37ad83826bd40", func := "bagatelle/bagatellelaw10.OrderSames", spec := "orderSames", unfollowed := true, recurses := true, named := ["math/bits.divideError", "math/bits.overflowError"], apart := false, narrowed := true }
def OrderSamesUptoSaid : Prop := orderSamesUptoRow.holds Tryz.pinned (OpenSpec.upto orderSamesSpec)

end Rows
end Go.Proofs.YtfncelifflebbaaGreat
