/-
  No cell of these rows narrows 'for every input' (looked for: loops, veiled, ifaces, maps, wideKeys, modest, calm, conditions, laid).
  DERIVED. THE GIVEN ROWS OF THIS SEAT. 4 by the template 'for every input the law returns true; each argument reads behind the call as it read before'; 0 by the template 'total and deterministic' (their statements: YtgdcphmmehedoaaGreatTotals.lean).
  GIVEN WITH THE SEED: the statements are not yours to turn. If you find one false, say at which input.
  Laid BY PROGRAM, IN A SANDBOX (cutbox-rows.mjs): the forced cells as the released guide's own fill.sh prints them over the translation 0c77163e50817ffa… (all of the seat's roots in one cut). By AI agents, Wed Nov 11 2026. No macro, syntax, notation, axiom, sorry.
-/
import Derived.Test.YtgdcphmmehedoaaGreatChecked
import GoSem.Claim
import GoSem.ClaimJoined
import GoSem.ClaimMapViews
import Derived.JoinedTies
import Derived.KernelRfl
namespace Go.Proofs.YtgdcphmmehedoaaGreat
/- THE CELL 'sum', in the pinned program and in every row, IS THE sha256 OF THE DUMP (.gsa) THAT YtgdcphmmehedoaaGreatProg.lean LOADS. Nothing in Lean hashes anything: it is a label: what it is worth is what the hold of that sum in a sandbox is worth. -/
noncomputable def Tryz.pinned : Pinned := { name := "ytgdcphmmehedoaagreat", sum := "0c77163e50817ffa33d574944578617232bc36da51ee02fb55e3e078fd7190e7", checked := Tryz.checked }
namespace Rows
def none {H : Type} : Left H := { results := [], args := [] }

/-- 'bagatellelaw15.CodecBatches': WHATEVER THE INPUT: true; the input reads as it did. -/
def codecBatchesSpec : ChangeSpec := { name := "codecBatches", fn := fun _ => fun
  | [d] => { results := [.lit (.bool true)], args := [d] }
  | _ => none }
def codecBatchesRow : OpenClaim := { program := "ytgdcphmmehedoaagreat", sum := "0c77163e50817ffa33d574944578617232bc36da51ee02fb55e3e078fd7190e7", func := "bagatelle/bagatellelaw15.CodecBatches", spec := "codecBatches", unfollowed := true, recurses := true, apart := false }
def CodecBatchesSaid : Prop := codecBatchesRow.holds Tryz.pinned (OpenSpec.ofChange codecBatchesSpec)

/-- ITS FALSE NEIGHBOUR: 'it returns false'. Refute it at one input. -/
def codecBatchesWrong : ChangeSpec := { name := "codecBatches", fn := fun _ => fun
  | [d] => { results := [.lit (.bool false)], args := [d] }
  | _ => none }
def CodecBatchesWrongFalsely : Prop := codecBatchesRow.holds Tryz.pinned (OpenSpec.ofChange codecBatchesWrong)

/-- 'bagatellelaw15.CodecAny': WHATEVER THE INPUT: true; the input reads as it did. -/
def codecAnySpec : ChangeSpec := { name := "codecAny", fn := fun _ => fun
  | [d] => { results := [.lit (.bool true)], args := [d] }
  | _ => none }
def codecAnyRow : OpenClaim := { program := "ytgdcphmmehedoaagreat", sum := "0c77163e50817ffa33d574944578617232bc36da51ee02fb55e3e078fd7190e7", func := "bagatelle/bagatellelaw15.CodecAny", spec := "codecAny", unfollowed := true, recurses := true, apart := false }
def CodecAnySaid : Prop := codecAnyRow.holds Tryz.pinned (OpenSpec.ofChange codecAnySpec)

/-- ITS FALSE NEIGHBOUR: 'it returns false'. Refute it at one input. -/
def codecAnyWrong : ChangeSpec := { name := "codecAny", fn := fun _ => fun
  | [d] => { results := [.lit (.bool false)], args := [d] }
  | _ => none }
def CodecAnyWrongFalsely : Prop := codecAnyRow.holds Tryz.pinned (OpenSpec.ofChange codecAnyWrong)

/-- 'bagatellelaw15.CodecApart': WHATEVER THE INPUT: true; the input reads as it did. -/
def codecApartSpec : ChangeSpec := { name := "codecApart", fn := fun _ => fun
  | [d1, d2, d3] => { results := [.lit (.bool true)], args := [d1, d2, d3] }
  | _ => none }
def codecApartRow : OpenClaim := { program := "ytgdcphmmehedoaagreat", sum := "0c77163e50817ffa33d574944578617232bc36da51ee02fb55e3e078fd7190e7", func := "bagatelle/bagatellelaw15.CodecApart", spec := "codecApart", unfollowed := true, recurses := true, apart := false }
def CodecApartSaid : Prop := codecApartRow.holds Tryz.pinned (OpenSpec.ofChange codecApartSpec)

/-- ITS FALSE NEIGHBOUR: 'it returns false'. Refute it at one input. -/
def codecApartWrong : ChangeSpec := { name := "codecApart", fn := fun _ => fun
  | [d1, d2, d3] => { results := [.lit (.bool false)], args := [d1, d2, d3] }
  | _ => none }
def CodecApartWrongFalsely : Prop := codecApartRow.holds Tryz.pinned (OpenSpec.ofChange codecApartWrong)

/-- 'bagatellelaw15.CodecCounts': WHATEVER THE INPUT: true; the input reads as it did. -/
def codecCountsSpec : ChangeSpec := { name := "codecCounts", fn := fun _ => fun
  | [d1, d2] => { results := [.lit (.bool true)], args := [d1, d2] }
  | _ => none }
def codecCountsRow : OpenClaim := { program := "ytgdcphmmehedoaagreat", sum := "0c77163e50817ffa33d574944578617232bc36da51ee02fb55e3e078fd7190e7", func := "bagatelle/bagatellelaw15.CodecCounts", spec := "codecCounts", unfollowed := true, recurses := true, apart := false }
def CodecCountsSaid : Prop := codecCountsRow.holds Tryz.pinned (OpenSpec.ofChange codecCountsSpec)

/-- ITS FALSE NEIGHBOUR: 'it returns false'. Refute it at one input. -/
def codecCountsWrong : ChangeSpec := { name := "codecCounts", fn := fun _ => fun
  | [d1, d2] => { results := [.lit (.bool false)], args := [d1, d2] }
  | _ => none }
def CodecCountsWrongFalsely : Prop := codecCountsRow.holds Tryz.pinned (OpenSpec.ofChange codecCountsWrong)

/- THE SECOND FORM. 'bulk': how many values and letters a reading holds, each counted each time it is reached (what is shared counts as often as it is met; a slice's spare places count too). A statement '..UptoSaid' is the law's where the arguments, and the package variables that the reading takes, are together of bulk at most 1048576: NARROWER than '..Said'. Prove '..Said' where nothing that the law and all that it calls make is longer than what came in: it says more and counts as full. Else prove '..UptoSaid'. A law counts once. -/
mutual
def uptoBulk {H : Type} : DataW H → Nat
  | .lit (.string bytes) => bytes.length + 1
  | .lit _ => 1
  | .nil => 1
  | .ptr d => uptoBulk d + 1
  | .slice elems spare => uptoBulkAll elems + uptoBulkAll spare + 1
  | .agg parts => uptoBulkAll parts + 1
  | .iface _ d => uptoBulk d + 1
  | .map entries => uptoBulkEntries entries + 1
  | .held _ => 1
def uptoBulkAll {H : Type} : List (DataW H) → Nat
  | [] => 0
  | d :: r => uptoBulk d + uptoBulkAll r
def uptoBulkEntries {H : Type} : List (Lit × DataW H) → Nat
  | [] => 0
  | x :: r => uptoBulkEntry x + uptoBulkEntries r
def uptoBulkEntry {H : Type} : Lit × DataW H → Nat
  | (.string bytes, d) => bytes.length + uptoBulk d + 1
  | (_, d) => uptoBulk d + 1
 end
def uptoSmall : (H : Type) → List (DataW H) → Bool := fun _ ds => decide (uptoBulkAll ds ≤ 1048576)
def OpenSpec.upto (s : _root_.Go.ChangeSpec) : _root_.Go.OpenSpec := { _root_.Go.OpenSpec.ofChange s with cond := some uptoSmall }

/-- 'bagatellelaw15.CodecBatches', WHERE WHAT IT READS IS OF BULK AT MOST 1048576: true; the input reads as it did. -/
def codecBatchesUptoRow : OpenClaim := { program := "ytgdcphmmehedoaagreat", sum := "0c77163e50817ffa33d574944578617232bc36da51ee02fb55e3e078fd7190e7", func := "bagatelle/bagatellelaw15.CodecBatches", spec := "codecBatches", unfollowed := true, recurses := true, apart := false, narrowed := true }
def CodecBatchesUptoSaid : Prop := codecBatchesUptoRow.holds Tryz.pinned (OpenSpec.upto codecBatchesSpec)

/-- 'bagatellelaw15.CodecAny', WHERE WHAT IT READS IS OF BULK AT MOST 1048576: true; the input reads as it did. -/
def codecAnyUptoRow : OpenClaim := { program := "ytgdcphmmehedoaagreat", sum := "0c77163e50817ffa33d574944578617232bc36da51ee02fb55e3e078fd7190e7", func := "bagatelle/bagatellelaw15.CodecAny", spec := "codecAny", unfollowed := true, recurses := true, apart := false, narrowed := true }
def CodecAnyUptoSaid : Prop := codecAnyUptoRow.holds Tryz.pinned (OpenSpec.upto codecAnySpec)

/-- 'bagatellelaw15.CodecApart', WHERE WHAT IT READS IS OF BULK AT MOST 1048576: true; the input reads as it did. -/
def codecApartUptoRow : OpenClaim := { program := "ytgdcphmmehedoaagreat", sum := "0c77163e50817ffa33d574944578617232bc36da51ee02fb55e3e078fd7190e7", func := "bagatelle/bagatellelaw15.CodecApart", spec := "codecApart", unfollowed := true, recurses := true, apart := false, narrowed := true }
def CodecApartUptoSaid : Prop := codecApartUptoRow.holds Tryz.pinned (OpenSpec.upto codecApartSpec)

/-- 'bagatellelaw15.CodecCounts', WHERE WHAT IT READS IS OF BULK AT MOST 1048576: true; the input reads as it did. -/
def codecCountsUptoRow : OpenClaim := { program := "ytgdcphmmehedoaagreat", sum := "0c77163e50817ffa33d574944578617232bc36da51ee02fb55e3e078fd7190e7", func := "bagatelle/bagatellelaw15.CodecCounts", spec := "codecCounts", unfollowed := true, recurses := true, apart := false, narrowed := true }
def CodecCountsUptoSaid : Prop := codecCountsUptoRow.holds Tryz.pinned (OpenSpec.upto codecCountsSpec)

end Rows
end Go.Proofs.YtgdcphmmehedoaaGreat
