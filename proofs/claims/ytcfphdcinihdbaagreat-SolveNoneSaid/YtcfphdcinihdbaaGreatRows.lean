/-
  No cell of these rows narrows 'for every input' (looked for: loops, veiled, ifaces, maps, wideKeys, modest, calm, conditions, laid).
  DERIVED. THE GIVEN ROWS OF THIS SEAT. 6 by the template 'for every input the law returns true; each argument reads behind the call as it read before'; 0 by the template 'total and deterministic' (their statements: YtcfphdcinihdbaaGreatTotals.lean).
  GIVEN WITH THE SEED: the statements are not yours to turn. If you find one false, say at which input.
  Laid BY PROGRAM, IN A SANDBOX (cutbox-rows.mjs): the forced cells as the released guide's own fill.sh prints them over the translation 614edf59992c9aed… (all of the seat's roots in one cut). By AI agents, Wed Nov 11 2026. No macro, syntax, notation, axiom, sorry.
-/
import Derived.Test.YtcfphdcinihdbaaGreatChecked
import GoSem.Claim
import GoSem.ClaimJoined
import GoSem.ClaimMapViews
import Derived.JoinedTies
import Derived.KernelRfl
namespace Go.Proofs.YtcfphdcinihdbaaGreat
/- THE CELL 'sum', in the pinned program and in every row, IS THE sha256 OF THE DUMP (.gsa) THAT YtcfphdcinihdbaaGreatProg.lean LOADS. Nothing in Lean hashes anything: it is a label: what it is worth is what the hold of that sum in a sandbox is worth. -/
noncomputable def Tryz.pinned : Pinned := { name := "ytcfphdcinihdbaagreat", sum := "614edf59992c9aedde5c99854d8b28b9c1da8ad1aff6bfcec53b9ccec09438e2", checked := Tryz.checked }
namespace Rows
def none {H : Type} : Left H := { results := [], args := [] }

/-- 'bagatellelaw11.SolveRows': WHATEVER THE INPUT: true; the input reads as it did. -/
def solveRowsSpec : ChangeSpec := { name := "solveRows", fn := fun _ => fun
  | [d1, d2] => { results := [.lit (.bool true)], args := [d1, d2] }
  | _ => none }
def solveRowsRow : OpenClaim := { program := "ytcfphdcinihdbaagreat", sum := "614edf59992c9aedde5c99854d8b28b9c1da8ad1aff6bfcec53b9ccec09438e2", func := "bagatelle/bagatellelaw11.SolveRows", spec := "solveRows", unfollowed := true, recurses := true, named := ["math/bits.divideError", "math/bits.overflowError"], apart := false }
def SolveRowsSaid : Prop := solveRowsRow.holds Tryz.pinned (OpenSpec.ofChange solveRowsSpec)

/-- ITS FALSE NEIGHBOUR: 'it returns false'. Refute it at one input. -/
def solveRowsWrong : ChangeSpec := { name := "solveRows", fn := fun _ => fun
  | [d1, d2] => { results := [.lit (.bool false)], args := [d1, d2] }
  | _ => none }
def SolveRowsWrongFalsely : Prop := solveRowsRow.holds Tryz.pinned (OpenSpec.ofChange solveRowsWrong)

/-- 'bagatellelaw11.SolveTies': WHATEVER THE INPUT: true; the input reads as it did. -/
def solveTiesSpec : ChangeSpec := { name := "solveTies", fn := fun _ => fun
  | [d] => { results := [.lit (.bool true)], args := [d] }
  | _ => none }
def solveTiesRow : OpenClaim := { program := "ytcfphdcinihdbaagreat", sum := "614edf59992c9aedde5c99854d8b28b9c1da8ad1aff6bfcec53b9ccec09438e2", func := "bagatelle/bagatellelaw11.SolveTies", spec := "solveTies", unfollowed := true, recurses := true, named := ["math/bits.divideError", "math/bits.overflowError"], apart := false }
def SolveTiesSaid : Prop := solveTiesRow.holds Tryz.pinned (OpenSpec.ofChange solveTiesSpec)

/-- ITS FALSE NEIGHBOUR: 'it returns false'. Refute it at one input. -/
def solveTiesWrong : ChangeSpec := { name := "solveTies", fn := fun _ => fun
  | [d] => { results := [.lit (.bool false)], args := [d] }
  | _ => none }
def SolveTiesWrongFalsely : Prop := solveTiesRow.holds Tryz.pinned (OpenSpec.ofChange solveTiesWrong)

/-- 'bagatellelaw11.SolveRounds': WHATEVER THE INPUT: true; the input reads as it did. -/
def solveRoundsSpec : ChangeSpec := { name := "solveRounds", fn := fun _ => fun
  | [d1, d2] => { results := [.lit (.bool true)], args := [d1, d2] }
  | _ => none }
def solveRoundsRow : OpenClaim := { program := "ytcfphdcinihdbaagreat", sum := "614edf59992c9aedde5c99854d8b28b9c1da8ad1aff6bfcec53b9ccec09438e2", func := "bagatelle/bagatellelaw11.SolveRounds", spec := "solveRounds", unfollowed := true, recurses := true, named := ["math/bits.divideError", "math/bits.overflowError"], apart := false }
def SolveRoundsSaid : Prop := solveRoundsRow.holds Tryz.pinned (OpenSpec.ofChange solveRoundsSpec)

/-- ITS FALSE NEIGHBOUR: 'it returns false'. Refute it at one input. -/
def solveRoundsWrong : ChangeSpec := { name := "solveRounds", fn := fun _ => fun
  | [d1, d2] => { results := [.lit (.bool false)], args := [d1, d2] }
  | _ => none }
def SolveRoundsWrongFalsely : Prop := solveRoundsRow.holds Tryz.pinned (OpenSpec.ofChange solveRoundsWrong)

/-- 'bagatellelaw11.SolveStill': WHATEVER THE INPUT: true; the input reads as it did. -/
def solveStillSpec : ChangeSpec := { name := "solveStill", fn := fun _ => fun
  | [d1, d2] => { results := [.lit (.bool true)], args := [d1, d2] }
  | _ => none }
def solveStillRow : OpenClaim := { program := "ytcfphdcinihdbaagreat", sum := "614edf59992c9aedde5c99854d8b28b9c1da8ad1aff6bfcec53b9ccec09438e2", func := "bagatelle/bagatellelaw11.SolveStill", spec := "solveStill", unfollowed := true, recurses := true, named := ["math/bits.divideError", "math/bits.overflowError"], apart := false }
def SolveStillSaid : Prop := solveStillRow.holds Tryz.pinned (OpenSpec.ofChange solveStillSpec)

/-- ITS FALSE NEIGHBOUR: 'it returns false'. Refute it at one input. -/
def solveStillWrong : ChangeSpec := { name := "solveStill", fn := fun _ => fun
  | [d1, d2] => { results := [.lit (.bool false)], args := [d1, d2] }
  | _ => none }
def SolveStillWrongFalsely : Prop := solveStillRow.holds Tryz.pinned (OpenSpec.ofChange solveStillWrong)

/-- 'bagatellelaw11.SolveKeeps': WHATEVER THE INPUT: true; the input reads as it did. -/
def solveKeepsSpec : ChangeSpec := { name := "solveKeeps", fn := fun _ => fun
  | [d1, d2] => { results := [.lit (.bool true)], args := [d1, d2] }
  | _ => none }
def solveKeepsRow : OpenClaim := { program := "ytcfphdcinihdbaagreat", sum := "614edf59992c9aedde5c99854d8b28b9c1da8ad1aff6bfcec53b9ccec09438e2", func := "bagatelle/bagatellelaw11.SolveKeeps", spec := "solveKeeps", unfollowed := true, recurses := true, named := ["math/bits.divideError", "math/bits.overflowError"], apart := false }
def SolveKeepsSaid : Prop := solveKeepsRow.holds Tryz.pinned (OpenSpec.ofChange solveKeepsSpec)

/-- ITS FALSE NEIGHBOUR: 'it returns false'. Refute it at one input. -/
def solveKeepsWrong : ChangeSpec := { name := "solveKeeps", fn := fun _ => fun
  | [d1, d2] => { results := [.lit (.bool false)], args := [d1, d2] }
  | _ => none }
def SolveKeepsWrongFalsely : Prop := solveKeepsRow.holds Tryz.pinned (OpenSpec.ofChange solveKeepsWrong)

/-- 'bagatellelaw11.SolveNone': WHATEVER THE INPUT: true; the input reads as it did. -/
def solveNoneSpec : ChangeSpec := { name := "solveNone", fn := fun _ => fun
  | [d1, d2] => { results := [.lit (.bool true)], args := [d1, d2] }
  | _ => none }
def solveNoneRow : OpenClaim := { program := "ytcfphdcinihdbaagreat", sum := "614edf59992c9aedde5c99854d8b28b9c1da8ad1aff6bfcec53b9ccec09438e2", func := "bagatelle/bagatellelaw11.SolveNone", spec := "solveNone", unfollowed := true, recurses := true, named := ["math/bits.divideError", "math/bits.overflowError"], apart := false }
def SolveNoneSaid : Prop := solveNoneRow.holds Tryz.pinned (OpenSpec.ofChange solveNoneSpec)

/-- ITS FALSE NEIGHBOUR: 'it returns false'. Refute it at one input. -/
def solveNoneWrong : ChangeSpec := { name := "solveNone", fn := fun _ => fun
  | [d1, d2] => { results := [.lit (.bool false)], args := [d1, d2] }
  | _ => none }
def SolveNoneWrongFalsely : Prop := solveNoneRow.holds Tryz.pinned (OpenSpec.ofChange solveNoneWrong)

/- THE SECOND FORM. 'bulk': how many values and letters a reading holds, each counted each time it is reached (what is shared counts as often as it is met; a slice's spare places count too). A statement '..UptoSaid' is the law's where the arguments, and the package variables that the reading takes, are together of bulk at most 1048576: NARROWER than '..Said'. Prove '..Said' where nothing that the law and all that it calls make is longer than what came in: it says more and counts as full. Else prove '..UptoSaid'. A law counts once. -/
mutual
def uptoBulk {H : Type} : DataW H → Nat
  | .lit (.string bytes) => bytes.length + 1
  | .lit _ => 1
  | .nil => 1
  | .ptr d => uptoBulk d + 1
  | .slice elems spare => uptoBulkAll elems + uptoBulkAll spare + 1
  | .agg parts => uptoBulkAll parts + 1
  | .iface _ d => uptoBulk d + 1
  | .map entries => uptoBulkEntries entries + 1
  | .held _ => 1
def uptoBulkAll {H : Type} : List (DataW H) → Nat
  | [] => 0
  | d :: r => uptoBulk d + uptoBulkAll r
def uptoBulkEntries {H : Type} : List (Lit × DataW H) → Nat
  | [] => 0
  | x :: r => uptoBulkEntry x + uptoBulkEntries r
def uptoBulkEntry {H : Type} : Lit × DataW H → Nat
  | (.string bytes, d) => bytes.length + uptoBulk d + 1
  | (_, d) => uptoBulk d + 1
 end
def uptoSmall : (H : Type) → List (DataW H) → Bool := fun _ ds => decide (uptoBulkAll ds ≤ 1048576)
def OpenSpec.upto (s : _root_.Go.ChangeSpec) : _root_.Go.OpenSpec := { _root_.Go.OpenSpec.ofChange s with cond := some uptoSmall }

/-- 'bagatellelaw11.SolveRows', WHERE WHAT IT READS IS OF BULK AT MOST 1048576: true; the input reads as it did. -/
def solveRowsUptoRow : OpenClaim := { program := "ytcfphdcinihdbaagreat", sum := "614edf59992c9aedde5c99854d8b28b9c1da8ad1aff6bfcec53b9ccec09438e2", func := "bagatelle/bagatellelaw11.SolveRows", spec := "solveRows", unfollowed := true, recurses := true, named := ["math/bits.divideError", "math/bits.overflowError"], apart := false, narrowed := true }
def SolveRowsUptoSaid : Prop := solveRowsUptoRow.holds Tryz.pinned (OpenSpec.upto solveRowsSpec)

/-- 'bagatellelaw11.SolveTies', WHERE WHAT IT READS IS OF BULK AT MOST 1048576: true; the input reads as it did. -/
def solveTiesUptoRow : OpenClaim := { program := "ytcfphdcinihdbaagreat", sum := "614edf59992c9aedde5c99854d8b28b9c1da8ad1aff6bfcec53b9ccec09438e2", func := "bagatelle/bagatellelaw11.SolveTies", spec := "solveTies", unfollowed := true, recurses := true, named := ["math/bits.divideError", "math/bits.overflowError"], apart := false, narrowed := true }
def SolveTiesUptoSaid : Prop := solveTiesUptoRow.holds Tryz.pinned (OpenSpec.upto solveTiesSpec)

/-- 'bagatellelaw11.SolveRounds', WHERE WHAT IT READS IS OF BULK AT MOST 1048576: true; the input reads as it did. -/
def solveRoundsUptoRow : OpenClaim := { program := "ytcfphdcinihdbaagreat", sum := "614edf59992c9aedde5c99854d8b28b9c1da8ad1aff6bfcec53b9ccec09438e2", func := "bagatelle/bagatellelaw11.SolveRounds", spec := "solveRounds", unfollowed := true, recurses := true, named := ["math/bits.divideError", "math/bits.overflowError"], apart := false, narrowed := true }
def SolveRoundsUptoSaid : Prop := solveRoundsUptoRow.holds Tryz.pinned (OpenSpec.upto solveRoundsSpec)

/-- 'bagatellelaw11.SolveStill', WHERE WHAT IT READS IS OF BULK AT MOST 1048576: true; the input reads as it did. -/
def solveStillUptoRow : OpenClaim := { program := "ytcfphdcinihdbaagreat", sum := "614edf59992c9aedde5c99854d8b28b9c1da8ad1aff6bfcec53b9ccec09438e2", func := "bagatelle/bagatellelaw11.SolveStill", spec := "solveStill", unfollowed := true, recurses := true, named := ["math/bits.divideError", "math/bits.overflowError"], apart := false, narrowed := true }
def SolveStillUptoSaid : Prop := solveStillUptoRow.holds Tryz.pinned (OpenSpec.upto solveStillSpec)

/-- 'bagatellelaw11.SolveKeeps', WHERE WHAT IT READS IS OF BULK AT MOST 1048576: true; the input reads as it did. -/
def solveKeepsUptoRow : OpenClaim := { program := "ytcfphdcinihdbaagreat", sum := "614edf59992c9aedde5c99854d8b28b9c1da8ad1aff6bfcec53b9ccec09438e2", func := "bagatelle/bagatellelaw11.SolveKeeps", spec := "solveKeeps", unfollowed := true, recurses := true, named := ["math/bits.divideError", "math/bits.overflowError"], apart := false, narrowed := true }
def SolveKeepsUptoSaid : Prop := solveKeepsUptoRow.holds Tryz.pinned (OpenSpec.upto solveKeepsSpec)

/-- 'bagatellelaw11.SolveNone', WHERE WHAT IT READS IS OF BULK AT MOST 1048576: true; the input reads as it did. -/
def solveNoneUptoRow : OpenClaim := { program := "ytcfphdcinihdbaagreat", sum := "614edf59992c9aedde5c99854d8b28b9c1da8ad1aff6bfcec53b9ccec09438e2", func := "bagatelle/bagatellelaw11.SolveNone", spec := "solveNone", unfollowed := true, recurses := true, named := ["math/bits.divideError", "math/bits.overflowError"], apart := false, narrowed := true }
def SolveNoneUptoSaid : Prop := solveNoneUptoRow.holds Tryz.pinned (OpenSpec.upto solveNoneSpec)

end Rows
end Go.Proofs.YtcfphdcinihdbaaGreat
