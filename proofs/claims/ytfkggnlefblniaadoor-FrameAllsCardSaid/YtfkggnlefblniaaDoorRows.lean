/-
  NARROWER THAN 'FOR EVERY INPUT', by the rows' own cells (each row's printed sentence says how): FrameBack: laid · FrameAlls: laid · FrameBends: laid · FrameAny: laid · FrameCuts: laid.
  DERIVED. THE GIVEN ROWS OF THIS SEAT. 5 by the template 'for every input the law returns true; each argument reads behind the call as it read before'; 0 by the template 'total and deterministic' (their statements: YtfkggnlefblniaaDoorTotals.lean).
  GIVEN WITH THE SEED: the statements are not yours to turn. If you find one false, say at which input.
  Laid BY PROGRAM, IN A SANDBOX (cutbox-rows.mjs): the forced cells as the released guide's own fill.sh prints them over the translation 29e5b7483b9475cc… (all of the seat's roots in one cut). By AI agents, Wed Nov 11 2026. No macro, syntax, notation, axiom, sorry.
-/
import Derived.Test.YtfkggnlefblniaaDoorChecked
import GoSem.Claim
import GoSem.ClaimJoined
import GoSem.ClaimMapViews
import Derived.JoinedTies
import Derived.KernelRfl
namespace Go.Proofs.YtfkggnlefblniaaDoor
/- THE CELL 'sum', in the pinned program and in every row, IS THE sha256 OF THE DUMP (.gsa) THAT YtfkggnlefblniaaDoorProg.lean LOADS. Nothing in Lean hashes anything: it is a label: what it is worth is what the hold of that sum in a sandbox is worth. -/
noncomputable def Tryd.pinned : Pinned := { name := "ytfkggnlefblniaadoor", sum := "29e5b7483b9475ccc2e15b891ad018b26d99d3f14638aafa67f664bc5820c0a6", checked := Tryd.checked }
namespace Rows
def none {H : Type} : Left H := { results := [], args := [] }

/- WHAT THE LISTED PACKAGE-LEVEL VARIABLES READ AS WHEN THE CALL BEGINS. Each datum BY PROGRAM (the guide's laid-datum.mjs) off the statement by which the dump's own 'gosem.cut.vars' lays the variable. In a bare row this is a premise. The card (YtfkggnlefblniaaDoorCards.lean) ties it to the program's text. -/
def laid_bagatelle_crc_shifted {H : Type} : DataW H := .agg [.lit (.int .u32 0), .lit (.int .u32 498536548), .lit (.int .u32 997073096), .lit (.int .u32 651767980), .lit (.int .u32 1994146192), .lit (.int .u32 1802195444), .lit (.int .u32 1303535960), .lit (.int .u32 1342533948), .lit (.int .u32 3988292384), .lit (.int .u32 4027552580), .lit (.int .u32 3604390888), .lit (.int .u32 3412177804), .lit (.int .u32 2607071920), .lit (.int .u32 2262029012), .lit (.int .u32 2685067896), .lit (.int .u32 3183342108)]

/-- 'bagatellelaw16.FrameBack': WHATEVER THE INPUT: true; the input reads as it did. -/
def frameBackSpec : ChangeSpec := { name := "frameBack", fn := fun _ => fun
  | [d1, d2, d3] => { results := [.lit (.bool true)], args := [d1, d2, d3] }
  | _ => none }
def frameBackRow : OpenClaim := { program := "ytfkggnlefblniaadoor", sum := "29e5b7483b9475ccc2e15b891ad018b26d99d3f14638aafa67f664bc5820c0a6", func := "bagatelle/bagatellelaw16.FrameBack", spec := "frameBack", named := ["bagatelle/crc.shifted"], apart := false, laid := [("bagatelle/crc.shifted", laid_bagatelle_crc_shifted)] }
def FrameBackSaid : Prop := frameBackRow.holds Tryd.pinned (OpenSpec.ofChange frameBackSpec)

/-- ITS FALSE NEIGHBOUR: 'it returns false'. Refute it at one input. -/
def frameBackWrong : ChangeSpec := { name := "frameBack", fn := fun _ => fun
  | [d1, d2, d3] => { results := [.lit (.bool false)], args := [d1, d2, d3] }
  | _ => none }
def FrameBackWrongFalsely : Prop := frameBackRow.holds Tryd.pinned (OpenSpec.ofChange frameBackWrong)

/-- 'bagatellelaw16.FrameAlls': WHATEVER THE INPUT: true; the input reads as it did. -/
def frameAllsSpec : ChangeSpec := { name := "frameAlls", fn := fun _ => fun
  | [d1, d2, d3] => { results := [.lit (.bool true)], args := [d1, d2, d3] }
  | _ => none }
def frameAllsRow : OpenClaim := { program := "ytfkggnlefblniaadoor", sum := "29e5b7483b9475ccc2e15b891ad018b26d99d3f14638aafa67f664bc5820c0a6", func := "bagatelle/bagatellelaw16.FrameAlls", spec := "frameAlls", unfollowed := true, recurses := true, named := ["bagatelle/crc.shifted"], apart := false, laid := [("bagatelle/crc.shifted", laid_bagatelle_crc_shifted)] }
def FrameAllsSaid : Prop := frameAllsRow.holds Tryd.pinned (OpenSpec.ofChange frameAllsSpec)

/-- ITS FALSE NEIGHBOUR: 'it returns false'. Refute it at one input. -/
def frameAllsWrong : ChangeSpec := { name := "frameAlls", fn := fun _ => fun
  | [d1, d2, d3] => { results := [.lit (.bool false)], args := [d1, d2, d3] }
  | _ => none }
def FrameAllsWrongFalsely : Prop := frameAllsRow.holds Tryd.pinned (OpenSpec.ofChange frameAllsWrong)

/-- 'bagatellelaw16.FrameBends': WHATEVER THE INPUT: true; the input reads as it did. -/
def frameBendsSpec : ChangeSpec := { name := "frameBends", fn := fun _ => fun
  | [d1, d2, d3] => { results := [.lit (.bool true)], args := [d1, d2, d3] }
  | _ => none }
def frameBendsRow : OpenClaim := { program := "ytfkggnlefblniaadoor", sum := "29e5b7483b9475ccc2e15b891ad018b26d99d3f14638aafa67f664bc5820c0a6", func := "bagatelle/bagatellelaw16.FrameBends", spec := "frameBends", unfollowed := true, recurses := true, named := ["bagatelle/crc.shifted"], apart := false, laid := [("bagatelle/crc.shifted", laid_bagatelle_crc_shifted)] }
def FrameBendsSaid : Prop := frameBendsRow.holds Tryd.pinned (OpenSpec.ofChange frameBendsSpec)

/-- ITS FALSE NEIGHBOUR: 'it returns false'. Refute it at one input. -/
def frameBendsWrong : ChangeSpec := { name := "frameBends", fn := fun _ => fun
  | [d1, d2, d3] => { results := [.lit (.bool false)], args := [d1, d2, d3] }
  | _ => none }
def FrameBendsWrongFalsely : Prop := frameBendsRow.holds Tryd.pinned (OpenSpec.ofChange frameBendsWrong)

/-- 'bagatellelaw16.FrameAny': WHATEVER THE INPUT: true; the input reads as it did. -/
def frameAnySpec : ChangeSpec := { name := "frameAny", fn := fun _ => fun
  | [d1, d2] => { results := [.lit (.bool true)], args := [d1, d2] }
  | _ => none }
def frameAnyRow : OpenClaim := { program := "ytfkggnlefblniaadoor", sum := "29e5b7483b9475ccc2e15b891ad018b26d99d3f14638aafa67f664bc5820c0a6", func := "bagatelle/bagatellelaw16.FrameAny", spec := "frameAny", named := ["bagatelle/crc.shifted"], apart := false, laid := [("bagatelle/crc.shifted", laid_bagatelle_crc_shifted)] }
def FrameAnySaid : Prop := frameAnyRow.holds Tryd.pinned (OpenSpec.ofChange frameAnySpec)

/-- ITS FALSE NEIGHBOUR: 'it returns false'. Refute it at one input. -/
def frameAnyWrong : ChangeSpec := { name := "frameAny", fn := fun _ => fun
  | [d1, d2] => { results := [.lit (.bool false)], args := [d1, d2] }
  | _ => none }
def FrameAnyWrongFalsely : Prop := frameAnyRow.holds Tryd.pinned (OpenSpec.ofChange frameAnyWrong)

/-- 'bagatellelaw16.FrameCuts': WHATEVER THE INPUT: true; the input reads as it did. -/
def frameCutsSpec : ChangeSpec := { name := "frameCuts", fn := fun _ => fun
  | [d1, d2, d3] => { results := [.lit (.bool true)], args := [d1, d2, d3] }
  | _ => none }
def frameCutsRow : OpenClaim := { program := "ytfkggnlefblniaadoor", sum := "29e5b7483b9475ccc2e15b891ad018b26d99d3f14638aafa67f664bc5820c0a6", func := "bagatelle/bagatellelaw16.FrameCuts", spec := "frameCuts", named := ["bagatelle/crc.shifted"], apart := false, laid := [("bagatelle/crc.shifted", laid_bagatelle_crc_shifted)] }
def FrameCutsSaid : Prop := frameCutsRow.holds Tryd.pinned (OpenSpec.ofChange frameCutsSpec)

/-- ITS FALSE NEIGHBOUR: 'it returns false'. Refute it at one input. -/
def frameCutsWrong : ChangeSpec := { name := "frameCuts", fn := fun _ => fun
  | [d1, d2, d3] => { results := [.lit (.bool false)], args := [d1, d2, d3] }
  | _ => none }
def FrameCutsWrongFalsely : Prop := frameCutsRow.holds Tryd.pinned (OpenSpec.ofChange frameCutsWrong)

/- THE SECOND FORM. 'bulk': how many values and letters a reading holds, each counted each time it is reached (what is shared counts as often as it is met; a slice's spare places count too). A statement '..UptoSaid' is the law's where the arguments, and the package variables that the reading takes, are together of bulk at most 1048576: NARROWER than '..Said'. Prove '..Said' where nothing that the law and all that it calls make is longer than what came in: it says more and counts as full. Else prove '..UptoSaid'. A law counts once. -/
mutual
def uptoBulk {H : Type} : DataW H → Nat
  | .lit (.string bytes) => bytes.length + 1
  | .lit _ => 1
  | .nil => 1
  | .ptr d => uptoBulk d + 1
  | .slice elems spare => uptoBulkAll elems + uptoBulkAll spare + 1
  | .agg parts => uptoBulkAll parts + 1
  | .iface _ d => uptoBulk d + 1
  | .map entries => uptoBulkEntries entries + 1
  | .held _ => 1
def uptoBulkAll {H : Type} : List (DataW H) → Nat
  | [] => 0
  | d :: r => uptoBulk d + uptoBulkAll r
def uptoBulkEntries {H : Type} : List (Lit × DataW H) → Nat
  | [] => 0
  | x :: r => uptoBulkEntry x + uptoBulkEntries r
def uptoBulkEntry {H : Type} : Lit × DataW H → Nat
  | (.string bytes, d) => bytes.length + uptoBulk d + 1
  | (_, d) => uptoBulk d + 1
 end
def uptoSmall : (H : Type) → List (DataW H) → Bool := fun _ ds => decide (uptoBulkAll ds ≤ 1048576)
def OpenSpec.upto (s : _root_.Go.ChangeSpec) : _root_.Go.OpenSpec := { _root_.Go.OpenSpec.ofChange s with cond := some uptoSmall }

/-- 'bagatellelaw16.FrameBack', WHERE WHAT IT READS IS OF BULK AT MOST 1048576: true; the input reads as it did. -/
def frameBackUptoRow : OpenClaim := { program := "ytfkggnlefblniaadoor", sum := "29e5b7483b9475ccc2e15b891ad018b26d99d3f14638aafa67f664bc5820c0a6", func := "bagatelle/bagatellelaw16.FrameBack", spec := "frameBack", named := ["bagatelle/crc.shifted"], apart := false, laid := [("bagatelle/crc.shifted", laid_bagatelle_crc_shifted)], narrowed := true }
def FrameBackUptoSaid : Prop := frameBackUptoRow.holds Tryd.pinned (OpenSpec.upto frameBackSpec)

/-- 'bagatellelaw16.FrameAlls', WHERE WHAT IT READS IS OF BULK AT MOST 1048576: true; the input reads as it did. -/
def frameAllsUptoRow : OpenClaim := { program := "ytfkggnlefblniaadoor", sum := "29e5b7483b9475ccc2e15b891ad018b26d99d3f14638aafa67f664bc5820c0a6", func := "bagatelle/bagatellelaw16.FrameAlls", spec := "frameAlls", unfollowed := true, recurses := true, named := ["bagatelle/crc.shifted"], apart := false, laid := [("bagatelle/crc.shifted", laid_bagatelle_crc_shifted)], narrowed := true }
def FrameAllsUptoSaid : Prop := frameAllsUptoRow.holds Tryd.pinned (OpenSpec.upto frameAllsSpec)

/-- 'bagatellelaw16.FrameBends', WHERE WHAT IT READS IS OF BULK AT MOST 1048576: true; the input reads as it did. -/
def frameBendsUptoRow : OpenClaim := { program := "ytfkggnlefblniaadoor", sum := "29e5b7483b9475ccc2e15b891ad018b26d99d3f14638aafa67f664bc5820c0a6", func := "bagatelle/bagatellelaw16.FrameBends", spec := "frameBends", unfollowed := true, recurses := true, named := ["bagatelle/crc.shifted"], apart := false, laid := [("bagatelle/crc.shifted", laid_bagatelle_crc_shifted)], narrowed := true }
def FrameBendsUptoSaid : Prop := frameBendsUptoRow.holds Tryd.pinned (OpenSpec.upto frameBendsSpec)

/-- 'bagatellelaw16.FrameAny', WHERE WHAT IT READS IS OF BULK AT MOST 1048576: true; the input reads as it did. -/
def frameAnyUptoRow : OpenClaim := { program := "ytfkggnlefblniaadoor", sum := "29e5b7483b9475ccc2e15b891ad018b26d99d3f14638aafa67f664bc5820c0a6", func := "bagatelle/bagatellelaw16.FrameAny", spec := "frameAny", named := ["bagatelle/crc.shifted"], apart := false, laid := [("bagatelle/crc.shifted", laid_bagatelle_crc_shifted)], narrowed := true }
def FrameAnyUptoSaid : Prop := frameAnyUptoRow.holds Tryd.pinned (OpenSpec.upto frameAnySpec)

/-- 'bagatellelaw16.FrameCuts', WHERE WHAT IT READS IS OF BULK AT MOST 1048576: true; the input reads as it did. -/
def frameCutsUptoRow : OpenClaim := { program := "ytfkggnlefblniaadoor", sum := "29e5b7483b9475ccc2e15b891ad018b26d99d3f14638aafa67f664bc5820c0a6", func := "bagatelle/bagatellelaw16.FrameCuts", spec := "frameCuts", named := ["bagatelle/crc.shifted"], apart := false, laid := [("bagatelle/crc.shifted", laid_bagatelle_crc_shifted)], narrowed := true }
def FrameCutsUptoSaid : Prop := frameCutsUptoRow.holds Tryd.pinned (OpenSpec.upto frameCutsSpec)

end Rows
end Go.Proofs.YtfkggnlefblniaaDoor
