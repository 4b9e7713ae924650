/-
  DERIVED. GIVEN WITH THE SEED: THE CARDS: each row of YtmdhlobonnikcaaDoorRows.lean that lists a variable, with what it lists TIED to the program's text (the seventh form; the later family's looks); each row that meets fmt, with fmt's text TOLD by the authors' own Lean function (tested against real Go, not proved from fmt's source: count such statements apart). THE CARD IS WHAT COUNTS. Prove the row's statement (the work); the ties are given (YtmdhlobonnikcaaDoorTie.lean); close each card by the builder's one call (the guide's Derived/Test/ToyasCard.lean, 'card_holds'). Laid BY PROGRAM, IN A SANDBOX (cutbox-door.mjs). By AI agents, Wed Nov 11 2026. No macro, syntax, notation, axiom, sorry.
-/
import Derived.Test.YtmdhlobonnikcaaDoorRows
import GoSem.ClaimSeven
namespace Go.Proofs.YtmdhlobonnikcaaDoor
namespace Rows

/-- THE TIED CARD OF 'bagatellelaw18.NamesBack'. -/
def namesBackCard : Claim7 := { stood := { row := namesBackRow, standIns := [], harness := (true, "403fd08fc976dd8b91281a6b7fcf1f890f3e94a87f0f481122859329b68e639f"), looks := false }, kinds := [], alts := [], laidByText := true, laidKinds := [.data], laidTests := true, laidLooks := .later }
def NamesBackCardSaid : Prop := Claim7.holds Tryd.pinned (.plain (OpenSpec.ofChange namesBackSpec)) namesBackCard

/-- THE TIED CARD OF 'bagatellelaw18.NamesAny'. -/
def namesAnyCard : Claim7 := { stood := { row := namesAnyRow, standIns := [], harness := (true, "403fd08fc976dd8b91281a6b7fcf1f890f3e94a87f0f481122859329b68e639f"), looks := false }, kinds := [], alts := [], laidByText := true, laidKinds := [.data], laidTests := true, laidLooks := .later }
def NamesAnyCardSaid : Prop := Claim7.holds Tryd.pinned (.plain (OpenSpec.ofChange namesAnySpec)) namesAnyCard

/-- THE TIED CARD OF 'bagatellelaw18.NamesSort'. -/
def namesSortCard : Claim7 := { stood := { row := namesSortRow, standIns := [], harness := (true, "403fd08fc976dd8b91281a6b7fcf1f890f3e94a87f0f481122859329b68e639f"), looks := false }, kinds := [], alts := [], laidByText := true, laidKinds := [.data], laidTests := true, laidLooks := .later }
def NamesSortCardSaid : Prop := Claim7.holds Tryd.pinned (.plain (OpenSpec.ofChange namesSortSpec)) namesSortCard

/-- THE TIED CARD OF 'bagatellelaw18.NamesFew'. -/
def namesFewCard : Claim7 := { stood := { row := namesFewRow, standIns := [], harness := (true, "403fd08fc976dd8b91281a6b7fcf1f890f3e94a87f0f481122859329b68e639f"), looks := false }, kinds := [], alts := [], laidByText := true, laidKinds := [.data], laidTests := true, laidLooks := .later }
def NamesFewCardSaid : Prop := Claim7.holds Tryd.pinned (.plain (OpenSpec.ofChange namesFewSpec)) namesFewCard

/-- THE SECOND FORM's CARD OF 'bagatellelaw18.NamesBack'. -/
def namesBackUptoCard : Claim7 := { stood := { row := namesBackUptoRow, standIns := [], harness := (true, "403fd08fc976dd8b91281a6b7fcf1f890f3e94a87f0f481122859329b68e639f"), looks := false }, kinds := [], alts := [], laidByText := true, laidKinds := [.data], laidTests := true, laidLooks := .later }
def NamesBackUptoCardSaid : Prop := Claim7.holds Tryd.pinned (.plain (OpenSpec.upto namesBackSpec)) namesBackUptoCard

/-- THE SECOND FORM's CARD OF 'bagatellelaw18.NamesAny'. -/
def namesAnyUptoCard : Claim7 := { stood := { row := namesAnyUptoRow, standIns := [], harness := (true, "403fd08fc976dd8b91281a6b7fcf1f890f3e94a87f0f481122859329b68e639f"), looks := false }, kinds := [], alts := [], laidByText := true, laidKinds := [.data], laidTests := true, laidLooks := .later }
def NamesAnyUptoCardSaid : Prop := Claim7.holds Tryd.pinned (.plain (OpenSpec.upto namesAnySpec)) namesAnyUptoCard

/-- THE SECOND FORM's CARD OF 'bagatellelaw18.NamesSort'. -/
def namesSortUptoCard : Claim7 := { stood := { row := namesSortUptoRow, standIns := [], harness := (true, "403fd08fc976dd8b91281a6b7fcf1f890f3e94a87f0f481122859329b68e639f"), looks := false }, kinds := [], alts := [], laidByText := true, laidKinds := [.data], laidTests := true, laidLooks := .later }
def NamesSortUptoCardSaid : Prop := Claim7.holds Tryd.pinned (.plain (OpenSpec.upto namesSortSpec)) namesSortUptoCard

/-- THE SECOND FORM's CARD OF 'bagatellelaw18.NamesFew'. -/
def namesFewUptoCard : Claim7 := { stood := { row := namesFewUptoRow, standIns := [], harness := (true, "403fd08fc976dd8b91281a6b7fcf1f890f3e94a87f0f481122859329b68e639f"), looks := false }, kinds := [], alts := [], laidByText := true, laidKinds := [.data], laidTests := true, laidLooks := .later }
def NamesFewUptoCardSaid : Prop := Claim7.holds Tryd.pinned (.plain (OpenSpec.upto namesFewSpec)) namesFewUptoCard
end Rows
end Go.Proofs.YtmdhlobonnikcaaDoor
