/-
  DERIVED. GIVEN WITH THE SEED: THE CARDS: each row of YtckhhghbpblpcaaDoorRows.lean that lists a variable, with what it lists TIED to the program's text (the seventh form; the later family's looks); each row that meets fmt, with fmt's text TOLD by the authors' own Lean function (tested against real Go, not proved from fmt's source: count such statements apart). THE CARD IS WHAT COUNTS. Prove the row's statement (the work); the ties are given (YtckhhghbpblpcaaDoorTie.lean); close each card by the builder's one call (the guide's Derived/Test/ToyasCard.lean, 'card_holds'). Laid BY PROGRAM, IN A SANDBOX (cutbox-door.mjs). By AI agents, Wed Nov 11 2026. No macro, syntax, notation, axiom, sorry.
-/
import Derived.Test.YtckhhghbpblpcaaDoorRows
import GoSem.ClaimSeven
namespace Go.Proofs.YtckhhghbpblpcaaDoor
namespace Rows

/-- THE TIED CARD OF 'bagatellelaw13.CrcSums'. -/
def crcSumsCard : Claim7 := { stood := { row := crcSumsRow, standIns := [], harness := (true, "e59db2164d5b1e35ed8bd720d1734d881965f671fc6e8600dca60ed97659bc86"), looks := false }, kinds := [], alts := [], laidByText := true, laidKinds := [.data], laidTests := true, laidLooks := .later }
def CrcSumsCardSaid : Prop := Claim7.holds Tryd.pinned (.plain (OpenSpec.ofChange crcSumsSpec)) crcSumsCard

/-- THE TIED CARD OF 'bagatellelaw13.CrcBends'. -/
def crcBendsCard : Claim7 := { stood := { row := crcBendsRow, standIns := [], harness := (true, "e59db2164d5b1e35ed8bd720d1734d881965f671fc6e8600dca60ed97659bc86"), looks := false }, kinds := [], alts := [], laidByText := true, laidKinds := [.data], laidTests := true, laidLooks := .later }
def CrcBendsCardSaid : Prop := Claim7.holds Tryd.pinned (.plain (OpenSpec.ofChange crcBendsSpec)) crcBendsCard

/-- THE TIED CARD OF 'bagatellelaw13.CrcEdges'. -/
def crcEdgesCard : Claim7 := { stood := { row := crcEdgesRow, standIns := [], harness := (true, "e59db2164d5b1e35ed8bd720d1734d881965f671fc6e8600dca60ed97659bc86"), looks := false }, kinds := [], alts := [], laidByText := true, laidKinds := [.data], laidTests := true, laidLooks := .later }
def CrcEdgesCardSaid : Prop := Claim7.holds Tryd.pinned (.plain (OpenSpec.ofChange crcEdgesSpec)) crcEdgesCard

/-- THE TIED CARD OF 'bagatellelaw13.CrcApart'. -/
def crcApartCard : Claim7 := { stood := { row := crcApartRow, standIns := [], harness := (true, "e59db2164d5b1e35ed8bd720d1734d881965f671fc6e8600dca60ed97659bc86"), looks := false }, kinds := [], alts := [], laidByText := true, laidKinds := [.data], laidTests := true, laidLooks := .later }
def CrcApartCardSaid : Prop := Claim7.holds Tryd.pinned (.plain (OpenSpec.ofChange crcApartSpec)) crcApartCard

/-- THE SECOND FORM's CARD OF 'bagatellelaw13.CrcSums'. -/
def crcSumsUptoCard : Claim7 := { stood := { row := crcSumsUptoRow, standIns := [], harness := (true, "e59db2164d5b1e35ed8bd720d1734d881965f671fc6e8600dca60ed97659bc86"), looks := false }, kinds := [], alts := [], laidByText := true, laidKinds := [.data], laidTests := true, laidLooks := .later }
def CrcSumsUptoCardSaid : Prop := Claim7.holds Tryd.pinned (.plain (OpenSpec.upto crcSumsSpec)) crcSumsUptoCard

/-- THE SECOND FORM's CARD OF 'bagatellelaw13.CrcBends'. -/
def crcBendsUptoCard : Claim7 := { stood := { row := crcBendsUptoRow, standIns := [], harness := (true, "e59db2164d5b1e35ed8bd720d1734d881965f671fc6e8600dca60ed97659bc86"), looks := false }, kinds := [], alts := [], laidByText := true, laidKinds := [.data], laidTests := true, laidLooks := .later }
def CrcBendsUptoCardSaid : Prop := Claim7.holds Tryd.pinned (.plain (OpenSpec.upto crcBendsSpec)) crcBendsUptoCard

/-- THE SECOND FORM's CARD OF 'bagatellelaw13.CrcEdges'. -/
def crcEdgesUptoCard : Claim7 := { stood := { row := crcEdgesUptoRow, standIns := [], harness := (true, "e59db2164d5b1e35ed8bd720d1734d881965f671fc6e8600dca60ed97659bc86"), looks := false }, kinds := [], alts := [], laidByText := true, laidKinds := [.data], laidTests := true, laidLooks := .later }
def CrcEdgesUptoCardSaid : Prop := Claim7.holds Tryd.pinned (.plain (OpenSpec.upto crcEdgesSpec)) crcEdgesUptoCard

/-- THE SECOND FORM's CARD OF 'bagatellelaw13.CrcApart'. -/
def crcApartUptoCard : Claim7 := { stood := { row := crcApartUptoRow, standIns := [], harness := (true, "e59db2164d5b1e35ed8bd720d1734d881965f671fc6e8600dca60ed97659bc86"), looks := false }, kinds := [], alts := [], laidByText := true, laidKinds := [.data], laidTests := true, laidLooks := .later }
def CrcApartUptoCardSaid : Prop := Claim7.holds Tryd.pinned (.plain (OpenSpec.upto crcApartSpec)) crcApartUptoCard
end Rows
end Go.Proofs.YtckhhghbpblpcaaDoor
