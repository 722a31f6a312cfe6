/-
  DERIVED. GIVEN WITH THE SEED: THE CARDS: each row of YthpamdjgkmaleaaGreatDoorRows.lean that lists a variable, with what it lists TIED to the program's text (the seventh form; the later family's looks); each row that meets fmt, with fmt's text TOLD by the authors' own Lean function (tested against real Go, not proved from fmt's source: count such statements apart). THE CARD IS WHAT COUNTS. Prove the row's statement (the work); the ties are given (YthpamdjgkmaleaaGreatDoorTie.lean); close each card by the builder's one call (the guide's Derived/Test/ToyasCard.lean, 'card_holds'). Laid BY PROGRAM, IN A SANDBOX (cutbox-door.mjs). By AI agents, Wed Nov 11 2026. No macro, syntax, notation, axiom, sorry.
-/
import Derived.Test.YthpamdjgkmaleaaGreatDoorRows
import GoSem.ClaimSeven
namespace Go.Proofs.YthpamdjgkmaleaaGreatDoor
namespace Rows

/-- THE TIED CARD OF 'palaverlaw06.BaseNil'. -/
def baseNilCard : Claim7 := { stood := { row := baseNilRow, standIns := [], harness := (true, "9621a45441f8ca86b05770807c95b5446aa3203cc685e687ba909f3b23568c6b"), looks := true }, kinds := [], alts := [], laidByText := true, laidKinds := [.data, .data, .data, .sentinel, .sentinel], laidTests := true, laidLooks := .later }
def BaseNilCardSaid : Prop := Claim7.holds Tryz.pinned (.plain (OpenSpec.ofChange baseNilSpec)) baseNilCard

/-- THE TIED CARD OF 'palaverlaw06.BaseLasts'. -/
def baseLastsCard : Claim7 := { stood := { row := baseLastsRow, standIns := [], harness := (true, "9621a45441f8ca86b05770807c95b5446aa3203cc685e687ba909f3b23568c6b"), looks := true }, kinds := [], alts := [], laidByText := true, laidKinds := [.data, .data, .data, .sentinel, .sentinel], laidTests := true, laidLooks := .later }
def BaseLastsCardSaid : Prop := Claim7.holds Tryz.pinned (.plain (OpenSpec.ofChange baseLastsSpec)) baseLastsCard

/-- THE TIED CARD OF 'palaverlaw06.BaseWhole'. -/
def baseWholeCard : Claim7 := { stood := { row := baseWholeRow, standIns := [], harness := (true, "9621a45441f8ca86b05770807c95b5446aa3203cc685e687ba909f3b23568c6b"), looks := true }, kinds := [], alts := [], laidByText := true, laidKinds := [.data, .data, .data, .sentinel, .sentinel], laidTests := true, laidLooks := .later }
def BaseWholeCardSaid : Prop := Claim7.holds Tryz.pinned (.plain (OpenSpec.ofChange baseWholeSpec)) baseWholeCard

/-- THE TIED CARD OF 'palaverlaw06.BaseKnown'. -/
def baseKnownCard : Claim7 := { stood := { row := baseKnownRow, standIns := [], harness := (true, "9621a45441f8ca86b05770807c95b5446aa3203cc685e687ba909f3b23568c6b"), looks := true }, kinds := [], alts := [], laidByText := true, laidKinds := [.data, .data, .data, .sentinel, .sentinel], laidTests := true, laidLooks := .later }
def BaseKnownCardSaid : Prop := Claim7.holds Tryz.pinned (.plain (OpenSpec.ofChange baseKnownSpec)) baseKnownCard

/-- THE SECOND FORM's CARD OF 'palaverlaw06.BaseNil'. -/
def baseNilUptoCard : Claim7 := { stood := { row := baseNilUptoRow, standIns := [], harness := (true, "9621a45441f8ca86b05770807c95b5446aa3203cc685e687ba909f3b23568c6b"), looks := true }, kinds := [], alts := [], laidByText := true, laidKinds := [.data, .data, .data, .sentinel, .sentinel], laidTests := true, laidLooks := .later }
def BaseNilUptoCardSaid : Prop := Claim7.holds Tryz.pinned (.plain (OpenSpec.upto baseNilSpec)) baseNilUptoCard

/-- THE SECOND FORM's CARD OF 'palaverlaw06.BaseLasts'. -/
def baseLastsUptoCard : Claim7 := { stood := { row := baseLastsUptoRow, standIns := [], harness := (true, "9621a45441f8ca86b05770807c95b5446aa3203cc685e687ba909f3b23568c6b"), looks := true }, kinds := [], alts := [], laidByText := true, laidKinds := [.data, .data, .data, .sentinel, .sentinel], laidTests := true, laidLooks := .later }
def BaseLastsUptoCardSaid : Prop := Claim7.holds Tryz.pinned (.plain (OpenSpec.upto baseLastsSpec)) baseLastsUptoCard

/-- THE SECOND FORM's CARD OF 'palaverlaw06.BaseWhole'. -/
def baseWholeUptoCard : Claim7 := { stood := { row := baseWholeUptoRow, standIns := [], harness := (true, "9621a45441f8ca86b05770807c95b5446aa3203cc685e687ba909f3b23568c6b"), looks := true }, kinds := [], alts := [], laidByText := true, laidKinds := [.data, .data, .data, .sentinel, .sentinel], laidTests := true, laidLooks := .later }
def BaseWholeUptoCardSaid : Prop := Claim7.holds Tryz.pinned (.plain (OpenSpec.upto baseWholeSpec)) baseWholeUptoCard

/-- THE SECOND FORM's CARD OF 'palaverlaw06.BaseKnown'. -/
def baseKnownUptoCard : Claim7 := { stood := { row := baseKnownUptoRow, standIns := [], harness := (true, "9621a45441f8ca86b05770807c95b5446aa3203cc685e687ba909f3b23568c6b"), looks := true }, kinds := [], alts := [], laidByText := true, laidKinds := [.data, .data, .data, .sentinel, .sentinel], laidTests := true, laidLooks := .later }
def BaseKnownUptoCardSaid : Prop := Claim7.holds Tryz.pinned (.plain (OpenSpec.upto baseKnownSpec)) baseKnownUptoCard
end Rows
end Go.Proofs.YthpamdjgkmaleaaGreatDoor
