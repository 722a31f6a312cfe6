/-
  DERIVED. GIVEN WITH THE SEED: THE CARDS: each row of YtjidadolfpjdeaaGreatDoorRows.lean that lists a variable, with what it lists TIED to the program's text (the seventh form; the later family's looks); each row that meets fmt, with fmt's text TOLD by the authors' own Lean function (tested against real Go, not proved from fmt's source: count such statements apart). THE CARD IS WHAT COUNTS. Prove the row's statement (the work); the ties are given (YtjidadolfpjdeaaGreatDoorTie.lean); close each card by the builder's one call (the guide's Derived/Test/ToyasCard.lean, 'card_holds'). Laid BY PROGRAM, IN A SANDBOX (cutbox-door.mjs). By AI agents, Wed Nov 11 2026. No macro, syntax, notation, axiom, sorry.
-/
import Derived.Test.YtjidadolfpjdeaaGreatDoorRows
import GoSem.ClaimSeven
namespace Go.Proofs.YtjidadolfpjdeaaGreatDoor
namespace Rows

/-- THE TIED CARD OF 'palaverlaw05.LogNil'. -/
def logNilCard : Claim7 := { stood := { row := logNilRow, standIns := [], harness := (true, "cbfb8c669f73b55594d575a5f47b0055527f5260c3ca971a123b167cea9f9986"), looks := true }, kinds := [], alts := [], laidByText := true, laidKinds := [.data, .data, .data, .sentinel, .sentinel], laidTests := true, laidLooks := .later }
def LogNilCardSaid : Prop := Claim7.holds Tryz.pinned (.plain (OpenSpec.ofChange logNilSpec)) logNilCard

/-- THE TIED CARD OF 'palaverlaw05.LogLasts'. -/
def logLastsCard : Claim7 := { stood := { row := logLastsRow, standIns := [], harness := (true, "cbfb8c669f73b55594d575a5f47b0055527f5260c3ca971a123b167cea9f9986"), looks := true }, kinds := [], alts := [], laidByText := true, laidKinds := [.data, .data, .data, .sentinel, .sentinel], laidTests := true, laidLooks := .later }
def LogLastsCardSaid : Prop := Claim7.holds Tryz.pinned (.plain (OpenSpec.ofChange logLastsSpec)) logLastsCard

/-- THE TIED CARD OF 'palaverlaw05.LogRenews'. -/
def logRenewsCard : Claim7 := { stood := { row := logRenewsRow, standIns := [], harness := (true, "cbfb8c669f73b55594d575a5f47b0055527f5260c3ca971a123b167cea9f9986"), looks := true }, kinds := [], alts := [], laidByText := true, laidKinds := [.data, .data, .data, .sentinel, .sentinel], laidTests := true, laidLooks := .later }
def LogRenewsCardSaid : Prop := Claim7.holds Tryz.pinned (.plain (OpenSpec.ofChange logRenewsSpec)) logRenewsCard

/-- THE TIED CARD OF 'palaverlaw05.LogBits'. -/
def logBitsCard : Claim7 := { stood := { row := logBitsRow, standIns := [], harness := (true, "cbfb8c669f73b55594d575a5f47b0055527f5260c3ca971a123b167cea9f9986"), looks := true }, kinds := [], alts := [], laidByText := true, laidKinds := [.data, .data, .data, .sentinel, .sentinel], laidTests := true, laidLooks := .later }
def LogBitsCardSaid : Prop := Claim7.holds Tryz.pinned (.plain (OpenSpec.ofChange logBitsSpec)) logBitsCard

/-- THE TIED CARD OF 'palaverlaw05.LogKnown'. -/
def logKnownCard : Claim7 := { stood := { row := logKnownRow, standIns := [], harness := (true, "cbfb8c669f73b55594d575a5f47b0055527f5260c3ca971a123b167cea9f9986"), looks := true }, kinds := [], alts := [], laidByText := true, laidKinds := [.data, .data, .data, .sentinel, .sentinel], laidTests := true, laidLooks := .later }
def LogKnownCardSaid : Prop := Claim7.holds Tryz.pinned (.plain (OpenSpec.ofChange logKnownSpec)) logKnownCard

/-- THE SECOND FORM's CARD OF 'palaverlaw05.LogNil'. -/
def logNilUptoCard : Claim7 := { stood := { row := logNilUptoRow, standIns := [], harness := (true, "cbfb8c669f73b55594d575a5f47b0055527f5260c3ca971a123b167cea9f9986"), looks := true }, kinds := [], alts := [], laidByText := true, laidKinds := [.data, .data, .data, .sentinel, .sentinel], laidTests := true, laidLooks := .later }
def LogNilUptoCardSaid : Prop := Claim7.holds Tryz.pinned (.plain (OpenSpec.upto logNilSpec)) logNilUptoCard

/-- THE SECOND FORM's CARD OF 'palaverlaw05.LogLasts'. -/
def logLastsUptoCard : Claim7 := { stood := { row := logLastsUptoRow, standIns := [], harness := (true, "cbfb8c669f73b55594d575a5f47b0055527f5260c3ca971a123b167cea9f9986"), looks := true }, kinds := [], alts := [], laidByText := true, laidKinds := [.data, .data, .data, .sentinel, .sentinel], laidTests := true, laidLooks := .later }
def LogLastsUptoCardSaid : Prop := Claim7.holds Tryz.pinned (.plain (OpenSpec.upto logLastsSpec)) logLastsUptoCard

/-- THE SECOND FORM's CARD OF 'palaverlaw05.LogRenews'. -/
def logRenewsUptoCard : Claim7 := { stood := { row := logRenewsUptoRow, standIns := [], harness := (true, "cbfb8c669f73b55594d575a5f47b0055527f5260c3ca971a123b167cea9f9986"), looks := true }, kinds := [], alts := [], laidByText := true, laidKinds := [.data, .data, .data, .sentinel, .sentinel], laidTests := true, laidLooks := .later }
def LogRenewsUptoCardSaid : Prop := Claim7.holds Tryz.pinned (.plain (OpenSpec.upto logRenewsSpec)) logRenewsUptoCard

/-- THE SECOND FORM's CARD OF 'palaverlaw05.LogBits'. -/
def logBitsUptoCard : Claim7 := { stood := { row := logBitsUptoRow, standIns := [], harness := (true, "cbfb8c669f73b55594d575a5f47b0055527f5260c3ca971a123b167cea9f9986"), looks := true }, kinds := [], alts := [], laidByText := true, laidKinds := [.data, .data, .data, .sentinel, .sentinel], laidTests := true, laidLooks := .later }
def LogBitsUptoCardSaid : Prop := Claim7.holds Tryz.pinned (.plain (OpenSpec.upto logBitsSpec)) logBitsUptoCard

/-- THE SECOND FORM's CARD OF 'palaverlaw05.LogKnown'. -/
def logKnownUptoCard : Claim7 := { stood := { row := logKnownUptoRow, standIns := [], harness := (true, "cbfb8c669f73b55594d575a5f47b0055527f5260c3ca971a123b167cea9f9986"), looks := true }, kinds := [], alts := [], laidByText := true, laidKinds := [.data, .data, .data, .sentinel, .sentinel], laidTests := true, laidLooks := .later }
def LogKnownUptoCardSaid : Prop := Claim7.holds Tryz.pinned (.plain (OpenSpec.upto logKnownSpec)) logKnownUptoCard
end Rows
end Go.Proofs.YtjidadolfpjdeaaGreatDoor
