/-
  DERIVED. GIVEN WITH THE SEED: THE CARDS: each row of YtdpbdkacngaemaaDoorRows.lean that lists a variable, with what it lists TIED to the program's text (the seventh form; the later family's looks); each row that meets fmt, with fmt's text TOLD by the authors' own Lean function (tested against real Go, not proved from fmt's source: count such statements apart). THE CARD IS WHAT COUNTS. Prove the row's statement (the work); the ties are given (YtdpbdkacngaemaaDoorTie.lean); close each card by the builder's one call (the guide's Derived/Test/ToyasCard.lean, 'card_holds'). Laid BY PROGRAM, IN A SANDBOX (cutbox-door.mjs). By AI agents, Wed Nov 11 2026. No macro, syntax, notation, axiom, sorry.
-/
import Derived.Test.YtdpbdkacngaemaaDoorRows
import GoSem.ClaimSeven
namespace Go.Proofs.YtdpbdkacngaemaaDoor
namespace Rows

/-- THE TIED CARD OF 'stemmalaw11.StreamKnown'. -/
def streamKnownCard : Claim7 := { stood := { row := streamKnownRow, standIns := [], harness := (true, "641922d40fae172d02a5c8a52288468f2f477fbbe41f50b9d458e123a7a9f895"), looks := false }, kinds := [], alts := [], laidByText := true, laidKinds := [.data], laidTests := true, laidLooks := .later }
def StreamKnownCardSaid : Prop := Claim7.holds Tryd.pinned (.plain (OpenSpec.ofChange streamKnownSpec)) streamKnownCard

/-- THE SECOND FORM's CARD OF 'stemmalaw11.StreamKnown'. -/
def streamKnownUptoCard : Claim7 := { stood := { row := streamKnownUptoRow, standIns := [], harness := (true, "641922d40fae172d02a5c8a52288468f2f477fbbe41f50b9d458e123a7a9f895"), looks := false }, kinds := [], alts := [], laidByText := true, laidKinds := [.data], laidTests := true, laidLooks := .later }
def StreamKnownUptoCardSaid : Prop := Claim7.holds Tryd.pinned (.plain (OpenSpec.upto streamKnownSpec)) streamKnownUptoCard
end Rows
end Go.Proofs.YtdpbdkacngaemaaDoor
