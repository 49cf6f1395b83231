/-
  DERIVED. GIVEN WITH THE SEED: THE CARDS: each row of YtchdamlnbmngbaaDoorRows.lean that lists a variable, with what it lists TIED to the program's text (the seventh form; the later family's looks); each row that meets fmt, with fmt's text TOLD by the authors' own Lean function (tested against real Go, not proved from fmt's source: count such statements apart). THE CARD IS WHAT COUNTS. Prove the row's statement (the work); the ties are given (YtchdamlnbmngbaaDoorTie.lean); close each card by the builder's one call (the guide's Derived/Test/ToyasCard.lean, 'card_holds'). Laid BY PROGRAM, IN A SANDBOX (cutbox-door.mjs). By AI agents, Wed Nov 11 2026. No macro, syntax, notation, axiom, sorry.
-/
import Derived.Test.YtchdamlnbmngbaaDoorRows
import GoSem.ClaimSeven
namespace Go.Proofs.YtchdamlnbmngbaaDoor
namespace Rows

/-- THE TIED CARD OF 'stemmalaw11.StreamCuts'. -/
def streamCutsCard : Claim7 := { stood := { row := streamCutsRow, standIns := [], harness := (true, "a91c0444ec3c94ad9f1e66c905bd1139977b4b4eae8bc263dc32d35467c4f9c6"), looks := false }, kinds := [], alts := [], laidByText := true, laidKinds := [.data], laidTests := true, laidLooks := .later }
def StreamCutsCardSaid : Prop := Claim7.holds Tryd.pinned (.plain (OpenSpec.ofChange streamCutsSpec)) streamCutsCard

/-- THE TIED CARD OF 'stemmalaw11.StreamLays'. -/
def streamLaysCard : Claim7 := { stood := { row := streamLaysRow, standIns := [], harness := (true, "a91c0444ec3c94ad9f1e66c905bd1139977b4b4eae8bc263dc32d35467c4f9c6"), looks := false }, kinds := [], alts := [], laidByText := true, laidKinds := [.data], laidTests := true, laidLooks := .later }
def StreamLaysCardSaid : Prop := Claim7.holds Tryd.pinned (.plain (OpenSpec.ofChange streamLaysSpec)) streamLaysCard

/-- THE TIED CARD OF 'stemmalaw11.StreamReads'. -/
def streamReadsCard : Claim7 := { stood := { row := streamReadsRow, standIns := [], harness := (true, "a91c0444ec3c94ad9f1e66c905bd1139977b4b4eae8bc263dc32d35467c4f9c6"), looks := false }, kinds := [], alts := [], laidByText := true, laidKinds := [.data], laidTests := true, laidLooks := .later }
def StreamReadsCardSaid : Prop := Claim7.holds Tryd.pinned (.plain (OpenSpec.ofChange streamReadsSpec)) streamReadsCard

/-- THE TIED CARD OF 'stemmalaw11.StreamWhole'. -/
def streamWholeCard : Claim7 := { stood := { row := streamWholeRow, standIns := [], harness := (true, "a91c0444ec3c94ad9f1e66c905bd1139977b4b4eae8bc263dc32d35467c4f9c6"), looks := false }, kinds := [], alts := [], laidByText := true, laidKinds := [.data], laidTests := true, laidLooks := .later }
def StreamWholeCardSaid : Prop := Claim7.holds Tryd.pinned (.plain (OpenSpec.ofChange streamWholeSpec)) streamWholeCard

/-- THE TIED CARD OF 'stemmalaw11.StreamBack'. -/
def streamBackCard : Claim7 := { stood := { row := streamBackRow, standIns := [], harness := (true, "a91c0444ec3c94ad9f1e66c905bd1139977b4b4eae8bc263dc32d35467c4f9c6"), looks := false }, kinds := [], alts := [], laidByText := true, laidKinds := [.data], laidTests := true, laidLooks := .later }
def StreamBackCardSaid : Prop := Claim7.holds Tryd.pinned (.plain (OpenSpec.ofChange streamBackSpec)) streamBackCard

/-- THE TIED CARD OF 'stemmalaw11.StreamKnown'. -/
def streamKnownCard : Claim7 := { stood := { row := streamKnownRow, standIns := [], harness := (true, "a91c0444ec3c94ad9f1e66c905bd1139977b4b4eae8bc263dc32d35467c4f9c6"), looks := false }, kinds := [], alts := [], laidByText := true, laidKinds := [.data], laidTests := true, laidLooks := .later }
def StreamKnownCardSaid : Prop := Claim7.holds Tryd.pinned (.plain (OpenSpec.ofChange streamKnownSpec)) streamKnownCard

/-- THE SECOND FORM's CARD OF 'stemmalaw11.StreamCuts'. -/
def streamCutsUptoCard : Claim7 := { stood := { row := streamCutsUptoRow, standIns := [], harness := (true, "a91c0444ec3c94ad9f1e66c905bd1139977b4b4eae8bc263dc32d35467c4f9c6"), looks := false }, kinds := [], alts := [], laidByText := true, laidKinds := [.data], laidTests := true, laidLooks := .later }
def StreamCutsUptoCardSaid : Prop := Claim7.holds Tryd.pinned (.plain (OpenSpec.upto streamCutsSpec)) streamCutsUptoCard

/-- THE SECOND FORM's CARD OF 'stemmalaw11.StreamLays'. -/
def streamLaysUptoCard : Claim7 := { stood := { row := streamLaysUptoRow, standIns := [], harness := (true, "a91c0444ec3c94ad9f1e66c905bd1139977b4b4eae8bc263dc32d35467c4f9c6"), looks := false }, kinds := [], alts := [], laidByText := true, laidKinds := [.data], laidTests := true, laidLooks := .later }
def StreamLaysUptoCardSaid : Prop := Claim7.holds Tryd.pinned (.plain (OpenSpec.upto streamLaysSpec)) streamLaysUptoCard

/-- THE SECOND FORM's CARD OF 'stemmalaw11.StreamReads'. -/
def streamReadsUptoCard : Claim7 := { stood := { row := streamReadsUptoRow, standIns := [], harness := (true, "a91c0444ec3c94ad9f1e66c905bd1139977b4b4eae8bc263dc32d35467c4f9c6"), looks := false }, kinds := [], alts := [], laidByText := true, laidKinds := [.data], laidTests := true, laidLooks := .later }
def StreamReadsUptoCardSaid : Prop := Claim7.holds Tryd.pinned (.plain (OpenSpec.upto streamReadsSpec)) streamReadsUptoCard

/-- THE SECOND FORM's CARD OF 'stemmalaw11.StreamWhole'. -/
def streamWholeUptoCard : Claim7 := { stood := { row := streamWholeUptoRow, standIns := [], harness := (true, "a91c0444ec3c94ad9f1e66c905bd1139977b4b4eae8bc263dc32d35467c4f9c6"), looks := false }, kinds := [], alts := [], laidByText := true, laidKinds := [.data], laidTests := true, laidLooks := .later }
def StreamWholeUptoCardSaid : Prop := Claim7.holds Tryd.pinned (.plain (OpenSpec.upto streamWholeSpec)) streamWholeUptoCard

/-- THE SECOND FORM's CARD OF 'stemmalaw11.StreamBack'. -/
def streamBackUptoCard : Claim7 := { stood := { row := streamBackUptoRow, standIns := [], harness := (true, "a91c0444ec3c94ad9f1e66c905bd1139977b4b4eae8bc263dc32d35467c4f9c6"), looks := false }, kinds := [], alts := [], laidByText := true, laidKinds := [.data], laidTests := true, laidLooks := .later }
def StreamBackUptoCardSaid : Prop := Claim7.holds Tryd.pinned (.plain (OpenSpec.upto streamBackSpec)) streamBackUptoCard

/-- THE SECOND FORM's CARD OF 'stemmalaw11.StreamKnown'. -/
def streamKnownUptoCard : Claim7 := { stood := { row := streamKnownUptoRow, standIns := [], harness := (true, "a91c0444ec3c94ad9f1e66c905bd1139977b4b4eae8bc263dc32d35467c4f9c6"), looks := false }, kinds := [], alts := [], laidByText := true, laidKinds := [.data], laidTests := true, laidLooks := .later }
def StreamKnownUptoCardSaid : Prop := Claim7.holds Tryd.pinned (.plain (OpenSpec.upto streamKnownSpec)) streamKnownUptoCard
end Rows
end Go.Proofs.YtchdamlnbmngbaaDoor
