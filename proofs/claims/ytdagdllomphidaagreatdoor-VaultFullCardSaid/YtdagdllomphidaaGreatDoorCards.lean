/-
  DERIVED. GIVEN WITH THE SEED: THE CARDS: each row of YtdagdllomphidaaGreatDoorRows.lean that lists a variable, with what it lists TIED to the program's text (the seventh form; the later family's looks); each row that meets fmt, with fmt's text TOLD by the authors' own Lean function (tested against real Go, not proved from fmt's source: count such statements apart). THE CARD IS WHAT COUNTS. Prove the row's statement (the work); the ties are given (YtdagdllomphidaaGreatDoorTie.lean); close each card by the builder's one call (the guide's Derived/Test/ToyasCard.lean, 'card_holds'). Laid BY PROGRAM, IN A SANDBOX (cutbox-door.mjs). By AI agents, Wed Nov 11 2026. No macro, syntax, notation, axiom, sorry.
-/
import Derived.Test.YtdagdllomphidaaGreatDoorRows
import GoSem.ClaimSeven
namespace Go.Proofs.YtdagdllomphidaaGreatDoor
namespace Rows

/-- THE TIED CARD OF 'stemmalaw10.VaultChain'. -/
def vaultChainCard : Claim7 := { stood := { row := vaultChainRow, standIns := [], harness := (true, "5d43a0b68a0dc4f94769577af0d292a22a7b8f890e16596991b404b06a7a883a"), looks := true }, kinds := [], alts := [], laidByText := true, laidKinds := [.data, .data, .pinned], laidTests := true, laidLooks := .later }
def VaultChainCardSaid : Prop := Claim7.holds Tryz.pinned (.plain (OpenSpec.ofChange vaultChainSpec)) vaultChainCard

/-- THE TIED CARD OF 'stemmalaw10.VaultCrash'. -/
def vaultCrashCard : Claim7 := { stood := { row := vaultCrashRow, standIns := [], harness := (true, "5d43a0b68a0dc4f94769577af0d292a22a7b8f890e16596991b404b06a7a883a"), looks := true }, kinds := [], alts := [], laidByText := true, laidKinds := [.data, .data, .pinned], laidTests := true, laidLooks := .later }
def VaultCrashCardSaid : Prop := Claim7.holds Tryz.pinned (.plain (OpenSpec.ofChange vaultCrashSpec)) vaultCrashCard

/-- THE TIED CARD OF 'stemmalaw10.VaultParts'. -/
def vaultPartsCard : Claim7 := { stood := { row := vaultPartsRow, standIns := [], harness := (true, "5d43a0b68a0dc4f94769577af0d292a22a7b8f890e16596991b404b06a7a883a"), looks := true }, kinds := [], alts := [], laidByText := true, laidKinds := [.data, .data, .pinned], laidTests := true, laidLooks := .later }
def VaultPartsCardSaid : Prop := Claim7.holds Tryz.pinned (.plain (OpenSpec.ofChange vaultPartsSpec)) vaultPartsCard

/-- THE TIED CARD OF 'stemmalaw10.VaultFull'. -/
def vaultFullCard : Claim7 := { stood := { row := vaultFullRow, standIns := [], harness := (true, "5d43a0b68a0dc4f94769577af0d292a22a7b8f890e16596991b404b06a7a883a"), looks := true }, kinds := [], alts := [], laidByText := true, laidKinds := [.data, .data, .pinned], laidTests := true, laidLooks := .later }
def VaultFullCardSaid : Prop := Claim7.holds Tryz.pinned (.plain (OpenSpec.ofChange vaultFullSpec)) vaultFullCard

/-- THE TIED CARD OF 'stemmalaw10.VaultKnown'. -/
def vaultKnownCard : Claim7 := { stood := { row := vaultKnownRow, standIns := [], harness := (true, "5d43a0b68a0dc4f94769577af0d292a22a7b8f890e16596991b404b06a7a883a"), looks := true }, kinds := [], alts := [], laidByText := true, laidKinds := [.data, .data, .pinned], laidTests := true, laidLooks := .later }
def VaultKnownCardSaid : Prop := Claim7.holds Tryz.pinned (.plain (OpenSpec.ofChange vaultKnownSpec)) vaultKnownCard

/-- THE SECOND FORM's CARD OF 'stemmalaw10.VaultChain'. -/
def vaultChainUptoCard : Claim7 := { stood := { row := vaultChainUptoRow, standIns := [], harness := (true, "5d43a0b68a0dc4f94769577af0d292a22a7b8f890e16596991b404b06a7a883a"), looks := true }, kinds := [], alts := [], laidByText := true, laidKinds := [.data, .data, .pinned], laidTests := true, laidLooks := .later }
def VaultChainUptoCardSaid : Prop := Claim7.holds Tryz.pinned (.plain (OpenSpec.upto vaultChainSpec)) vaultChainUptoCard

/-- THE SECOND FORM's CARD OF 'stemmalaw10.VaultCrash'. -/
def vaultCrashUptoCard : Claim7 := { stood := { row := vaultCrashUptoRow, standIns := [], harness := (true, "5d43a0b68a0dc4f94769577af0d292a22a7b8f890e16596991b404b06a7a883a"), looks := true }, kinds := [], alts := [], laidByText := true, laidKinds := [.data, .data, .pinned], laidTests := true, laidLooks := .later }
def VaultCrashUptoCardSaid : Prop := Claim7.holds Tryz.pinned (.plain (OpenSpec.upto vaultCrashSpec)) vaultCrashUptoCard

/-- THE SECOND FORM's CARD OF 'stemmalaw10.VaultParts'. -/
def vaultPartsUptoCard : Claim7 := { stood := { row := vaultPartsUptoRow, standIns := [], harness := (true, "5d43a0b68a0dc4f94769577af0d292a22a7b8f890e16596991b404b06a7a883a"), looks := true }, kinds := [], alts := [], laidByText := true, laidKinds := [.data, .data, .pinned], laidTests := true, laidLooks := .later }
def VaultPartsUptoCardSaid : Prop := Claim7.holds Tryz.pinned (.plain (OpenSpec.upto vaultPartsSpec)) vaultPartsUptoCard

/-- THE SECOND FORM's CARD OF 'stemmalaw10.VaultFull'. -/
def vaultFullUptoCard : Claim7 := { stood := { row := vaultFullUptoRow, standIns := [], harness := (true, "5d43a0b68a0dc4f94769577af0d292a22a7b8f890e16596991b404b06a7a883a"), looks := true }, kinds := [], alts := [], laidByText := true, laidKinds := [.data, .data, .pinned], laidTests := true, laidLooks := .later }
def VaultFullUptoCardSaid : Prop := Claim7.holds Tryz.pinned (.plain (OpenSpec.upto vaultFullSpec)) vaultFullUptoCard

/-- THE SECOND FORM's CARD OF 'stemmalaw10.VaultKnown'. -/
def vaultKnownUptoCard : Claim7 := { stood := { row := vaultKnownUptoRow, standIns := [], harness := (true, "5d43a0b68a0dc4f94769577af0d292a22a7b8f890e16596991b404b06a7a883a"), looks := true }, kinds := [], alts := [], laidByText := true, laidKinds := [.data, .data, .pinned], laidTests := true, laidLooks := .later }
def VaultKnownUptoCardSaid : Prop := Claim7.holds Tryz.pinned (.plain (OpenSpec.upto vaultKnownSpec)) vaultKnownUptoCard
end Rows
end Go.Proofs.YtdagdllomphidaaGreatDoor
