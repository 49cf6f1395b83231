/-
  DERIVED. GIVEN WITH THE SEED: THE CARDS: each row of YtdpbdkacngaemaaGreatDoorRows.lean that lists a variable, with what it lists TIED to the program's text (the seventh form; the later family's looks); each row that meets fmt, with fmt's text TOLD by the authors' own Lean function (tested against real Go, not proved from fmt's source: count such statements apart). THE CARD IS WHAT COUNTS. Prove the row's statement (the work); the ties are given (YtdpbdkacngaemaaGreatDoorTie.lean); close each card by the builder's one call (the guide's Derived/Test/ToyasCard.lean, 'card_holds'). Laid BY PROGRAM, IN A SANDBOX (cutbox-door.mjs). By AI agents, Wed Nov 11 2026. No macro, syntax, notation, axiom, sorry.
-/
import Derived.Test.YtdpbdkacngaemaaGreatDoorRows
import GoSem.ClaimSeven
namespace Go.Proofs.YtdpbdkacngaemaaGreatDoor
namespace Rows

/-- THE TIED CARD OF 'stemmalaw12.ReceiveTakes'. -/
def receiveTakesCard : Claim7 := { stood := { row := receiveTakesRow, standIns := [], harness := (true, "ffe372fe33100adc881d86a86d734f0e99435d64934b32de6a0e8aaad444ff38"), looks := true }, kinds := [], alts := [], laidByText := true, laidKinds := [.data, .data, .pinned], laidTests := true, laidLooks := .later }
def ReceiveTakesCardSaid : Prop := Claim7.holds Tryz.pinned (.plain (OpenSpec.ofChange receiveTakesSpec)) receiveTakesCard

/-- THE TIED CARD OF 'stemmalaw12.ReceiveFollows'. -/
def receiveFollowsCard : Claim7 := { stood := { row := receiveFollowsRow, standIns := [], harness := (true, "ffe372fe33100adc881d86a86d734f0e99435d64934b32de6a0e8aaad444ff38"), looks := true }, kinds := [], alts := [], laidByText := true, laidKinds := [.data, .data, .pinned], laidTests := true, laidLooks := .later }
def ReceiveFollowsCardSaid : Prop := Claim7.holds Tryz.pinned (.plain (OpenSpec.ofChange receiveFollowsSpec)) receiveFollowsCard

/-- THE TIED CARD OF 'stemmalaw12.ReceiveCrash'. -/
def receiveCrashCard : Claim7 := { stood := { row := receiveCrashRow, standIns := [], harness := (true, "ffe372fe33100adc881d86a86d734f0e99435d64934b32de6a0e8aaad444ff38"), looks := true }, kinds := [], alts := [], laidByText := true, laidKinds := [.data, .data, .pinned], laidTests := true, laidLooks := .later }
def ReceiveCrashCardSaid : Prop := Claim7.holds Tryz.pinned (.plain (OpenSpec.ofChange receiveCrashSpec)) receiveCrashCard

/-- THE TIED CARD OF 'stemmalaw12.ReceiveKnown'. -/
def receiveKnownCard : Claim7 := { stood := { row := receiveKnownRow, standIns := [], harness := (true, "ffe372fe33100adc881d86a86d734f0e99435d64934b32de6a0e8aaad444ff38"), looks := true }, kinds := [], alts := [], laidByText := true, laidKinds := [.data, .data, .pinned], laidTests := true, laidLooks := .later }
def ReceiveKnownCardSaid : Prop := Claim7.holds Tryz.pinned (.plain (OpenSpec.ofChange receiveKnownSpec)) receiveKnownCard

/-- THE SECOND FORM's CARD OF 'stemmalaw12.ReceiveTakes'. -/
def receiveTakesUptoCard : Claim7 := { stood := { row := receiveTakesUptoRow, standIns := [], harness := (true, "ffe372fe33100adc881d86a86d734f0e99435d64934b32de6a0e8aaad444ff38"), looks := true }, kinds := [], alts := [], laidByText := true, laidKinds := [.data, .data, .pinned], laidTests := true, laidLooks := .later }
def ReceiveTakesUptoCardSaid : Prop := Claim7.holds Tryz.pinned (.plain (OpenSpec.upto receiveTakesSpec)) receiveTakesUptoCard

/-- THE SECOND FORM's CARD OF 'stemmalaw12.ReceiveFollows'. -/
def receiveFollowsUptoCard : Claim7 := { stood := { row := receiveFollowsUptoRow, standIns := [], harness := (true, "ffe372fe33100adc881d86a86d734f0e99435d64934b32de6a0e8aaad444ff38"), looks := true }, kinds := [], alts := [], laidByText := true, laidKinds := [.data, .data, .pinned], laidTests := true, laidLooks := .later }
def ReceiveFollowsUptoCardSaid : Prop := Claim7.holds Tryz.pinned (.plain (OpenSpec.upto receiveFollowsSpec)) receiveFollowsUptoCard

/-- THE SECOND FORM's CARD OF 'stemmalaw12.ReceiveCrash'. -/
def receiveCrashUptoCard : Claim7 := { stood := { row := receiveCrashUptoRow, standIns := [], harness := (true, "ffe372fe33100adc881d86a86d734f0e99435d64934b32de6a0e8aaad444ff38"), looks := true }, kinds := [], alts := [], laidByText := true, laidKinds := [.data, .data, .pinned], laidTests := true, laidLooks := .later }
def ReceiveCrashUptoCardSaid : Prop := Claim7.holds Tryz.pinned (.plain (OpenSpec.upto receiveCrashSpec)) receiveCrashUptoCard

/-- THE SECOND FORM's CARD OF 'stemmalaw12.ReceiveKnown'. -/
def receiveKnownUptoCard : Claim7 := { stood := { row := receiveKnownUptoRow, standIns := [], harness := (true, "ffe372fe33100adc881d86a86d734f0e99435d64934b32de6a0e8aaad444ff38"), looks := true }, kinds := [], alts := [], laidByText := true, laidKinds := [.data, .data, .pinned], laidTests := true, laidLooks := .later }
def ReceiveKnownUptoCardSaid : Prop := Claim7.holds Tryz.pinned (.plain (OpenSpec.upto receiveKnownSpec)) receiveKnownUptoCard
end Rows
end Go.Proofs.YtdpbdkacngaemaaGreatDoor
