/-
  DERIVED. GIVEN WITH THE SEED: THE CARDS: each row of YtjllpbckmioiiaaDoorRows.lean that lists a variable, with what it lists TIED to the program's text (the seventh form; the later family's looks); each row that meets fmt, with fmt's text TOLD by the authors' own Lean function (tested against real Go, not proved from fmt's source: count such statements apart). THE CARD IS WHAT COUNTS. Prove the row's statement (the work); the ties are given (YtjllpbckmioiiaaDoorTie.lean); close each card by the builder's one call (the guide's Derived/Test/ToyasCard.lean, 'card_holds'). Laid BY PROGRAM, IN A SANDBOX (cutbox-door.mjs). By AI agents, Wed Nov 11 2026. No macro, syntax, notation, axiom, sorry.
-/
import Derived.Test.YtjllpbckmioiiaaDoorRows
import GoSem.ClaimSeven
namespace Go.Proofs.YtjllpbckmioiiaaDoor
namespace Rows

/-- THE TIED CARD OF 'stemmalaw05.JournalAll'. -/
def journalAllCard : Claim7 := { stood := { row := journalAllRow, standIns := [], harness := (true, "423df25bdc82bbb2a932f53c1f38ff716580a94674b56ee861dff79d4e4f7b65"), looks := true }, kinds := [], alts := [], laidByText := true, laidKinds := [.data], laidTests := true, laidLooks := .later }
def JournalAllCardSaid : Prop := Claim7.holds Tryd.pinned (.plain (OpenSpec.ofChange journalAllSpec)) journalAllCard

/-- THE TIED CARD OF 'stemmalaw05.JournalNothing'. -/
def journalNothingCard : Claim7 := { stood := { row := journalNothingRow, standIns := [], harness := (true, "423df25bdc82bbb2a932f53c1f38ff716580a94674b56ee861dff79d4e4f7b65"), looks := true }, kinds := [], alts := [], laidByText := true, laidKinds := [.data], laidTests := true, laidLooks := .later }
def JournalNothingCardSaid : Prop := Claim7.holds Tryd.pinned (.plain (OpenSpec.ofChange journalNothingSpec)) journalNothingCard

/-- THE TIED CARD OF 'stemmalaw05.JournalKnown'. -/
def journalKnownCard : Claim7 := { stood := { row := journalKnownRow, standIns := [], harness := (true, "423df25bdc82bbb2a932f53c1f38ff716580a94674b56ee861dff79d4e4f7b65"), looks := true }, kinds := [], alts := [], laidByText := true, laidKinds := [.data], laidTests := true, laidLooks := .later }
def JournalKnownCardSaid : Prop := Claim7.holds Tryd.pinned (.plain (OpenSpec.ofChange journalKnownSpec)) journalKnownCard

/-- THE TIED CARD OF 'stemmalaw05.JournalTwice'. -/
def journalTwiceCard : Claim7 := { stood := { row := journalTwiceRow, standIns := [], harness := (true, "423df25bdc82bbb2a932f53c1f38ff716580a94674b56ee861dff79d4e4f7b65"), looks := true }, kinds := [], alts := [], laidByText := true, laidKinds := [.data], laidTests := true, laidLooks := .later }
def JournalTwiceCardSaid : Prop := Claim7.holds Tryd.pinned (.plain (OpenSpec.ofChange journalTwiceSpec)) journalTwiceCard

/-- THE SECOND FORM's CARD OF 'stemmalaw05.JournalAll'. -/
def journalAllUptoCard : Claim7 := { stood := { row := journalAllUptoRow, standIns := [], harness := (true, "423df25bdc82bbb2a932f53c1f38ff716580a94674b56ee861dff79d4e4f7b65"), looks := true }, kinds := [], alts := [], laidByText := true, laidKinds := [.data], laidTests := true, laidLooks := .later }
def JournalAllUptoCardSaid : Prop := Claim7.holds Tryd.pinned (.plain (OpenSpec.upto journalAllSpec)) journalAllUptoCard

/-- THE SECOND FORM's CARD OF 'stemmalaw05.JournalNothing'. -/
def journalNothingUptoCard : Claim7 := { stood := { row := journalNothingUptoRow, standIns := [], harness := (true, "423df25bdc82bbb2a932f53c1f38ff716580a94674b56ee861dff79d4e4f7b65"), looks := true }, kinds := [], alts := [], laidByText := true, laidKinds := [.data], laidTests := true, laidLooks := .later }
def JournalNothingUptoCardSaid : Prop := Claim7.holds Tryd.pinned (.plain (OpenSpec.upto journalNothingSpec)) journalNothingUptoCard

/-- THE SECOND FORM's CARD OF 'stemmalaw05.JournalKnown'. -/
def journalKnownUptoCard : Claim7 := { stood := { row := journalKnownUptoRow, standIns := [], harness := (true, "423df25bdc82bbb2a932f53c1f38ff716580a94674b56ee861dff79d4e4f7b65"), looks := true }, kinds := [], alts := [], laidByText := true, laidKinds := [.data], laidTests := true, laidLooks := .later }
def JournalKnownUptoCardSaid : Prop := Claim7.holds Tryd.pinned (.plain (OpenSpec.upto journalKnownSpec)) journalKnownUptoCard

/-- THE SECOND FORM's CARD OF 'stemmalaw05.JournalTwice'. -/
def journalTwiceUptoCard : Claim7 := { stood := { row := journalTwiceUptoRow, standIns := [], harness := (true, "423df25bdc82bbb2a932f53c1f38ff716580a94674b56ee861dff79d4e4f7b65"), looks := true }, kinds := [], alts := [], laidByText := true, laidKinds := [.data], laidTests := true, laidLooks := .later }
def JournalTwiceUptoCardSaid : Prop := Claim7.holds Tryd.pinned (.plain (OpenSpec.upto journalTwiceSpec)) journalTwiceUptoCard
end Rows
end Go.Proofs.YtjllpbckmioiiaaDoor
