/-
  NARROWER THAN 'FOR EVERY INPUT', by the rows' own cells (each row's printed sentence says how): VaultChain: laid · VaultCrash: laid · VaultParts: laid · VaultFull: laid · VaultKnown: laid.
  DERIVED. THE GIVEN ROWS OF THIS SEAT. 5 by the template 'for every input the law returns true; each argument reads behind the call as it read before'; 0 by the template 'total and deterministic' (their statements: YtdagdllomphidaaGreatDoorTotals.lean).
  GIVEN WITH THE SEED: the statements are not yours to turn. If you find one false, say at which input.
  Laid BY PROGRAM, IN A SANDBOX (cutbox-rows.mjs): the forced cells as the released guide's own fill.sh prints them over the translation 96c6ecc265b4d99e… (all of the seat's roots in one cut). By AI agents, Wed Nov 11 2026. No macro, syntax, notation, axiom, sorry.
-/
import Derived.Test.YtdagdllomphidaaGreatDoorChecked
import GoSem.PinnedTables
import GoSem.Claim
import GoSem.ClaimJoined
import GoSem.ClaimMapViews
import Derived.JoinedTies
import Derived.KernelRfl
namespace Go.Proofs.YtdagdllomphidaaGreatDoor
/- THE CELL 'sum', in the pinned program and in every row, IS THE sha256 OF THE DUMP (.gsa) THAT YtdagdllomphidaaGreatDoorProg.lean LOADS. Nothing in Lean hashes anything: it is a label: what it is worth is what the hold of that sum in a sandbox is worth. -/
noncomputable def Tryz.pinned : Pinned := { name := "ytdagdllomphidaagreatdoor", sum := "96c6ecc265b4d99e77975f7233bb68ccdf11b2c566f4da65c59bbfc4b4c50cbb", checked := Tryz.checked }
namespace Rows
def none {H : Type} : Left H := { results := [], args := [] }

/- WHAT THE LISTED PACKAGE-LEVEL VARIABLES READ AS WHEN THE CALL BEGINS. Each datum BY PROGRAM (the guide's laid-datum.mjs) off the statement by which the dump's own 'gosem.cut.vars' lays the variable. In a bare row this is a premise. The card (YtdagdllomphidaaGreatDoorCards.lean) ties it to the program's text. -/
def laid_unicode_utf8_acceptRanges {H : Type} : DataW H := .agg [.agg [.lit (.int .u8 128), .lit (.int .u8 191)], .agg [.lit (.int .u8 160), .lit (.int .u8 191)], .agg [.lit (.int .u8 128), .lit (.int .u8 159)], .agg [.lit (.int .u8 144), .lit (.int .u8 191)], .agg [.lit (.int .u8 128), .lit (.int .u8 143)], .agg [.lit (.int .u8 0), .lit (.int .u8 0)], .agg [.lit (.int .u8 0), .lit (.int .u8 0)], .agg [.lit (.int .u8 0), .lit (.int .u8 0)], .agg [.lit (.int .u8 0), .lit (.int .u8 0)], .agg [.lit (.int .u8 0), .lit (.int .u8 0)], .agg [.lit (.int .u8 0), .lit (.int .u8 0)], .agg [.lit (.int .u8 0), .lit (.int .u8 0)], .agg [.lit (.int .u8 0), .lit (.int .u8 0)], .agg [.lit (.int .u8 0), .lit (.int .u8 0)], .agg [.lit (.int .u8 0), .lit (.int .u8 0)], .agg [.lit (.int .u8 0), .lit (.int .u8 0)]]
def laid_stemma_crc_sums {H : Type} : DataW H := .agg [.lit (.int .u32 0), .lit (.int .u32 498536548), .lit (.int .u32 997073096), .lit (.int .u32 651767980), .lit (.int .u32 1994146192), .lit (.int .u32 1802195444), .lit (.int .u32 1303535960), .lit (.int .u32 1342533948), .lit (.int .u32 3988292384), .lit (.int .u32 4027552580), .lit (.int .u32 3604390888), .lit (.int .u32 3412177804), .lit (.int .u32 2607071920), .lit (.int .u32 2262029012), .lit (.int .u32 2685067896), .lit (.int .u32 3183342108)]
/-- One of Go's own tables, pinned by name: the form's constant. -/
def laid_unicode_utf8_first : DataW Unit := Go.Pinned.utf8First

/-- 'stemmalaw10.VaultChain': WHATEVER THE INPUT: true; the input reads as it did. -/
def vaultChainSpec : ChangeSpec := { name := "vaultChain", fn := fun _ => fun
  | [d] => { results := [.lit (.bool true)], args := [d] }
  | _ => none }
def vaultChainRow : OpenClaim := { program := "ytdagdllomphidaagreatdoor", sum := "96c6ecc265b4d99e77975f7233bb68ccdf11b2c566f4da65c59bbfc4b4c50cbb", func := "stemma/stemmalaw10.VaultChain", spec := "vaultChain", inPlace := ["internal/abi.NoEscape", "internal/bytealg.MakeNoZero", "maps.clone", "internal/bytealg.IndexByteString", "internal/bytealg.IndexString"], unfollowed := true, recurses := true, named := ["stemma/crc.sums", "unicode/utf8.first", "unicode/utf8.acceptRanges", "internal/bytealg.MaxLen"], apart := false, laid := [("unicode/utf8.acceptRanges", laid_unicode_utf8_acceptRanges), ("stemma/crc.sums", laid_stemma_crc_sums), ("unicode/utf8.first", laid_unicode_utf8_first)] }
def VaultChainSaid : Prop := vaultChainRow.holds Tryz.pinned (OpenSpec.ofChange vaultChainSpec)

/-- ITS FALSE NEIGHBOUR: 'it returns false'. Refute it at one input. -/
def vaultChainWrong : ChangeSpec := { name := "vaultChain", fn := fun _ => fun
  | [d] => { results := [.lit (.bool false)], args := [d] }
  | _ => none }
def VaultChainWrongFalsely : Prop := vaultChainRow.holds Tryz.pinned (OpenSpec.ofChange vaultChainWrong)

/-- 'stemmalaw10.VaultCrash': WHATEVER THE INPUT: true; the input reads as it did. -/
def vaultCrashSpec : ChangeSpec := { name := "vaultCrash", fn := fun _ => fun
  | [d1, d2, d3] => { results := [.lit (.bool true)], args := [d1, d2, d3] }
  | _ => none }
def vaultCrashRow : OpenClaim := { program := "ytdagdllomphidaagreatdoor", sum := "96c6ecc265b4d99e77975f7233bb68ccdf11b2c566f4da65c59bbfc4b4c50cbb", func := "stemma/stemmalaw10.VaultCrash", spec := "vaultCrash", inPlace := ["internal/abi.NoEscape", "internal/bytealg.MakeNoZero", "maps.clone", "internal/bytealg.IndexByteString", "internal/bytealg.IndexString"], unfollowed := true, recurses := true, named := ["stemma/crc.sums", "unicode/utf8.first", "unicode/utf8.acceptRanges", "internal/bytealg.MaxLen"], apart := false, laid := [("unicode/utf8.acceptRanges", laid_unicode_utf8_acceptRanges), ("stemma/crc.sums", laid_stemma_crc_sums), ("unicode/utf8.first", laid_unicode_utf8_first)] }
def VaultCrashSaid : Prop := vaultCrashRow.holds Tryz.pinned (OpenSpec.ofChange vaultCrashSpec)

/-- ITS FALSE NEIGHBOUR: 'it returns false'. Refute it at one input. -/
def vaultCrashWrong : ChangeSpec := { name := "vaultCrash", fn := fun _ => fun
  | [d1, d2, d3] => { results := [.lit (.bool false)], args := [d1, d2, d3] }
  | _ => none }
def VaultCrashWrongFalsely : Prop := vaultCrashRow.holds Tryz.pinned (OpenSpec.ofChange vaultCrashWrong)

/-- 'stemmalaw10.VaultParts': WHATEVER THE INPUT: true; the input reads as it did. -/
def vaultPartsSpec : ChangeSpec := { name := "vaultParts", fn := fun _ => fun
  | [d1, d2, d3] => { results := [.lit (.bool true)], args := [d1, d2, d3] }
  | _ => none }
def vaultPartsRow : OpenClaim := { program := "ytdagdllomphidaagreatdoor", sum := "96c6ecc265b4d99e77975f7233bb68ccdf11b2c566f4da65c59bbfc4b4c50cbb", func := "stemma/stemmalaw10.VaultParts", spec := "vaultParts", inPlace := ["internal/abi.NoEscape", "internal/bytealg.MakeNoZero", "maps.clone", "internal/bytealg.IndexByteString", "internal/bytealg.IndexString"], unfollowed := true, recurses := true, named := ["stemma/crc.sums", "unicode/utf8.first", "unicode/utf8.acceptRanges", "internal/bytealg.MaxLen"], apart := false, laid := [("unicode/utf8.acceptRanges", laid_unicode_utf8_acceptRanges), ("stemma/crc.sums", laid_stemma_crc_sums), ("unicode/utf8.first", laid_unicode_utf8_first)] }
def VaultPartsSaid : Prop := vaultPartsRow.holds Tryz.pinned (OpenSpec.ofChange vaultPartsSpec)

/-- ITS FALSE NEIGHBOUR: 'it returns false'. Refute it at one input. -/
def vaultPartsWrong : ChangeSpec := { name := "vaultParts", fn := fun _ => fun
  | [d1, d2, d3] => { results := [.lit (.bool false)], args := [d1, d2, d3] }
  | _ => none }
def VaultPartsWrongFalsely : Prop := vaultPartsRow.holds Tryz.pinned (OpenSpec.ofChange vaultPartsWrong)

/-- 'stemmalaw10.VaultFull': WHATEVER THE INPUT: true; the input reads as it did. -/
def vaultFullSpec : ChangeSpec := { name := "vaultFull", fn := fun _ => fun
  | [d1, d2] => { results := [.lit (.bool true)], args := [d1, d2] }
  | _ => none }
def vaultFullRow : OpenClaim := { program := "ytdagdllomphidaagreatdoor", sum := "96c6ecc265b4d99e77975f7233bb68ccdf11b2c566f4da65c59bbfc4b4c50cbb", func := "stemma/stemmalaw10.VaultFull", spec := "vaultFull", inPlace := ["internal/abi.NoEscape", "internal/bytealg.MakeNoZero", "maps.clone", "internal/bytealg.IndexByteString", "internal/bytealg.IndexString"], unfollowed := true, recurses := true, named := ["stemma/crc.sums", "unicode/utf8.first", "unicode/utf8.acceptRanges", "internal/bytealg.MaxLen"], apart := false, laid := [("unicode/utf8.acceptRanges", laid_unicode_utf8_acceptRanges), ("stemma/crc.sums", laid_stemma_crc_sums), ("unicode/utf8.first", laid_unicode_utf8_first)] }
def VaultFullSaid : Prop := vaultFullRow.holds Tryz.pinned (OpenSpec.ofChange vaultFullSpec)

/-- ITS FALSE NEIGHBOUR: 'it returns false'. Refute it at one input. -/
def vaultFullWrong : ChangeSpec := { name := "vaultFull", fn := fun _ => fun
  | [d1, d2] => { results := [.lit (.bool false)], args := [d1, d2] }
  | _ => none }
def VaultFullWrongFalsely : Prop := vaultFullRow.holds Tryz.pinned (OpenSpec.ofChange vaultFullWrong)

/-- 'stemmalaw10.VaultKnown': WHATEVER THE INPUT: true; the input reads as it did. -/
def vaultKnownSpec : ChangeSpec := { name := "vaultKnown", fn := fun _ => fun
  | [] => { results := [.lit (.bool true)], args := [] }
  | _ => none }
def vaultKnownRow : OpenClaim := { program := "ytdagdllomphidaagreatdoor", sum := "96c6ecc265b4d99e77975f7233bb68ccdf11b2c566f4da65c59bbfc4b4c50cbb", func := "stemma/stemmalaw10.VaultKnown", spec := "vaultKnown", inPlace := ["internal/abi.NoEscape", "maps.clone", "internal/bytealg.MakeNoZero", "internal/bytealg.IndexByteString", "internal/bytealg.IndexString"], unfollowed := true, recurses := true, named := ["stemma/crc.sums", "unicode/utf8.first", "unicode/utf8.acceptRanges", "internal/bytealg.MaxLen"], apart := false, laid := [("unicode/utf8.acceptRanges", laid_unicode_utf8_acceptRanges), ("stemma/crc.sums", laid_stemma_crc_sums), ("unicode/utf8.first", laid_unicode_utf8_first)] }
def VaultKnownSaid : Prop := vaultKnownRow.holds Tryz.pinned (OpenSpec.ofChange vaultKnownSpec)

/-- ITS FALSE NEIGHBOUR: 'it returns false'. Refute it at one input. -/
def vaultKnownWrong : ChangeSpec := { name := "vaultKnown", fn := fun _ => fun
  | [] => { results := [.lit (.bool false)], args := [] }
  | _ => none }
def VaultKnownWrongFalsely : Prop := vaultKnownRow.holds Tryz.pinned (OpenSpec.ofChange vaultKnownWrong)

/- THE SECOND FORM. 'bulk': how many values and letters a reading holds, each counted each time it is reached (what is shared counts as often as it is met; a slice's spare places count too). A statement '..UptoSaid' is the law's where the arguments, and the package variables that the reading takes, are together of bulk at most 1048576: NARROWER than '..Said'. Prove '..Said' where nothing that the law and all that it calls make is longer than what came in: it says more and counts as full. Else prove '..UptoSaid'. A law counts once. -/
mutual
def uptoBulk {H : Type} : DataW H → Nat
  | .lit (.string bytes) => bytes.length + 1
  | .lit _ => 1
  | .nil => 1
  | .ptr d => uptoBulk d + 1
  | .slice elems spare => uptoBulkAll elems + uptoBulkAll spare + 1
  | .agg parts => uptoBulkAll parts + 1
  | .iface _ d => uptoBulk d + 1
  | .map entries => uptoBulkEntries entries + 1
  | .held _ => 1
def uptoBulkAll {H : Type} : List (DataW H) → Nat
  | [] => 0
  | d :: r => uptoBulk d + uptoBulkAll r
def uptoBulkEntries {H : Type} : List (Lit × DataW H) → Nat
  | [] => 0
  | x :: r => uptoBulkEntry x + uptoBulkEntries r
def uptoBulkEntry {H : Type} : Lit × DataW H → Nat
  | (.string bytes, d) => bytes.length + uptoBulk d + 1
  | (_, d) => uptoBulk d + 1
 end
def uptoSmall : (H : Type) → List (DataW H) → Bool := fun _ ds => decide (uptoBulkAll ds ≤ 1048576)
def OpenSpec.upto (s : _root_.Go.ChangeSpec) : _root_.Go.OpenSpec := { _root_.Go.OpenSpec.ofChange s with cond := some uptoSmall }

/-- 'stemmalaw10.VaultChain', WHERE WHAT IT READS IS OF BULK AT MOST 1048576: true; the input reads as it did. -/
def vaultChainUptoRow : OpenClaim := { program := "ytdagdllomphidaagreatdoor", sum := "96c6ecc265b4d99e77975f7233bb68ccdf11b2c566f4da65c59bbfc4b4c50cbb", func := "stemma/stemmalaw10.VaultChain", spec := "vaultChain", inPlace := ["internal/abi.NoEscape", "internal/bytealg.MakeNoZero", "maps.clone", "internal/bytealg.IndexByteString", "internal/bytealg.IndexString"], unfollowed := true, recurses := true, named := ["stemma/crc.sums", "unicode/utf8.first", "unicode/utf8.acceptRanges", "internal/bytealg.MaxLen"], apart := false, laid := [("unicode/utf8.acceptRanges", laid_unicode_utf8_acceptRanges), ("stemma/crc.sums", laid_stemma_crc_sums), ("unicode/utf8.first", laid_unicode_utf8_first)], narrowed := true }
def VaultChainUptoSaid : Prop := vaultChainUptoRow.holds Tryz.pinned (OpenSpec.upto vaultChainSpec)

/-- 'stemmalaw10.VaultCrash', WHERE WHAT IT READS IS OF BULK AT MOST 1048576: true; the input reads as it did. -/
def vaultCrashUptoRow : OpenClaim := { program := "ytdagdllomphidaagreatdoor", sum := "96c6ecc265b4d99e77975f7233bb68ccdf11b2c566f4da65c59bbfc4b4c50cbb", func := "stemma/stemmalaw10.VaultCrash", spec := "vaultCrash", inPlace := ["internal/abi.NoEscape", "internal/bytealg.MakeNoZero", "maps.clone", "internal/bytealg.IndexByteString", "internal/bytealg.IndexString"], unfollowed := true, recurses := true, named := ["stemma/crc.sums", "unicode/utf8.first", "unicode/utf8.acceptRanges", "internal/bytealg.MaxLen"], apart := false, laid := [("unicode/utf8.acceptRanges", laid_unicode_utf8_acceptRanges), ("stemma/crc.sums", laid_stemma_crc_sums), ("unicode/utf8.first", laid_unicode_utf8_first)], narrowed := true }
def VaultCrashUptoSaid : Prop := vaultCrashUptoRow.holds Tryz.pinned (OpenSpec.upto vaultCrashSpec)

/-- 'stemmalaw10.VaultParts', WHERE WHAT IT READS IS OF BULK AT MOST 1048576: true; the input reads as it did. -/
def vaultPartsUptoRow : OpenClaim := { program := "ytdagdllomphidaagreatdoor", sum := "96c6ecc265b4d99e77975f7233bb68ccdf11b2c566f4da65c59bbfc4b4c50cbb", func := "stemma/stemmalaw10.VaultParts", spec := "vaultParts", inPlace := ["internal/abi.NoEscape", "internal/bytealg.MakeNoZero", "maps.clone", "internal/bytealg.IndexByteString", "internal/bytealg.IndexString"], unfollowed := true, recurses := true, named := ["stemma/crc.sums", "unicode/utf8.first", "unicode/utf8.acceptRanges", "internal/bytealg.MaxLen"], apart := false, laid := [("unicode/utf8.acceptRanges", laid_unicode_utf8_acceptRanges), ("stemma/crc.sums", laid_stemma_crc_sums), ("unicode/utf8.first", laid_unicode_utf8_first)], narrowed := true }
def VaultPartsUptoSaid : Prop := vaultPartsUptoRow.holds Tryz.pinned (OpenSpec.upto vaultPartsSpec)

/-- 'stemmalaw10.VaultFull', WHERE WHAT IT READS IS OF BULK AT MOST 1048576: true; the input reads as it did. -/
def vaultFullUptoRow : OpenClaim := { program := "ytdagdllomphidaagreatdoor", sum := "96c6ecc265b4d99e77975f7233bb68ccdf11b2c566f4da65c59bbfc4b4c50cbb", func := "stemma/stemmalaw10.VaultFull", spec := "vaultFull", inPlace := ["internal/abi.NoEscape", "internal/bytealg.MakeNoZero", "maps.clone", "internal/bytealg.IndexByteString", "internal/bytealg.IndexString"], unfollowed := true, recurses := true, named := ["stemma/crc.sums", "unicode/utf8.first", "unicode/utf8.acceptRanges", "internal/bytealg.MaxLen"], apart := false, laid := [("unicode/utf8.acceptRanges", laid_unicode_utf8_acceptRanges), ("stemma/crc.sums", laid_stemma_crc_sums), ("unicode/utf8.first", laid_unicode_utf8_first)], narrowed := true }
def VaultFullUptoSaid : Prop := vaultFullUptoRow.holds Tryz.pinned (OpenSpec.upto vaultFullSpec)

/-- 'stemmalaw10.VaultKnown', WHERE WHAT IT READS IS OF BULK AT MOST 1048576: true; the input reads as it did. -/
def vaultKnownUptoRow : OpenClaim := { program := "ytdagdllomphidaagreatdoor", sum := "96c6ecc265b4d99e77975f7233bb68ccdf11b2c566f4da65c59bbfc4b4c50cbb", func := "stemma/stemmalaw10.VaultKnown", spec := "vaultKnown", inPlace := ["internal/abi.NoEscape", "maps.clone", "internal/bytealg.MakeNoZero", "internal/bytealg.IndexByteString", "internal/bytealg.IndexString"], unfollowed := true, recurses := true, named := ["stemma/crc.sums", "unicode/utf8.first", "unicode/utf8.acceptRanges", "internal/bytealg.MaxLen"], apart := false, laid := [("unicode/utf8.acceptRanges", laid_unicode_utf8_acceptRanges), ("stemma/crc.sums", laid_stemma_crc_sums), ("unicode/utf8.first", laid_unicode_utf8_first)], narrowed := true }
def VaultKnownUptoSaid : Prop := vaultKnownUptoRow.holds Tryz.pinned (OpenSpec.upto vaultKnownSpec)

end Rows
end Go.Proofs.YtdagdllomphidaaGreatDoor
