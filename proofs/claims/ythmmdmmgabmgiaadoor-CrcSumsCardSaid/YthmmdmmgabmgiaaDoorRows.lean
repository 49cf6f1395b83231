/-
  NARROWER THAN 'FOR EVERY INPUT', by the rows' own cells (each row's printed sentence says how): CrcSums: laid · CrcOpens: laid · CrcBack: laid · CrcAdds: laid · CrcOne: laid · CrcKnown: laid.
  DERIVED. THE GIVEN ROWS OF THIS SEAT. 6 by the template 'for every input the law returns true; each argument reads behind the call as it read before'; 0 by the template 'total and deterministic' (their statements: YthmmdmmgabmgiaaDoorTotals.lean).
  GIVEN WITH THE SEED: the statements are not yours to turn. If you find one false, say at which input.
  Laid BY PROGRAM, IN A SANDBOX (cutbox-rows.mjs): the forced cells as the released guide's own fill.sh prints them over the translation 0ba5b55cfbfc0895… (all of the seat's roots in one cut). By AI agents, Wed Nov 11 2026. No macro, syntax, notation, axiom, sorry.
-/
import Derived.Test.YthmmdmmgabmgiaaDoorChecked
import GoSem.Claim
import GoSem.ClaimJoined
import GoSem.ClaimMapViews
import Derived.JoinedTies
import Derived.KernelRfl
namespace Go.Proofs.YthmmdmmgabmgiaaDoor
/- THE CELL 'sum', in the pinned program and in every row, IS THE sha256 OF THE DUMP (.gsa) THAT YthmmdmmgabmgiaaDoorProg.lean LOADS. Nothing in Lean hashes anything: it is a label: what it is worth is what the hold of that sum in a sandbox is worth. -/
noncomputable def Tryd.pinned : Pinned := { name := "ythmmdmmgabmgiaadoor", sum := "0ba5b55cfbfc0895df88b21efe858d1780fc418d3cce613ea4729df70a425c46", checked := Tryd.checked }
namespace Rows
def none {H : Type} : Left H := { results := [], args := [] }

/- WHAT THE LISTED PACKAGE-LEVEL VARIABLES READ AS WHEN THE CALL BEGINS. Each datum BY PROGRAM (the guide's laid-datum.mjs) off the statement by which the dump's own 'gosem.cut.vars' lays the variable. In a bare row this is a premise. The card (YthmmdmmgabmgiaaDoorCards.lean) ties it to the program's text. -/
def laid_stemma_crc_sums {H : Type} : DataW H := .agg [.lit (.int .u32 0), .lit (.int .u32 498536548), .lit (.int .u32 997073096), .lit (.int .u32 651767980), .lit (.int .u32 1994146192), .lit (.int .u32 1802195444), .lit (.int .u32 1303535960), .lit (.int .u32 1342533948), .lit (.int .u32 3988292384), .lit (.int .u32 4027552580), .lit (.int .u32 3604390888), .lit (.int .u32 3412177804), .lit (.int .u32 2607071920), .lit (.int .u32 2262029012), .lit (.int .u32 2685067896), .lit (.int .u32 3183342108)]

/-- 'stemmalaw02.CrcSums': WHATEVER THE INPUT: true; the input reads as it did. -/
def crcSumsSpec : ChangeSpec := { name := "crcSums", fn := fun _ => fun
  | [d] => { results := [.lit (.bool true)], args := [d] }
  | _ => none }
def crcSumsRow : OpenClaim := { program := "ythmmdmmgabmgiaadoor", sum := "0ba5b55cfbfc0895df88b21efe858d1780fc418d3cce613ea4729df70a425c46", func := "stemma/stemmalaw02.CrcSums", spec := "crcSums", unfollowed := true, recurses := true, named := ["stemma/crc.sums"], apart := false, laid := [("stemma/crc.sums", laid_stemma_crc_sums)] }
def CrcSumsSaid : Prop := crcSumsRow.holds Tryd.pinned (OpenSpec.ofChange crcSumsSpec)

/-- ITS FALSE NEIGHBOUR: 'it returns false'. Refute it at one input. -/
def crcSumsWrong : ChangeSpec := { name := "crcSums", fn := fun _ => fun
  | [d] => { results := [.lit (.bool false)], args := [d] }
  | _ => none }
def CrcSumsWrongFalsely : Prop := crcSumsRow.holds Tryd.pinned (OpenSpec.ofChange crcSumsWrong)

/-- 'stemmalaw02.CrcOpens': WHATEVER THE INPUT: true; the input reads as it did. -/
def crcOpensSpec : ChangeSpec := { name := "crcOpens", fn := fun _ => fun
  | [d] => { results := [.lit (.bool true)], args := [d] }
  | _ => none }
def crcOpensRow : OpenClaim := { program := "ythmmdmmgabmgiaadoor", sum := "0ba5b55cfbfc0895df88b21efe858d1780fc418d3cce613ea4729df70a425c46", func := "stemma/stemmalaw02.CrcOpens", spec := "crcOpens", unfollowed := true, recurses := true, named := ["stemma/crc.sums"], apart := false, laid := [("stemma/crc.sums", laid_stemma_crc_sums)] }
def CrcOpensSaid : Prop := crcOpensRow.holds Tryd.pinned (OpenSpec.ofChange crcOpensSpec)

/-- ITS FALSE NEIGHBOUR: 'it returns false'. Refute it at one input. -/
def crcOpensWrong : ChangeSpec := { name := "crcOpens", fn := fun _ => fun
  | [d] => { results := [.lit (.bool false)], args := [d] }
  | _ => none }
def CrcOpensWrongFalsely : Prop := crcOpensRow.holds Tryd.pinned (OpenSpec.ofChange crcOpensWrong)

/-- 'stemmalaw02.CrcBack': WHATEVER THE INPUT: true; the input reads as it did. -/
def crcBackSpec : ChangeSpec := { name := "crcBack", fn := fun _ => fun
  | [d1, d2, d3] => { results := [.lit (.bool true)], args := [d1, d2, d3] }
  | _ => none }
def crcBackRow : OpenClaim := { program := "ythmmdmmgabmgiaadoor", sum := "0ba5b55cfbfc0895df88b21efe858d1780fc418d3cce613ea4729df70a425c46", func := "stemma/stemmalaw02.CrcBack", spec := "crcBack", unfollowed := true, recurses := true, named := ["stemma/crc.sums"], apart := false, laid := [("stemma/crc.sums", laid_stemma_crc_sums)] }
def CrcBackSaid : Prop := crcBackRow.holds Tryd.pinned (OpenSpec.ofChange crcBackSpec)

/-- ITS FALSE NEIGHBOUR: 'it returns false'. Refute it at one input. -/
def crcBackWrong : ChangeSpec := { name := "crcBack", fn := fun _ => fun
  | [d1, d2, d3] => { results := [.lit (.bool false)], args := [d1, d2, d3] }
  | _ => none }
def CrcBackWrongFalsely : Prop := crcBackRow.holds Tryd.pinned (OpenSpec.ofChange crcBackWrong)

/-- 'stemmalaw02.CrcAdds': WHATEVER THE INPUT: true; the input reads as it did. -/
def crcAddsSpec : ChangeSpec := { name := "crcAdds", fn := fun _ => fun
  | [d1, d2, d3] => { results := [.lit (.bool true)], args := [d1, d2, d3] }
  | _ => none }
def crcAddsRow : OpenClaim := { program := "ythmmdmmgabmgiaadoor", sum := "0ba5b55cfbfc0895df88b21efe858d1780fc418d3cce613ea4729df70a425c46", func := "stemma/stemmalaw02.CrcAdds", spec := "crcAdds", unfollowed := true, recurses := true, named := ["stemma/crc.sums"], apart := false, laid := [("stemma/crc.sums", laid_stemma_crc_sums)] }
def CrcAddsSaid : Prop := crcAddsRow.holds Tryd.pinned (OpenSpec.ofChange crcAddsSpec)

/-- ITS FALSE NEIGHBOUR: 'it returns false'. Refute it at one input. -/
def crcAddsWrong : ChangeSpec := { name := "crcAdds", fn := fun _ => fun
  | [d1, d2, d3] => { results := [.lit (.bool false)], args := [d1, d2, d3] }
  | _ => none }
def CrcAddsWrongFalsely : Prop := crcAddsRow.holds Tryd.pinned (OpenSpec.ofChange crcAddsWrong)

/-- 'stemmalaw02.CrcOne': WHATEVER THE INPUT: true; the input reads as it did. -/
def crcOneSpec : ChangeSpec := { name := "crcOne", fn := fun _ => fun
  | [d1, d2] => { results := [.lit (.bool true)], args := [d1, d2] }
  | _ => none }
def crcOneRow : OpenClaim := { program := "ythmmdmmgabmgiaadoor", sum := "0ba5b55cfbfc0895df88b21efe858d1780fc418d3cce613ea4729df70a425c46", func := "stemma/stemmalaw02.CrcOne", spec := "crcOne", unfollowed := true, recurses := true, named := ["stemma/crc.sums"], apart := false, laid := [("stemma/crc.sums", laid_stemma_crc_sums)] }
def CrcOneSaid : Prop := crcOneRow.holds Tryd.pinned (OpenSpec.ofChange crcOneSpec)

/-- ITS FALSE NEIGHBOUR: 'it returns false'. Refute it at one input. -/
def crcOneWrong : ChangeSpec := { name := "crcOne", fn := fun _ => fun
  | [d1, d2] => { results := [.lit (.bool false)], args := [d1, d2] }
  | _ => none }
def CrcOneWrongFalsely : Prop := crcOneRow.holds Tryd.pinned (OpenSpec.ofChange crcOneWrong)

/-- 'stemmalaw02.CrcKnown': WHATEVER THE INPUT: true; the input reads as it did. -/
def crcKnownSpec : ChangeSpec := { name := "crcKnown", fn := fun _ => fun
  | [] => { results := [.lit (.bool true)], args := [] }
  | _ => none }
def crcKnownRow : OpenClaim := { program := "ythmmdmmgabmgiaadoor", sum := "0ba5b55cfbfc0895df88b21efe858d1780fc418d3cce613ea4729df70a425c46", func := "stemma/stemmalaw02.CrcKnown", spec := "crcKnown", unfollowed := true, recurses := true, named := ["stemma/crc.sums"], apart := false, laid := [("stemma/crc.sums", laid_stemma_crc_sums)] }
def CrcKnownSaid : Prop := crcKnownRow.holds Tryd.pinned (OpenSpec.ofChange crcKnownSpec)

/-- ITS FALSE NEIGHBOUR: 'it returns false'. Refute it at one input. -/
def crcKnownWrong : ChangeSpec := { name := "crcKnown", fn := fun _ => fun
  | [] => { results := [.lit (.bool false)], args := [] }
  | _ => none }
def CrcKnownWrongFalsely : Prop := crcKnownRow.holds Tryd.pinned (OpenSpec.ofChange crcKnownWrong)

/- THE SECOND FORM. 'bulk': how many values and letters a reading holds, each counted each time it is reached (what is shared counts as often as it is met; a slice's spare places count too). A statement '..UptoSaid' is the law's where the arguments, and the package variables that the reading takes, are together of bulk at most 1048576: NARROWER than '..Said'. Prove '..Said' where nothing that the law and all that it calls make is longer than what came in: it says more and counts as full. Else prove '..UptoSaid'. A law counts once. -/
mutual
def uptoBulk {H : Type} : DataW H → Nat
  | .lit (.string bytes) => bytes.length + 1
  | .lit _ => 1
  | .nil => 1
  | .ptr d => uptoBulk d + 1
  | .slice elems spare => uptoBulkAll elems + uptoBulkAll spare + 1
  | .agg parts => uptoBulkAll parts + 1
  | .iface _ d => uptoBulk d + 1
  | .map entries => uptoBulkEntries entries + 1
  | .held _ => 1
def uptoBulkAll {H : Type} : List (DataW H) → Nat
  | [] => 0
  | d :: r => uptoBulk d + uptoBulkAll r
def uptoBulkEntries {H : Type} : List (Lit × DataW H) → Nat
  | [] => 0
  | x :: r => uptoBulkEntry x + uptoBulkEntries r
def uptoBulkEntry {H : Type} : Lit × DataW H → Nat
  | (.string bytes, d) => bytes.length + uptoBulk d + 1
  | (_, d) => uptoBulk d + 1
 end
def uptoSmall : (H : Type) → List (DataW H) → Bool := fun _ ds => decide (uptoBulkAll ds ≤ 1048576)
def OpenSpec.upto (s : _root_.Go.ChangeSpec) : _root_.Go.OpenSpec := { _root_.Go.OpenSpec.ofChange s with cond := some uptoSmall }

/-- 'stemmalaw02.CrcSums', WHERE WHAT IT READS IS OF BULK AT MOST 1048576: true; the input reads as it did. -/
def crcSumsUptoRow : OpenClaim := { program := "ythmmdmmgabmgiaadoor", sum := "0ba5b55cfbfc0895df88b21efe858d1780fc418d3cce613ea4729df70a425c46", func := "stemma/stemmalaw02.CrcSums", spec := "crcSums", unfollowed := true, recurses := true, named := ["stemma/crc.sums"], apart := false, laid := [("stemma/crc.sums", laid_stemma_crc_sums)], narrowed := true }
def CrcSumsUptoSaid : Prop := crcSumsUptoRow.holds Tryd.pinned (OpenSpec.upto crcSumsSpec)

/-- 'stemmalaw02.CrcOpens', WHERE WHAT IT READS IS OF BULK AT MOST 1048576: true; the input reads as it did. -/
def crcOpensUptoRow : OpenClaim := { program := "ythmmdmmgabmgiaadoor", sum := "0ba5b55cfbfc0895df88b21efe858d1780fc418d3cce613ea4729df70a425c46", func := "stemma/stemmalaw02.CrcOpens", spec := "crcOpens", unfollowed := true, recurses := true, named := ["stemma/crc.sums"], apart := false, laid := [("stemma/crc.sums", laid_stemma_crc_sums)], narrowed := true }
def CrcOpensUptoSaid : Prop := crcOpensUptoRow.holds Tryd.pinned (OpenSpec.upto crcOpensSpec)

/-- 'stemmalaw02.CrcBack', WHERE WHAT IT READS IS OF BULK AT MOST 1048576: true; the input reads as it did. -/
def crcBackUptoRow : OpenClaim := { program := "ythmmdmmgabmgiaadoor", sum := "0ba5b55cfbfc0895df88b21efe858d1780fc418d3cce613ea4729df70a425c46", func := "stemma/stemmalaw02.CrcBack", spec := "crcBack", unfollowed := true, recurses := true, named := ["stemma/crc.sums"], apart := false, laid := [("stemma/crc.sums", laid_stemma_crc_sums)], narrowed := true }
def CrcBackUptoSaid : Prop := crcBackUptoRow.holds Tryd.pinned (OpenSpec.upto crcBackSpec)

/-- 'stemmalaw02.CrcAdds', WHERE WHAT IT READS IS OF BULK AT MOST 1048576: true; the input reads as it did. -/
def crcAddsUptoRow : OpenClaim := { program := "ythmmdmmgabmgiaadoor", sum := "0ba5b55cfbfc0895df88b21efe858d1780fc418d3cce613ea4729df70a425c46", func := "stemma/stemmalaw02.CrcAdds", spec := "crcAdds", unfollowed := true, recurses := true, named := ["stemma/crc.sums"], apart := false, laid := [("stemma/crc.sums", laid_stemma_crc_sums)], narrowed := true }
def CrcAddsUptoSaid : Prop := crcAddsUptoRow.holds Tryd.pinned (OpenSpec.upto crcAddsSpec)

/-- 'stemmalaw02.CrcOne', WHERE WHAT IT READS IS OF BULK AT MOST 1048576: true; the input reads as it did. -/
def crcOneUptoRow : OpenClaim := { program := "ythmmdmmgabmgiaadoor", sum := "0ba5b55cfbfc0895df88b21efe858d1780fc418d3cce613ea4729df70a425c46", func := "stemma/stemmalaw02.CrcOne", spec := "crcOne", unfollowed := true, recurses := true, named := ["stemma/crc.sums"], apart := false, laid := [("stemma/crc.sums", laid_stemma_crc_sums)], narrowed := true }
def CrcOneUptoSaid : Prop := crcOneUptoRow.holds Tryd.pinned (OpenSpec.upto crcOneSpec)

/-- 'stemmalaw02.CrcKnown', WHERE WHAT IT READS IS OF BULK AT MOST 1048576: true; the input reads as it did. -/
def crcKnownUptoRow : OpenClaim := { program := "ythmmdmmgabmgiaadoor", sum := "0ba5b55cfbfc0895df88b21efe858d1780fc418d3cce613ea4729df70a425c46", func := "stemma/stemmalaw02.CrcKnown", spec := "crcKnown", unfollowed := true, recurses := true, named := ["stemma/crc.sums"], apart := false, laid := [("stemma/crc.sums", laid_stemma_crc_sums)], narrowed := true }
def CrcKnownUptoSaid : Prop := crcKnownUptoRow.holds Tryd.pinned (OpenSpec.upto crcKnownSpec)

end Rows
end Go.Proofs.YthmmdmmgabmgiaaDoor
