/- VtLaid. -/
import Derived.Test.YtdagdllomphidaaGreatDoorZF12
import Derived.Deep.DeepLaidRun
import Derived.Stop.LaidErr
import GoSem.PinnedTables
set_option linter.unusedVariables false
set_option linter.unusedSimpArgs false
set_option maxHeartbeats 30000000
set_option maxRecDepth 100000
namespace Go.Proofs.YtdagdllomphidaaGreatDoor
open _root_.Go.Proofs.Tryz Go.RowKit
def q1O:List Int:=[128,191,160,191,128,159,144,191,128,143]++List.replicate 22 0
noncomputable def gh (os:Os):World :=
 { tW os with heap:=((tW os).heap.modify 3 fun
     | .cells _ t frozen=>.cells (q1O.map fun z=>Value.int .u8 z).toArray t frozen
     | o=>o).modify 2 fun
     | .cells _ t frozen=>.cells (Go.Pinned.utf8FirstZ.map fun(z:Nat)=>Value.int .u8 (z:Int)).toArray t frozen
     | o=>o }
end Go.Proofs.YtdagdllomphidaaGreatDoor
