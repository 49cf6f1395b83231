/- CLaid, VtLaid. -/
import Derived.Test.YtdagdllomphidaaGreatDoorZP4
import Derived.Test.YtdagdllomphidaaGreatDoorRows
import Derived.Deep.DeepHandedRow
import Derived.Lib.LaidTab
import Derived.Deep.DeepLaidRun
import Derived.Stop.LaidErr
import GoSem.PinnedTables
set_option linter.unusedVariables false
set_option linter.unusedSimpArgs false
set_option maxHeartbeats 30000000
set_option maxRecDepth 100000
namespace Go.Proofs.YtdagdllomphidaaGreatDoor
open _root_.Go.Proofs.Tryz Go.RowKit
def cZs:List Int:=fp.map Int.ofNat
theorem qx4:(prog.globals[0]?).map (·.type)=some 279:=by kernel_rfl
theorem qsX:prog.cellsOf 279=16:=by kernel_rfl
theorem qx5:prog.cellsOf 250=1:=by kernel_rfl
theorem qcu{W:World}{name:String}{rest:List (String × DataW Unit)}(h:laidMet prog ((name,Lib.tabData .u32 cZs)::rest) W)(cg:prog.globalNamed name=some 0):xK W:=by
 have hT:=Lib.tabIs_of_head cg qx4 underlying279 underlying250 qx5 qsX h;have hc:∀i,i<16→W.cell? ⟨0,i,none⟩=some (.int .u32 ((fp.getD i 0:Nat):Int)):=by
  intro i hi;have:=hT.cell cg i (by simpa[cZs,fp]using hi);rw[this];have:∀i:Nat,i<16→cZs.getD i 0=((fp.getD i 0:Nat):Int):=by decide
  rw[this i hi]
 exact⟨World.block_lt_of_cell? W _ (hc 0 (by omega)),hc⟩
noncomputable def qaL (os:Os):World :=
 { World.holding prog os ⟨#[],#[],[]⟩with heap:=(World.holding prog os ⟨#[],#[],[]⟩).heap.modify 0 fun
     | .cells _ t frozen=>.cells (cZs.map fun z=>Value.int .u32 z).toArray t frozen
     | o=>o }
def q3q:List Int:=[128,191,160,191,128,159,144,191,128,143]++List.replicate 22 0
noncomputable def gT (os:Os):World :=
 { qaL os with heap:=((qaL os).heap.modify 3 fun
     | .cells _ t frozen=>.cells (q3q.map fun z=>Value.int .u8 z).toArray t frozen
     | o=>o).modify 2 fun
     | .cells _ t frozen=>.cells (Go.Pinned.utf8FirstZ.map fun(z:Nat)=>Value.int .u8 (z:Int)).toArray t frozen
     | o=>o }
end Go.Proofs.YtdagdllomphidaaGreatDoor
