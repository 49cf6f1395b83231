/- CLaid. -/
import Derived.Test.YtdpbdkacngaemaaDoorQ4
import Derived.Test.YtdpbdkacngaemaaDoorRows
import Derived.Deep.DeepHandedRow
import Derived.Lib.LaidTab
set_option linter.unusedVariables false
set_option linter.unusedSimpArgs false
/- What the rows list of the variable of package crc, as the walks want it; and a world in which it holds that. -/
namespace Go.Proofs.YtdpbdkacngaemaaDoor
open Go.RowKit
set_option maxRecDepth 100000

def cZs : List Int := tabL.map Int.ofNat

theorem cgType : (Tryd.prog.globals[0]?).map (·.type) = some 96 := by kernel_rfl
theorem cgCells : Tryd.prog.cellsOf 96 = 16 := by kernel_rfl
theorem cgCell : Tryd.prog.cellsOf 88 = 1 := by kernel_rfl

theorem ctab_of_laid {W : World} {name : String} {rest : List (String × DataW Unit)} (h : laidMet Tryd.prog ((name, Lib.tabData .u32 cZs) :: rest) W) (cg : Tryd.prog.globalNamed name = some 0) : CTab W := by
  have hT := Lib.tabIs_of_head cg cgType Tryd.underlying96 Tryd.underlying88 cgCell cgCells h
  have hc : ∀ i, i < 16 → W.cell? ⟨0, i, none⟩ = some (.int .u32 ((tabL.getD i 0 : Nat) : Int)) := by
    intro i hi
    have := hT.cell cg i (by simpa [cZs, tabL] using hi)
    rw [this]
    have : ∀ i : Nat, i < 16 → cZs.getD i 0 = ((tabL.getD i 0 : Nat) : Int) := by decide
    rw [this i hi]
  exact ⟨World.block_lt_of_cell? W _ (hc 0 (by omega)), hc⟩

/-- The settled world, crc's variable holding what its initialiser lays. -/
noncomputable def laidWorld (os : Os) : World :=
  { World.holding Tryd.prog os ⟨#[], #[], []⟩ with heap := (World.holding Tryd.prog os ⟨#[], #[], []⟩).heap.modify 0 fun
      | .cells _ t frozen => .cells (cZs.map fun z => Value.int .u32 z).toArray t frozen
      | o => o }

end Go.Proofs.YtdpbdkacngaemaaDoor

