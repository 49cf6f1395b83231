/- MtBox. -/
import Derived.Test.YtklmgdiaianlbaaQ19
import Derived.Test.YtklmgdiaianlbaaQ20
import Derived.Lib.QuietBelow
set_option linter.unusedVariables false
set_option linter.unusedSimpArgs false
/- A table that is stored where another one lay. -/
namespace Go.Proofs.Ytklmgdiaianlbaa.mt
open Go Go.RowKit Go.Sort Go.Proofs.Ytklmgdiaianlbaa.ib Go.Proofs.Ytklmgdiaianlbaa.wi
set_option maxRecDepth 100000

theorem mhmixed : Try.prog.follows .mixedOrders = true := by kernel_rfl
theorem mtC_eq (A0 A1 A2 : Option Addr) (c0 c1 c2 : Nat) (m : Mt) : mtC A0 A1 A2 c0 c1 c2 m = mC (.slice A0 m.live.length c0) (.slice A1 m.snaps.length c1) (.slice A2 m.tok.img.length c2) m.tok := rfl
/-- What short answers, its slices as they are. -/
theorem MtO.open_ {W : World} {B : Nat} {v : Value} {m : Mt} (h : MtO W B v m) : ∃ A0 A1 A2 c0 c1 c2, v = .agg (mtC A0 A1 A2 c0 c1 c2 m) := by
  obtain ⟨A0, A1, A2, c0, c1, c2, hv, _⟩ := h.at_
  exact ⟨A0, A1, A2, c0, c1, c2, hv⟩
theorem box_mt {W : World} {B g : Nat} {A0 A1 A2 B0 B1 B2 : Option Addr} {c0 c1 c2 d0 d1 d2 : Nat} {m m' : Mt} (hA : Blk W g 30 (mtC B0 B1 B2 d0 d1 d2 m')) (h : MtO W B (.agg (mtC A0 A1 A2 c0 c1 c2 m)) m) :
    Blk (setMt W g (.slice A0 m.live.length c0) (.slice A1 m.snaps.length c1) (.slice A2 m.tok.img.length c2) m.tok) g 30 (mtC A0 A1 A2 c0 c1 c2 m) ∧ MtO (setMt W g (.slice A0 m.live.length c0) (.slice A1 m.snaps.length c1) (.slice A2 m.tok.img.length c2) m.tok) B (.agg (mtC A0 A1 A2 c0 c1 c2 m)) m :=
  ⟨setMt_blk (u0 := .slice B0 m'.live.length d0) (u1 := .slice B1 m'.snaps.length d1) (u2 := .slice B2 m'.tok.img.length d2) (t' := m'.tok) hA, h.kp (setMt_kp hA) (by decide) (by decide)⟩
/-- The nine cells of a table, at every world that is grown. -/
theorem nine {W : World} {g : Nat} {A0 A1 A2 : Option Addr} {c0 c1 c2 : Nat} {m : Mt} (h : Blk W g 30 (mtC A0 A1 A2 c0 c1 c2 m)) (d : Nat) (os : Array Obj) :
    (grow (redrawn W d) os).cell? ⟨g, 0, none⟩ = some (.slice A0 m.live.length c0) ∧ (grow (redrawn W d) os).cell? ⟨g, 1, none⟩ = some (.slice A1 m.snaps.length c1) ∧ (grow (redrawn W d) os).cell? ⟨g, 2, none⟩ = some (.int .u64 (m.tok.base.1 : Int)) ∧ (grow (redrawn W d) os).cell? ⟨g, 3, none⟩ = some (.int .u64 (m.tok.base.2 : Int)) ∧
    (grow (redrawn W d) os).cell? ⟨g, 4, none⟩ = some (.int .u64 (m.tok.target.1 : Int)) ∧ (grow (redrawn W d) os).cell? ⟨g, 5, none⟩ = some (.int .u64 (m.tok.target.2 : Int)) ∧ (grow (redrawn W d) os).cell? ⟨g, 6, none⟩ = some (.int .i64 m.tok.next) ∧ (grow (redrawn W d) os).cell? ⟨g, 7, none⟩ = some (.int .i64 m.tok.all) ∧
    (grow (redrawn W d) os).cell? ⟨g, 8, none⟩ = some (.slice A2 m.tok.img.length c2) := by
  have hb := h.below (below_regrown W d os)
  exact ⟨hb.cell 0, hb.cell 1, hb.cell 2, hb.cell 3, hb.cell 4, hb.cell 5, hb.cell 6, hb.cell 7, hb.cell 8⟩
end Go.Proofs.Ytklmgdiaianlbaa.mt

