/- Two results that lie in memory, a list and an error. -/
import Derived.Test.YtpeeoaogklkjlaaSpHyp
import Derived.Tactics
namespace Go.Proofs.Ytpeeoaogklkjlaa.sp
open Go Go.RowKit Go.Proofs.Ytpeeoaogklkjlaa.ib
set_option maxRecDepth 100000

theorem results_cell2 {fn : Func} {p u : Tmp} {ty uy : TypeId} (h : fn.results = #[.cell p ty, .cell u uy]) (tmps : Array Value) (P : Program) (w : World) (a b : Addr) (v1 v2 : Value)
    (hp : tmps.getD p undef = .pointer (some a)) (hu : tmps.getD u undef = .pointer (some b)) (h1 : (loadVar ty a).run P w = .ok v1 w) (h2 : (loadVar uy b).run P w = .ok v2 w) :
    (results fn tmps).run P w = .ok (.tuple #[v1, v2]) w := by
  simp only [results, h]
  simp only [Array.getD_eq_getD_getElem?] at hp hu
  simp [Sem.run_bind, Result.andThen, asAddr, hp, hu, h1, h2]

theorem agg_slice (w : World) : (isAgg 23).run Try.prog w = .ok false w := by kernel_rfl
theorem agg_errno (w : World) : (isAgg 24).run Try.prog w = .ok false w := by kernel_rfl
theorem load_one {t : TypeId} {w : World} (ha : (isAgg t).run Try.prog w = .ok false w) {a : Addr} {v : Value} (hc : w.cell? a = some v) : (loadVar t a).run Try.prog w = .ok v w := by
  unfold loadVar
  rw [Sem.run_bind, ha]
  simp [Result.andThen, hc]
end Go.Proofs.Ytpeeoaogklkjlaa.sp
