/- A list of numbers that came in, with its room, and what nil is. -/
import Derived.Test.YtadobhfmhcaofaaInts
namespace Go.Proofs.Ytadobhfmhcaofaa.ib
open Go Go.RowKit Go.ChangeShapes Go.WideShapes Go.Deep
set_option maxRecDepth 100000
section
variable {H : Type} {enc : TypeId × Value → H} {w : World} {held : Bool} {a : Option Addr} {l c : Nat} {d : DataW H} {pl : List MemPlace}
theorem nints_of (h : DataW.Trod enc Try.prog w 0 (fun _ => true) held 22 (.slice a l c) d pl) : ∃ zs : List Int, zs.length = l ∧ ((l ≤ 9223372036854775807 ∧ l ≤ c) ∧ (a = none → l = 0 ∧ c = 0)) ∧ IntsAt w a zs := by
  obtain ⟨zs, h1, h2, h3⟩ := ints_of h
  refine ⟨zs, h1, ⟨h2, fun hn => ?_⟩, h3⟩
  obtain ⟨fuel, hf⟩ := h
  rcases open_ints Try.underlying22 Try.underlying3 (by kernel_rfl) hf with ⟨hcs, _⟩ | ⟨x, l', c', zs', hcs, _⟩
  · simp [Value.cells] at hcs
    exact hcs.2
  · simp [Value.cells] at hcs
    rw [hn] at hcs
    cases hcs.1
end
end Go.Proofs.Ytadobhfmhcaofaa.ib
