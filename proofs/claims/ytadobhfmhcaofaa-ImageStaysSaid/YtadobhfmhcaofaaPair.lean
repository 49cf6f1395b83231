/- A pair of numbers by value that came in. -/
import Derived.Test.YtadobhfmhcaofaaInts
namespace Go.Proofs.Ytadobhfmhcaofaa.ib
open Go Go.RowKit Go.ChangeShapes Go.WideShapes Go.Deep
set_option maxRecDepth 100000
section
variable {H : Type} {enc : TypeId × Value → H} {w : World} {held : Bool} {d : DataW H} {pl : List MemPlace}
theorem pair_of {r : Reach} {b0 : Nat} {v : Value} (hv : Value.okWide Try.prog w r b0 35 v) (h : DataW.Trod enc Try.prog w 0 (fun _ => true) held 35 v d pl) :
    ∃ x y : Int, v = .agg #[.int .i64 x, .int .i64 y] ∧ (-9223372036854775808 ≤ x ∧ x ≤ 9223372036854775807) ∧ (-9223372036854775808 ≤ y ∧ y ≤ 9223372036854775807) := by
  have hu := Try.underlying35
  have c2 : Try.prog.cellsOf 35 = 2 := by kernel_rfl
  have c1 : Try.prog.cellsOf 3 = 1 := by kernel_rfl
  simp only [Value.okWide, hu] at hv
  obtain ⟨⟨cs⟩, rfl, h2, _⟩ := hv
  rw [c2] at h2
  match cs, h2 with
  | [v0, v1], _ =>
    obtain ⟨fuel, hf⟩ := h
    obtain ⟨xs, m, _, _, _, hl, hi⟩ := DataW.trod_array hu hf
    match xs, hl with
    | [x0, x1], _ =>
      have g0 := hi 0 (by omega)
      have g1 := hi 1 (by omega)
      simp [c1, Value.cells] at g0 g1
      obtain ⟨k0, h0, _, b0⟩ := DataW.trod_int Try.underlying3 g0
      obtain ⟨k1, h1, _, b1⟩ := DataW.trod_int Try.underlying3 g1
      obtain rfl : v0 = _ := by simpa using h0
      obtain rfl : v1 = _ := by simpa using h1
      exact ⟨k0, k1, rfl, bounds_i64 b0, bounds_i64 b1⟩
end
end Go.Proofs.Ytadobhfmhcaofaa.ib
