/- A slice of numbers that came in, and its room. -/
import Derived.Test.YtmacnghnjnkopaaDkArgs
namespace Go.Proofs.Ytmacnghnjnkopaa.dk
open Go Go.RowKit Go.ChangeShapes Go.WideShapes Go.Deep

section
variable {H : Type} {enc : TypeId × Value → H} {w : World} {held : Bool} {a : Option Addr} {l c : Nat} {d : DataW H} {pl : List MemPlace}

theorem intsc_of (h : DataW.Trod enc Try.prog w 0 (fun _ => true) held 42 (.slice a l c) d pl) : ∃ zs : List Int, zs.length = l ∧ (l ≤ 9223372036854775807 ∧ l ≤ c) ∧ IntsAt w a zs := by
  obtain ⟨fuel, hf⟩ := h
  rcases open_ints Try.underlying42 Try.underlying3 (by kernel_rfl) hf with ⟨hcs, _⟩ | ⟨x, l', c', zs, hcs, _, hl, hm, hz, _, hcell, hwf⟩
  · simp [Value.cells] at hcs
    obtain ⟨rfl, rfl, rfl⟩ := hcs
    exact ⟨[], rfl, ⟨by omega, Nat.le_refl _⟩, fun i h => absurd h (by simp)⟩
  · simp [Value.cells] at hcs
    obtain ⟨rfl, rfl, rfl⟩ := hcs
    have hzc : zs.length = c := by simpa using hz
    unfold maxLen at hm
    refine ⟨zs.take l, by simp; omega, ⟨by omega, by omega⟩, fun i hi => ?_⟩
    have hil : i < zs.length := by simp at hi; omega
    obtain ⟨b, o, rfl, hb⟩ := spot0 (hcell 0 (by omega))
    have hc := hcell i hil
    rw [addr_add] at hc
    have hw := bounds_i64 (hwf zs[i] (List.getElem_mem hil))
    refine ⟨b, o, rfl, hb, ?_, by simpa using hw.1, by simpa using hw.2⟩
    rw [hc]
    simp [List.getD, hil]

end
end Go.Proofs.Ytmacnghnjnkopaa.dk
