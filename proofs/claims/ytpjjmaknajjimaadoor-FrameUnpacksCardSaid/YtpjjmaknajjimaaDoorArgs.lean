/- A slice of strings that came in, as the walks want it. -/
import Derived.Test.YtpjjmaknajjimaaDoorStr
import Derived.SliceStrings
import Derived.WalkKit
namespace Go.Proofs.YtpjjmaknajjimaaDoor
open Go.RowKit

/-- A slice of strings that came in. -/
def TextsAt (w : World) (a : Option Addr) (ts : List ByteArray) : Prop :=
  ∀ i (h : i < ts.length), ∃ b o, a = some ⟨b, o, none⟩ ∧ b < w.heap.size ∧ w.cell? ⟨b, o + i, none⟩ = some (.string ts[i])

/-- A list of texts that came in, cut to its first k. -/
theorem texts_at (w : World) (a : Addr) (ss : List ByteArray) (k : Nat) (hc : ∀ i, i < ss.length → w.cell? (a.add i) = some (.string (ss.getD i ByteArray.empty))) : TextsAt w (some a) (ss.take k) := by
  intro i h
  have h1 : i < ss.length := by simp at h; omega
  have hci := hc i h1
  have hs := World.cell?_spot (hc 0 (by omega))
  obtain ⟨b, o, s⟩ := a
  have hs0 : s = none := by simpa [Addr.add] using hs
  subst hs0
  rw [addr_add] at hci
  have e : (ss.take k)[i] = ss[i] := by simp
  have g : ss.getD i ByteArray.empty = ss[i] := by simp [List.getD, h1]
  rw [e]
  refine ⟨b, o, rfl, World.block_lt_of_cell? w _ hci, ?_⟩
  rw [hci, g]

end Go.Proofs.YtpjjmaknajjimaaDoor
