/- What memory holds of a list of texts: the words that the walks of package frame use. -/
import Derived.Test.YtpjjmaknajjimaaDoorFPure
import Derived.Test.YtpjjmaknajjimaaDoorStr
import Derived.Test.YtpjjmaknajjimaaDoorInfo
import Derived.WalkKit
import Derived.WalkSpells
import Derived.WalkLawsBesides
import Derived.BigCall
import Derived.Lib.Hide
namespace Go.Proofs.YtpjjmaknajjimaaDoor
open Go.RowKit

/-- A slice of strings that begins at a holds ps. -/
def StrsAt (w : World) (a : Option Addr) (ps : List (List UInt8)) : Prop :=
  ∀ i (h : i < ps.length), ∃ b o, a = some ⟨b, o, none⟩ ∧ b < w.heap.size ∧ w.cell? ⟨b, o + i, none⟩ = some (.string (str ps[i]))

def strVals (ps : List (List UInt8)) : List Value := ps.map fun p => Value.string (str p)

theorem strVals_length (ps : List (List UInt8)) : (strVals ps).length = ps.length := by simp [strVals]
theorem strVals_snoc (ps : List (List UInt8)) (p : List UInt8) : strVals (ps ++ [p]) = strVals ps ++ [.string (str p)] := by simp [strVals]

theorem StrsAt.below {w w' : World} {a : Option Addr} {ps : List (List UInt8)} {B : Nat} (h : StrsAt w a ps) (hb : Below B w w') (hB : w.heap.size ≤ B) : StrsAt w' a ps := by
  intro i hi
  obtain ⟨b, o, rfl, hlt, hc⟩ := h i hi
  exact ⟨b, o, rfl, Nat.lt_of_lt_of_le hlt hb.size, by rw [hb.cell (p := ⟨b, o + i, none⟩) (Nat.lt_of_lt_of_le hlt hB)]; exact hc⟩

/-- .. where what was written lies behind all that is read. -/
theorem StrsAt.nil (w : World) (a : Option Addr) : StrsAt w a [] := fun i h => absurd h (by simp)

/-- A list that the call itself made. -/
def OwnsStrs (w : World) (B : Nat) (v : Value) (ps : List (List UInt8)) : Prop := w.ownsRow B 9 1 v ps.length (strVals ps)

theorem OwnsStrs.view {w : World} {B : Nat} {v : Value} {ps : List (List UInt8)} (h : OwnsStrs w B v ps) :
    ∃ a c, v = .slice a ps.length c ∧ ps.length ≤ c ∧ c ≤ maxLen ∧ StrsAt w a ps ∧ (a = none → ps = []) ∧ (∀ x, a = some x → ∃ g, x = ⟨g, 0, none⟩ ∧ B ≤ g ∧ g < w.heap.size) := by
  rcases h.2 with ⟨rfl, h0⟩ | ⟨g, cap, cur, rfl, hg, hh, hc, hm, _, _⟩
  · obtain rfl : ps = [] := List.length_eq_zero_iff.1 h0
    exact ⟨none, 0, rfl, Nat.le_refl _, by decide, StrsAt.nil _ _, fun _ => rfl, fun x hx => (by cases hx)⟩
  · have hlt : g < w.heap.size := (Array.getElem?_eq_some_iff.1 hh).1
    refine ⟨some ⟨g, 0, none⟩, cap, rfl, hc, hm, ?_, fun h => (by cases h), fun x hx => ⟨g, (by cases hx; rfl), hg, hlt⟩⟩
    intro i hi
    refine ⟨g, 0, rfl, hlt, ?_⟩
    have := World.ownsRow.cellAt h i (by omega)
    rw [Nat.zero_add, this]
    simp [strVals, hi]

theorem strsAt_new (ps : List (List UInt8)) (w : World) : StrsAt (w.alloc (.cells (strVals ps).toArray 9)) (some ⟨w.heap.size, 0, none⟩) ps := by
  intro i h
  refine ⟨w.heap.size, 0, rfl, by simp, ?_⟩
  simp [World.cell?, World.alloc, -World.alloc_eq, strVals, h]

theorem ownsRow_mono {w : World} {B C : Nat} {v : Value} {ps : List (List UInt8)} (h : OwnsStrs w B v ps) (hc : C ≤ B) : OwnsStrs w C v ps := by
  refine ⟨h.1, ?_⟩
  rcases h.2 with hn | ⟨g, cap, cur, hv, hb, rest⟩
  · exact .inl hn
  · exact .inr ⟨g, cap, cur, hv, Nat.le_trans hc hb, rest⟩

theorem owns_kept {w w' : World} {B : Nat} {v : Value} {ps : List (List UInt8)} (h : OwnsStrs w B v ps) (hb : Below w.heap.size w w') : OwnsStrs w' B v ps := by
  refine ⟨h.1, ?_⟩
  rcases h.2 with hn | ⟨g, cap, cur, hv, hB, hg, rest⟩
  · exact .inl hn
  · exact .inr ⟨g, cap, cur, hv, hB, by rw [hb.block g (Array.getElem?_eq_some_iff.1 hg).1]; exact hg, rest⟩

end Go.Proofs.YtpjjmaknajjimaaDoor
