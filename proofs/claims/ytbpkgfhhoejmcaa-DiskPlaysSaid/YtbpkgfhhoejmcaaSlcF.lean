/- A slice of structs whose fields are one cell each, opened at every index and field. Nothing here speaks of the program. -/
import Derived.Deep.Slices
import Derived.Deep.Fields
import Derived.ChangeSame
namespace Go.Proofs.Ytbpkgfhhoejmcaa
open Go Go.ChangeShapes Go.WideShapes Go.Deep

theorem open_slice_fields {H : Type} {enc : TypeId × Value → H} {P : Program} {w : World} {base : Nat} {spare : Nat → Bool} {held : Bool} {t e : TypeId} {fs : Array Field} {fuel : Nat} {cs : List Value} {x : DataW H × List MemPlace}
    (ht : P.underlying t = some (.slice e)) (he : P.underlying e = some (.struct fs)) (hone : ∀ (i : Nat) (f : Field), fs[i]? = some f → f.offset = i ∧ P.cellsOf f.type = 1) (ce : P.cellsOf e = fs.size)
    (h : DataW.trod enc P w base spare held fuel t cs = some x) :
    (cs = [.slice none 0 0] ∧ x = (.nil, [])) ∨
    ∃ (a : Addr) (len cap m : Nat), cs = [.slice (some a) len cap] ∧ base ≤ a.block ∧ len ≤ cap ∧ cap ≤ maxLen ∧ m = (if spare a.block then cap else len) ∧
      ∀ i, i < m → ∀ k f, fs[k]? = some f → ∃ v y n, w.cell? (a.add (i * fs.size + k)) = some v ∧ DataW.trod enc P w base spare held n f.type [v] = some y := by
  rcases open_slice ht h with h0 | ⟨a, len, cap, m, n, D, Pl, rfl, hb, hl, hm, hmm, rfl, hx⟩
  · exact Or.inl h0
  right
  refine ⟨a, len, cap, m, rfl, hb, hl, hm, hmm, fun i hi k f hk => ?_⟩
  obtain ⟨cs', h1, h2⟩ := hx i hi
  rw [ce] at h1
  obtain ⟨_, hlen, hcell⟩ := World.cells?_some h1
  obtain ⟨xs, n', _, _, _, hxl, hf⟩ := DataW.trod_struct he h2
  have hlt : k < fs.size := (Array.getElem?_eq_some_iff.1 hk).1
  obtain ⟨ho, hc1⟩ := hone k f hk
  have g := hf k f hk
  rw [ho, hc1, take1_drop cs' k undef (by omega), List.getElem?_eq_getElem (by omega)] at g
  have hcl := hcell k hlt
  rw [add_add, List.getElem?_eq_getElem (by omega)] at hcl
  refine ⟨cs'.getD k undef, _, n', ?_, g⟩
  rw [hcl]
  simp [List.getD, List.getElem?_eq_getElem (show k < cs'.length by omega)]
end Go.Proofs.Ytbpkgfhhoejmcaa
