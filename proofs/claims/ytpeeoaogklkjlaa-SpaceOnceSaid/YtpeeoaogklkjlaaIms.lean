/- Lists of lists of numbers. -/
import Derived.Test.YtpeeoaogklkjlaaInts
namespace Go.Proofs.Ytpeeoaogklkjlaa.ib
open Go Go.RowKit Go.ChangeShapes Go.WideShapes Go.Deep
set_option maxRecDepth 100000

def ImsAt (w : World) (a : Option Addr) (zss : List (List Int)) : Prop :=
  ∀ i (h : i < zss.length), ∃ b o A c, a = some ⟨b, o, none⟩ ∧ b < w.heap.size ∧ w.cell? ⟨b, o + i, none⟩ = some (.slice A zss[i].length c) ∧ IntsAt w A zss[i] ∧ zss[i].length ≤ 9223372036854775807

theorem ImsAt.below {w w' : World} {a : Option Addr} {zss : List (List Int)} (h : ImsAt w a zss) (hb : Below w.heap.size w w') : ImsAt w' a zss := by
  intro i hi
  obtain ⟨b, o, A, c, h1, h2, h3, h4, h5⟩ := h i hi
  exact ⟨b, o, A, c, h1, Nat.lt_of_lt_of_le h2 hb.size, by rw [hb.cell (p := ⟨b, o + i, none⟩) h2]; exact h3, h4.below hb, h5⟩

section
variable {H : Type} {enc : TypeId × Value → H} {w : World} {held : Bool} {a : Option Addr} {l c : Nat} {d : DataW H} {pl : List MemPlace}
theorem ims_of (h : DataW.Trod enc Try.prog w 0 (fun _ => true) held 22 (.slice a l c) d pl) : ∃ zs : List (List Int), zs.length = l ∧ ((d = .nil ∧ l = 0 ∨ ∃ el sp, d = .slice el sp ∧ l ≤ el.length + sp.length) ∧ (a = none → l = 0 ∧ c = 0)) ∧ ImsAt w a zs := by
  obtain ⟨fuel, hf⟩ := h
  rcases open_slice1 Try.underlying22 (by kernel_rfl) hf with ⟨hcs, hd⟩ | ⟨x, l', c', m, n, V, D, Pl, hcs, _, hl, hm, hmm, hd, hi⟩
  · simp [Value.cells] at hcs
    obtain ⟨rfl, rfl, rfl⟩ := hcs
    exact ⟨[], rfl, ⟨.inl ⟨congrArg Prod.fst hd, rfl⟩, fun _ => ⟨rfl, rfl⟩⟩, fun i h => absurd h (by simp)⟩
  · simp [Value.cells] at hcs
    obtain ⟨rfl, rfl, rfl⟩ := hcs
    simp only [if_true] at hmm
    subst hmm
    unfold maxLen at hm
    obtain ⟨zs, hzl, hz⟩ := choose_list (p := fun i (z : List Int) => ∃ A k, w.cell? (x.add i) = some (.slice A z.length k) ∧ IntsAt w A z ∧ z.length ≤ 9223372036854775807) l (fun i hil => by
      obtain ⟨h1, h2⟩ := hi i (by omega)
      obtain ⟨A, z, k, h3, h4, h5, _⟩ := ints_cells h2
      exact ⟨z, A, k, by rw [h1, h3], h4, h5⟩)
    refine ⟨zs, hzl, ⟨.inr ⟨_, _, congrArg Prod.fst hd, by simp⟩, fun h => by cases h⟩, fun i hil => ?_⟩
    obtain ⟨_, _, h0, _⟩ := hz 0 (by omega)
    obtain ⟨b, o, rfl, hb⟩ := spot0 h0
    obtain ⟨A, k, h1, h2, h3⟩ := hz i hil
    rw [addr_add] at h1
    exact ⟨b, o, A, k, rfl, hb, h1, h2, h3⟩
end
end Go.Proofs.Ytpeeoaogklkjlaa.ib
