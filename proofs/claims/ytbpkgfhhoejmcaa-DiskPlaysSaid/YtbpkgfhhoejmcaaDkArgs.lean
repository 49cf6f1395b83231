/- Slices that came in: numbers, bytes, bools, pairs of bytes. -/
import Derived.Test.YtbpkgfhhoejmcaaDkNil
import Derived.OpenShut
import Derived.Deep.Slices
import Derived.Deep.SlicePairs
import Derived.Deep.Fields
import Derived.ChangeSlices
import Derived.ChangeSame
namespace Go.Proofs.Ytbpkgfhhoejmcaa.dk
open Go Go.RowKit Go.ChangeShapes Go.WideShapes Go.Deep

def U8At (w : World) (a : Option Addr) (zs : List UInt8) : Prop :=
  ∀ i (h : i < zs.length), ∃ b o, a = some ⟨b, o, none⟩ ∧ b < w.heap.size ∧ w.cell? ⟨b, o + i, none⟩ = some (.int .u8 (zs[i].toNat : Int))
def PutsAt (w : World) (a : Option Addr) (zs : List (UInt8 × UInt8)) : Prop :=
  ∀ i (h : i < zs.length), ∃ b o, a = some ⟨b, o, none⟩ ∧ b < w.heap.size ∧ w.cell? ⟨b, o + i * 2, none⟩ = some (.int .u8 (zs[i].1.toNat : Int)) ∧ w.cell? ⟨b, o + i * 2 + 1, none⟩ = some (.int .u8 (zs[i].2.toNat : Int))

theorem u8_of {n : Int} (h : (Lit.int .u8 n).wf = true) : ∃ c : UInt8, n = (c.toNat : Int) := by
  have hb := bounds_u8 h
  refine ⟨UInt8.ofNat n.toNat, ?_⟩
  rw [ofNat_small _ (by omega)]
  omega

theorem spot0 {w : World} {a : Addr} {v : Value} (h : w.cell? (a.add 0) = some v) : ∃ b o, a = ⟨b, o, none⟩ ∧ b < w.heap.size := by
  have hs := World.cell?_spot h
  obtain ⟨b, o, s⟩ := a
  have hs0 : s = none := by simpa [Addr.add] using hs
  subst hs0
  exact ⟨b, o, rfl, World.block_lt_of_cell? w _ h⟩

theorem choose_list {α : Type} {p : Nat → α → Prop} : ∀ (n : Nat), (∀ i, i < n → ∃ x, p i x) → ∃ l : List α, l.length = n ∧ ∀ i (h : i < l.length), p i l[i]
  | 0, _ => ⟨[], rfl, fun i h => absurd h (by simp)⟩
  | n + 1, h => by
    obtain ⟨l, hl, hp⟩ := choose_list n (fun i hi => h i (by omega))
    obtain ⟨x, hx⟩ := h n (by omega)
    refine ⟨l ++ [x], by simp [hl], fun i hi => ?_⟩
    by_cases hin : i < l.length
    · rw [List.getElem_append_left hin]
      exact hp i hin
    · have : i = l.length := by simp at hi; omega
      subst this
      rw [List.getElem_append_right (Nat.le_refl _)]
      simpa [hl] using hx

section
variable {H : Type} {enc : TypeId × Value → H} {w : World} {held : Bool} {a : Option Addr} {l c : Nat} {d : DataW H} {pl : List MemPlace}

theorem ints_of (h : DataW.Trod enc Try.prog w 0 (fun _ => true) held 55 (.slice a l c) d pl) : ∃ zs : List Int, zs.length = l ∧ l ≤ 9223372036854775807 ∧ IntsAt w a zs := by
  obtain ⟨fuel, hf⟩ := h
  rcases open_ints Try.underlying55 Try.underlying3 (by kernel_rfl) hf with ⟨hcs, _⟩ | ⟨x, l', c', zs, hcs, _, hl, hm, hz, _, hcell, hwf⟩
  · simp [Value.cells] at hcs
    obtain ⟨rfl, rfl, rfl⟩ := hcs
    exact ⟨[], rfl, by omega, fun i h => absurd h (by simp)⟩
  · simp [Value.cells] at hcs
    obtain ⟨rfl, rfl, rfl⟩ := hcs
    have hzc : zs.length = c := by simpa using hz
    unfold maxLen at hm
    refine ⟨zs.take l, by simp; omega, by omega, fun i hi => ?_⟩
    have hil : i < zs.length := by simp at hi; omega
    obtain ⟨b, o, rfl, hb⟩ := spot0 (hcell 0 (by omega))
    have hc := hcell i hil
    rw [addr_add] at hc
    have hw := bounds_i64 (hwf zs[i] (List.getElem_mem hil))
    refine ⟨b, o, rfl, hb, ?_, by simpa using hw.1, by simpa using hw.2⟩
    rw [hc]
    simp [List.getD, hil]

theorem u8s_of (h : DataW.Trod enc Try.prog w 0 (fun _ => true) held 67 (.slice a l c) d pl) : ∃ zs : List UInt8, zs.length = l ∧ l ≤ 9223372036854775807 ∧ U8At w a zs := by
  obtain ⟨fuel, hf⟩ := h
  rcases open_slice1 Try.underlying67 (by kernel_rfl) hf with ⟨hcs, _⟩ | ⟨x, l', c', m, n, V, D, Pl, hcs, _, hl, hm, hmm, _, hi⟩
  · simp [Value.cells] at hcs
    obtain ⟨rfl, rfl, rfl⟩ := hcs
    exact ⟨[], rfl, by omega, fun i h => absurd h (by simp)⟩
  · simp [Value.cells] at hcs
    obtain ⟨rfl, rfl, rfl⟩ := hcs
    simp only [if_true] at hmm
    subst hmm
    unfold maxLen at hm
    obtain ⟨zs, hzl, hz⟩ := choose_list (p := fun i (z : UInt8) => w.cell? (x.add i) = some (.int .u8 (z.toNat : Int))) l (fun i hil => by
      obtain ⟨h1, h2⟩ := hi i (by omega)
      obtain ⟨k, h3, _, h4⟩ := DataW.trod_int Try.underlying5 h2
      obtain ⟨c, rfl⟩ := u8_of h4
      have h3' : V i = .int .u8 (c.toNat : Int) := by simpa using h3
      exact ⟨c, by rw [h1, h3']⟩)
    refine ⟨zs, hzl, by omega, fun i hil => ?_⟩
    obtain ⟨b, o, rfl, hb⟩ := spot0 (hz 0 (by omega))
    have := hz i hil
    rw [addr_add] at this
    exact ⟨b, o, rfl, hb, this⟩

theorem bools_of (h : DataW.Trod enc Try.prog w 0 (fun _ => true) held 37 (.slice a l c) d pl) : ∃ zs : List Bool, zs.length = l ∧ l ≤ 9223372036854775807 ∧ BoolsAt w a zs := by
  obtain ⟨fuel, hf⟩ := h
  rcases open_slice1 Try.underlying37 (by kernel_rfl) hf with ⟨hcs, _⟩ | ⟨x, l', c', m, n, V, D, Pl, hcs, _, hl, hm, hmm, _, hi⟩
  · simp [Value.cells] at hcs
    obtain ⟨rfl, rfl, rfl⟩ := hcs
    exact ⟨[], rfl, by omega, fun i h => absurd h (by simp)⟩
  · simp [Value.cells] at hcs
    obtain ⟨rfl, rfl, rfl⟩ := hcs
    simp only [if_true] at hmm
    subst hmm
    unfold maxLen at hm
    obtain ⟨zs, hzl, hz⟩ := choose_list (p := fun i (z : Bool) => w.cell? (x.add i) = some (.bool z)) l (fun i hil => by
      obtain ⟨h1, h2⟩ := hi i (by omega)
      obtain ⟨k, h3, _⟩ := DataW.trod_bool Try.underlying4 h2
      have h3' : V i = .bool k := by simpa using h3
      exact ⟨k, by rw [h1, h3']⟩)
    refine ⟨zs, hzl, by omega, fun i hil => ?_⟩
    obtain ⟨b, o, rfl, hb⟩ := spot0 (hz 0 (by omega))
    have := hz i hil
    rw [addr_add] at this
    exact ⟨b, o, rfl, hb, this⟩

end

end Go.Proofs.Ytbpkgfhhoejmcaa.dk
