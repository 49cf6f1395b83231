/- A slice of acts that came in: each of two numbers, a byte, and a slice of bools that lies elsewhere. -/
import Derived.Test.YtbpkgfhhoejmcaaDkArgs
import Derived.Test.YtbpkgfhhoejmcaaSlcF
namespace Go.Proofs.Ytbpkgfhhoejmcaa.dk
open Go Go.RowKit Go.ChangeShapes Go.WideShapes Go.Deep

structure ActV where
  what : Int
  at_ : Int
  c : UInt8
  A : Option Addr
  cap : Nat
  keep : List Bool

def ActV.val (x : ActV) : Value := .agg #[.int .i64 x.what, .int .i64 x.at_, .int .u8 (x.c.toNat : Int), .slice x.A x.keep.length x.cap]

/-- What an act is known by in a world. -/
def ActV.ok (w : World) (x : ActV) : Prop := (-9223372036854775808 ≤ x.what ∧ x.what ≤ 9223372036854775807) ∧ (-9223372036854775808 ≤ x.at_ ∧ x.at_ ≤ 9223372036854775807) ∧ BoolsAt w x.A x.keep ∧ (x.A = none → x.keep = [])

def ActsAt (w : World) (a : Option Addr) (zs : List ActV) : Prop :=
  ∀ i (h : i < zs.length), ∃ b o, a = some ⟨b, o, none⟩ ∧ b < w.heap.size ∧ w.cell? ⟨b, o + i * 4, none⟩ = some (.int .i64 zs[i].what) ∧ w.cell? ⟨b, o + i * 4 + 1, none⟩ = some (.int .i64 zs[i].at_) ∧
    w.cell? ⟨b, o + i * 4 + 2, none⟩ = some (.int .u8 (zs[i].c.toNat : Int)) ∧ w.cell? ⟨b, o + i * 4 + 3, none⟩ = some (.slice zs[i].A zs[i].keep.length zs[i].cap) ∧ zs[i].ok w

section
variable {H : Type} {enc : TypeId × Value → H} {w : World} {held : Bool} {a : Option Addr} {l c : Nat} {d : DataW H} {pl : List MemPlace}

theorem bools_cells {n : Nat} {v : Value} {y : DataW H × List MemPlace} (h : DataW.trod enc Try.prog w 0 (fun _ => true) held n 37 [v] = some y) : ∃ (A : Option Addr) (zs : List Bool) (c : Nat), v = .slice A zs.length c ∧ BoolsAt w A zs ∧ (A = none → zs = []) := by
  rcases open_slice1 Try.underlying37 (by kernel_rfl) h with ⟨hcs, _⟩ | ⟨x, l', c', m, n, V, D, Pl, hcs, _, hl, hm, hmm, _, hi⟩
  · simp at hcs
    subst hcs
    exact ⟨none, [], 0, rfl, fun i h => absurd h (by simp), fun _ => rfl⟩
  · simp at hcs
    subst hcs
    simp only [if_true] at hmm
    subst hmm
    obtain ⟨zs, hzl, hz⟩ := choose_list (p := fun i (z : Bool) => w.cell? (x.add i) = some (.bool z)) l' (fun i hil => by
      obtain ⟨h1, h2⟩ := hi i (by omega)
      obtain ⟨k, h3, _⟩ := DataW.trod_bool Try.underlying4 h2
      have h3' : V i = .bool k := by simpa using h3
      exact ⟨k, by rw [h1, h3']⟩)
    subst hzl
    refine ⟨some x, zs, _, rfl, fun i hil => ?_, fun h => by cases h⟩
    obtain ⟨b, o, rfl, hb⟩ := spot0 (hz 0 (by omega))
    have := hz i hil
    rw [addr_add] at this
    exact ⟨b, o, rfl, hb, this⟩

theorem acts_of (h : DataW.Trod enc Try.prog w 0 (fun _ => true) held 22 (.slice a l c) d pl) : ∃ zs : List ActV, zs.length = l ∧ l ≤ 9223372036854775807 ∧ ActsAt w a zs := by
  obtain ⟨fuel, hf⟩ := h
  rcases open_slice_fields Try.underlying22 Try.underlying39 (hone_of (by kernel_rfl)) (by kernel_rfl) hf with ⟨hcs, _⟩ | ⟨x, l', c', m, hcs, _, hl, hm, hmm, hi⟩
  · simp [Value.cells] at hcs
    obtain ⟨rfl, rfl, rfl⟩ := hcs
    exact ⟨[], rfl, by omega, fun i h => absurd h (by simp)⟩
  · simp [Value.cells] at hcs
    obtain ⟨rfl, rfl, rfl⟩ := hcs
    simp only [if_true] at hmm
    subst hmm
    unfold maxLen at hm
    obtain ⟨zs, hzl, hz⟩ := choose_list (p := fun i (z : ActV) => w.cell? (x.add (i * 4)) = some (.int .i64 z.what) ∧ w.cell? (x.add (i * 4 + 1)) = some (.int .i64 z.at_) ∧
        w.cell? (x.add (i * 4 + 2)) = some (.int .u8 (z.c.toNat : Int)) ∧ w.cell? (x.add (i * 4 + 3)) = some (.slice z.A z.keep.length z.cap) ∧ z.ok w) l (fun i hil => by
      obtain ⟨v0, y0, n0, e0, g0⟩ := hi i (by omega) 0 _ rfl
      obtain ⟨v1, y1, n1, e1, g1⟩ := hi i (by omega) 1 _ rfl
      obtain ⟨v2, y2, n2, e2, g2⟩ := hi i (by omega) 2 _ rfl
      obtain ⟨v3, y3, n3, e3, g3⟩ := hi i (by omega) 3 _ rfl
      obtain ⟨k0, h0, _, b0⟩ := DataW.trod_int Try.underlying3 g0
      obtain ⟨k1, h1, _, b1⟩ := DataW.trod_int Try.underlying3 g1
      obtain ⟨k2, h2, _, b2⟩ := DataW.trod_int Try.underlying5 g2
      obtain ⟨A, ks, cc, rfl, hbs, hnil⟩ := bools_cells g3
      obtain ⟨c2, rfl⟩ := u8_of b2
      obtain rfl : v0 = _ := by simpa using h0
      obtain rfl : v1 = _ := by simpa using h1
      obtain rfl : v2 = _ := by simpa using h2
      exact ⟨⟨k0, k1, c2, A, cc, ks⟩, e0, e1, e2, e3, bounds_i64 b0, bounds_i64 b1, hbs, hnil⟩)
    refine ⟨zs, hzl, by omega, fun i hil => ?_⟩
    have h0 := (hz 0 (by omega)).1
    rw [Nat.zero_mul] at h0
    obtain ⟨b, o, rfl, hb⟩ := spot0 h0
    have := hz i hil
    rw [addr_add, addr_add, addr_add, addr_add] at this
    simp only [Nat.add_assoc] at this ⊢
    exact ⟨b, o, rfl, hb, this⟩

/-- A pair of numbers that came in. -/
theorem pair_of {r : Reach} {b0 : Nat} {v : Value} (hv : Value.okWide Try.prog w r b0 23 v) (h : DataW.Trod enc Try.prog w 0 (fun _ => true) held 23 v d pl) :
    ∃ x y : Int, v = .agg #[.int .i64 x, .int .i64 y] ∧ (-9223372036854775808 ≤ x ∧ x ≤ 9223372036854775807) ∧ (-9223372036854775808 ≤ y ∧ y ≤ 9223372036854775807) := by
  have hu := Try.underlying23
  have c2 : Try.prog.cellsOf 23 = 2 := by kernel_rfl
  have c1 : Try.prog.cellsOf 3 = 1 := by kernel_rfl
  simp only [Value.okWide, hu] at hv
  obtain ⟨⟨cs⟩, rfl, h2, _⟩ := hv
  rw [c2] at h2
  match cs, h2 with
  | [v0, v1], _ =>
    obtain ⟨fuel, hf⟩ := h
    obtain ⟨xs, m, _, _, _, hl, hi⟩ := DataW.trod_array hu hf
    match xs, hl with
    | [x0, x1], _ =>
      have g0 := hi 0 (by omega)
      have g1 := hi 1 (by omega)
      simp [c1, Value.cells] at g0 g1
      obtain ⟨k0, h0, _, b0⟩ := DataW.trod_int Try.underlying3 g0
      obtain ⟨k1, h1, _, b1⟩ := DataW.trod_int Try.underlying3 g1
      obtain rfl : v0 = _ := by simpa using h0
      obtain rfl : v1 = _ := by simpa using h1
      exact ⟨k0, k1, rfl, bounds_i64 b0, bounds_i64 b1⟩
end
end Go.Proofs.Ytbpkgfhhoejmcaa.dk
