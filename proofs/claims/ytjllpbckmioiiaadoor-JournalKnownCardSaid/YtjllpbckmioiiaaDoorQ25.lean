/- DkArgs, SlcF, JArgs, CLaid. -/
import Derived.Test.YtjllpbckmioiiaaDoorQ10
import Derived.Test.YtjllpbckmioiiaaDoorQ14
import Derived.Test.YtjllpbckmioiiaaDoorQ24
import Derived.OpenShut
import Derived.Deep.Slices
import Derived.Deep.SlicePairs
import Derived.Deep.Fields
import Derived.ChangeSlices
import Derived.ChangeSame
import Derived.Test.YtjllpbckmioiiaaDoorRows
import Derived.Deep.DeepHandedRow
import Derived.Lib.LaidTab
/- Slices that came in: numbers, bytes, bools, pairs of bytes. -/
namespace Go.Proofs.YtjllpbckmioiiaaDoor.dk
open Go Go.RowKit Go.ChangeShapes Go.WideShapes Go.Deep
set_option maxRecDepth 100000

def U8At (w : World) (a : Option Addr) (zs : List UInt8) : Prop :=
  ∀ i (h : i < zs.length), ∃ b o, a = some ⟨b, o, none⟩ ∧ b < w.heap.size ∧ w.cell? ⟨b, o + i, none⟩ = some (.int .u8 (zs[i].toNat : Int))
def PutsAt (w : World) (a : Option Addr) (zs : List (UInt8 × UInt8)) : Prop :=
  ∀ i (h : i < zs.length), ∃ b o, a = some ⟨b, o, none⟩ ∧ b < w.heap.size ∧ w.cell? ⟨b, o + i * 2, none⟩ = some (.int .u8 (zs[i].1.toNat : Int)) ∧ w.cell? ⟨b, o + i * 2 + 1, none⟩ = some (.int .u8 (zs[i].2.toNat : Int))

theorem u8_of {n : Int} (h : (Lit.int .u8 n).wf = true) : ∃ c : UInt8, n = (c.toNat : Int) := by
  have hb := bounds_u8 h
  refine ⟨UInt8.ofNat n.toNat, ?_⟩
  rw [ofNat_small _ (by omega)]
  omega

theorem spot0 {w : World} {a : Addr} {v : Value} (h : w.cell? (a.add 0) = some v) : ∃ b o, a = ⟨b, o, none⟩ ∧ b < w.heap.size := by
  have hs := World.cell?_spot h
  obtain ⟨b, o, s⟩ := a
  have hs0 : s = none := by simpa [Addr.add] using hs
  subst hs0
  exact ⟨b, o, rfl, World.block_lt_of_cell? w _ h⟩

theorem choose_list {α : Type} {p : Nat → α → Prop} : ∀ (n : Nat), (∀ i, i < n → ∃ x, p i x) → ∃ l : List α, l.length = n ∧ ∀ i (h : i < l.length), p i l[i]
  | 0, _ => ⟨[], rfl, fun i h => absurd h (by simp)⟩
  | n + 1, h => by
    obtain ⟨l, hl, hp⟩ := choose_list n (fun i hi => h i (by omega))
    obtain ⟨x, hx⟩ := h n (by omega)
    refine ⟨l ++ [x], by simp [hl], fun i hi => ?_⟩
    by_cases hin : i < l.length
    · rw [List.getElem_append_left hin]
      exact hp i hin
    · have : i = l.length := by simp at hi; omega
      subst this
      rw [List.getElem_append_right (Nat.le_refl _)]
      simpa [hl] using hx

section
variable {H : Type} {enc : TypeId × Value → H} {w : World} {held : Bool} {a : Option Addr} {l c : Nat} {d : DataW H} {pl : List MemPlace}

theorem ints_of (h : DataW.Trod enc Tryd.prog w 0 (fun _ => true) held 63 (.slice a l c) d pl) : ∃ zs : List Int, zs.length = l ∧ l ≤ 9223372036854775807 ∧ IntsAt w a zs := by
  obtain ⟨fuel, hf⟩ := h
  rcases open_ints Tryd.underlying63 Tryd.underlying3 (by kernel_rfl) hf with ⟨hcs, _⟩ | ⟨x, l', c', zs, hcs, _, hl, hm, hz, _, hcell, hwf⟩
  · simp [Value.cells] at hcs
    obtain ⟨rfl, rfl, rfl⟩ := hcs
    exact ⟨[], rfl, by omega, fun i h => absurd h (by simp)⟩
  · simp [Value.cells] at hcs
    obtain ⟨rfl, rfl, rfl⟩ := hcs
    have hzc : zs.length = c := by simpa using hz
    unfold maxLen at hm
    refine ⟨zs.take l, by simp; omega, by omega, fun i hi => ?_⟩
    have hil : i < zs.length := by simp at hi; omega
    obtain ⟨b, o, rfl, hb⟩ := spot0 (hcell 0 (by omega))
    have hc := hcell i hil
    rw [addr_add] at hc
    have hw := bounds_i64 (hwf zs[i] (List.getElem_mem hil))
    refine ⟨b, o, rfl, hb, ?_, by simpa using hw.1, by simpa using hw.2⟩
    rw [hc]
    simp [List.getD, hil]

theorem u8s_of (h : DataW.Trod enc Tryd.prog w 0 (fun _ => true) held 68 (.slice a l c) d pl) : ∃ zs : List UInt8, zs.length = l ∧ l ≤ 9223372036854775807 ∧ U8At w a zs := by
  obtain ⟨fuel, hf⟩ := h
  rcases open_slice1 Tryd.underlying68 (by kernel_rfl) hf with ⟨hcs, _⟩ | ⟨x, l', c', m, n, V, D, Pl, hcs, _, hl, hm, hmm, _, hi⟩
  · simp [Value.cells] at hcs
    obtain ⟨rfl, rfl, rfl⟩ := hcs
    exact ⟨[], rfl, by omega, fun i h => absurd h (by simp)⟩
  · simp [Value.cells] at hcs
    obtain ⟨rfl, rfl, rfl⟩ := hcs
    simp only [if_true] at hmm
    subst hmm
    unfold maxLen at hm
    obtain ⟨zs, hzl, hz⟩ := choose_list (p := fun i (z : UInt8) => w.cell? (x.add i) = some (.int .u8 (z.toNat : Int))) l (fun i hil => by
      obtain ⟨h1, h2⟩ := hi i (by omega)
      obtain ⟨k, h3, _, h4⟩ := DataW.trod_int Tryd.underlying5 h2
      obtain ⟨c, rfl⟩ := u8_of h4
      have h3' : V i = .int .u8 (c.toNat : Int) := by simpa using h3
      exact ⟨c, by rw [h1, h3']⟩)
    refine ⟨zs, hzl, by omega, fun i hil => ?_⟩
    obtain ⟨b, o, rfl, hb⟩ := spot0 (hz 0 (by omega))
    have := hz i hil
    rw [addr_add] at this
    exact ⟨b, o, rfl, hb, this⟩

theorem bools_of (h : DataW.Trod enc Tryd.prog w 0 (fun _ => true) held 25 (.slice a l c) d pl) : ∃ zs : List Bool, zs.length = l ∧ l ≤ 9223372036854775807 ∧ BoolsAt w a zs := by
  obtain ⟨fuel, hf⟩ := h
  rcases open_slice1 Tryd.underlying25 (by kernel_rfl) hf with ⟨hcs, _⟩ | ⟨x, l', c', m, n, V, D, Pl, hcs, _, hl, hm, hmm, _, hi⟩
  · simp [Value.cells] at hcs
    obtain ⟨rfl, rfl, rfl⟩ := hcs
    exact ⟨[], rfl, by omega, fun i h => absurd h (by simp)⟩
  · simp [Value.cells] at hcs
    obtain ⟨rfl, rfl, rfl⟩ := hcs
    simp only [if_true] at hmm
    subst hmm
    unfold maxLen at hm
    obtain ⟨zs, hzl, hz⟩ := choose_list (p := fun i (z : Bool) => w.cell? (x.add i) = some (.bool z)) l (fun i hil => by
      obtain ⟨h1, h2⟩ := hi i (by omega)
      obtain ⟨k, h3, _⟩ := DataW.trod_bool Tryd.underlying4 h2
      have h3' : V i = .bool k := by simpa using h3
      exact ⟨k, by rw [h1, h3']⟩)
    refine ⟨zs, hzl, by omega, fun i hil => ?_⟩
    obtain ⟨b, o, rfl, hb⟩ := spot0 (hz 0 (by omega))
    have := hz i hil
    rw [addr_add] at this
    exact ⟨b, o, rfl, hb, this⟩

end

end Go.Proofs.YtjllpbckmioiiaaDoor.dk

/- A slice of structs whose fields are one cell each, opened at every index and field. Nothing here speaks of the program. -/
namespace Go.Proofs.YtjllpbckmioiiaaDoor
open Go Go.ChangeShapes Go.WideShapes Go.Deep
set_option maxRecDepth 100000

theorem open_slice_fields {H : Type} {enc : TypeId × Value → H} {P : Program} {w : World} {base : Nat} {spare : Nat → Bool} {held : Bool} {t e : TypeId} {fs : Array Field} {fuel : Nat} {cs : List Value} {x : DataW H × List MemPlace}
    (ht : P.underlying t = some (.slice e)) (he : P.underlying e = some (.struct fs)) (hone : ∀ (i : Nat) (f : Field), fs[i]? = some f → f.offset = i ∧ P.cellsOf f.type = 1) (ce : P.cellsOf e = fs.size)
    (h : DataW.trod enc P w base spare held fuel t cs = some x) :
    (cs = [.slice none 0 0] ∧ x = (.nil, [])) ∨
    ∃ (a : Addr) (len cap m : Nat), cs = [.slice (some a) len cap] ∧ base ≤ a.block ∧ len ≤ cap ∧ cap ≤ maxLen ∧ m = (if spare a.block then cap else len) ∧
      ∀ i, i < m → ∀ k f, fs[k]? = some f → ∃ v y n, w.cell? (a.add (i * fs.size + k)) = some v ∧ DataW.trod enc P w base spare held n f.type [v] = some y := by
  rcases open_slice ht h with h0 | ⟨a, len, cap, m, n, D, Pl, rfl, hb, hl, hm, hmm, rfl, hx⟩
  · exact Or.inl h0
  right
  refine ⟨a, len, cap, m, rfl, hb, hl, hm, hmm, fun i hi k f hk => ?_⟩
  obtain ⟨cs', h1, h2⟩ := hx i hi
  rw [ce] at h1
  obtain ⟨_, hlen, hcell⟩ := World.cells?_some h1
  obtain ⟨xs, n', _, _, _, hxl, hf⟩ := DataW.trod_struct he h2
  have hlt : k < fs.size := (Array.getElem?_eq_some_iff.1 hk).1
  obtain ⟨ho, hc1⟩ := hone k f hk
  have g := hf k f hk
  rw [ho, hc1, take1_drop cs' k undef (by omega), List.getElem?_eq_getElem (by omega)] at g
  have hcl := hcell k hlt
  rw [add_add, List.getElem?_eq_getElem (by omega)] at hcl
  refine ⟨cs'.getD k undef, _, n', ?_, g⟩
  rw [hcl]
  simp [List.getD, List.getElem?_eq_getElem (show k < cs'.length by omega)]
end Go.Proofs.YtjllpbckmioiiaaDoor

/- What comes in for the journal's statements: puts, lists of puts, and the last argument by value. -/
namespace Go.Proofs.YtjllpbckmioiiaaDoor.jr
open Go Go.RowKit Go.ChangeShapes Go.WideShapes Go.Deep Go.Proofs.YtjllpbckmioiiaaDoor.dk Go.Proofs.YtjllpbckmioiiaaDoor.wi
set_option maxRecDepth 100000

section
variable {H : Type} {enc : TypeId × Value → H} {w : World} {held : Bool} {a : Option Addr} {l c : Nat} {d : DataW H} {pl : List MemPlace}

theorem jputs_cells {n : Nat} {v : Value} {y : DataW H × List MemPlace} (h : DataW.trod enc Tryd.prog w 0 (fun _ => true) held n 23 [v] = some y) : ∃ (A : Option Addr) (zs : List PutV) (c : Nat), v = .slice A zs.length c ∧ PutsAt3 w A zs ∧ zs.length ≤ 9223372036854775807 := by
  rcases open_slice_fields Tryd.underlying23 Tryd.underlying70 (hone_of (by kernel_rfl)) (by kernel_rfl) h with ⟨hcs, _⟩ | ⟨x, l', c', m, hcs, _, hl, hm, hmm, hi⟩
  · simp at hcs
    subst hcs
    exact ⟨none, [], 0, rfl, fun i h => absurd h (by simp), by simp⟩
  · simp at hcs
    subst hcs
    simp only [if_true] at hmm
    subst hmm
    unfold maxLen at hm
    obtain ⟨zs, hzl, hz⟩ := choose_list (p := fun i (z : PutV) => w.cell? (x.add (i * 3)) = some (.int .i64 z.at_) ∧ w.cell? (x.add (i * 3 + 1)) = some (.int .u8 (z.c.toNat : Int)) ∧
        w.cell? (x.add (i * 3 + 2)) = some (.bool z.short) ∧ i64B z.at_) l' (fun i hil => by
      obtain ⟨v0, y0, n0, e0, g0⟩ := hi i (by omega) 0 _ rfl
      obtain ⟨v1, y1, n1, e1, g1⟩ := hi i (by omega) 1 _ rfl
      obtain ⟨v2, y2, n2, e2, g2⟩ := hi i (by omega) 2 _ rfl
      obtain ⟨k0, h0, _, b0⟩ := DataW.trod_int Tryd.underlying3 g0
      obtain ⟨k1, h1, _, b1⟩ := DataW.trod_int Tryd.underlying5 g1
      obtain ⟨k2, h2, _⟩ := DataW.trod_bool Tryd.underlying4 g2
      obtain ⟨c1, rfl⟩ := u8_of b1
      obtain rfl : v0 = _ := by simpa using h0
      obtain rfl : v1 = _ := by simpa using h1
      obtain rfl : v2 = _ := by simpa using h2
      exact ⟨⟨k0, c1, k2⟩, e0, e1, e2, bounds_i64 b0⟩)
    subst hzl
    refine ⟨some x, zs, _, rfl, fun i hil => ?_, by omega⟩
    have h0 := (hz 0 (by omega)).1
    rw [Nat.zero_mul] at h0
    obtain ⟨b, o, rfl, hb⟩ := spot0 h0
    have := hz i hil
    rw [addr_add, addr_add, addr_add] at this
    simp only [Nat.add_assoc] at this ⊢
    exact ⟨b, o, rfl, hb, this⟩

theorem jputs_of (h : DataW.Trod enc Tryd.prog w 0 (fun _ => true) held 23 (.slice a l c) d pl) : ∃ zs : List PutV, zs.length = l ∧ l ≤ 9223372036854775807 ∧ PutsAt3 w a zs := by
  obtain ⟨fuel, hf⟩ := h
  have hf' : DataW.trod enc Tryd.prog w 0 (fun _ => true) held fuel 23 [.slice a l c] = some (d, pl) := hf
  obtain ⟨A, zs, c', h1, h2, h3⟩ := jputs_cells hf'
  simp only [Value.slice.injEq] at h1
  obtain ⟨rfl, rfl, rfl⟩ := h1
  exact ⟨zs, rfl, h3, h2⟩

theorem pss_of (h : DataW.Trod enc Tryd.prog w 0 (fun _ => true) held 22 (.slice a l c) d pl) : ∃ zs : List (List PutV), zs.length = l ∧ l ≤ 9223372036854775807 ∧ PssAt w a zs := by
  obtain ⟨fuel, hf⟩ := h
  rcases open_slice1 Tryd.underlying22 (by kernel_rfl) hf with ⟨hcs, _⟩ | ⟨x, l', c', m, n, V, D, Pl, hcs, _, hl, hm, hmm, _, hi⟩
  · simp [Value.cells] at hcs
    obtain ⟨rfl, rfl, rfl⟩ := hcs
    exact ⟨[], rfl, by omega, fun i h => absurd h (by simp)⟩
  · simp [Value.cells] at hcs
    obtain ⟨rfl, rfl, rfl⟩ := hcs
    simp only [if_true] at hmm
    subst hmm
    unfold maxLen at hm
    obtain ⟨zs, hzl, hz⟩ := choose_list (p := fun i (z : List PutV) => ∃ A k, w.cell? (x.add i) = some (.slice A z.length k) ∧ PutsAt3 w A z ∧ z.length ≤ 9223372036854775807) l (fun i hil => by
      obtain ⟨h1, h2⟩ := hi i (by omega)
      obtain ⟨A, z, k, h3, h4, h5⟩ := jputs_cells h2
      exact ⟨z, A, k, by rw [h1, h3], h4, h5⟩)
    refine ⟨zs, hzl, by omega, fun i hil => ?_⟩
    obtain ⟨_, _, h0, _⟩ := hz 0 (by omega)
    obtain ⟨b, o, rfl, hb⟩ := spot0 h0
    obtain ⟨A, k, h1, h2, h3⟩ := hz i hil
    rw [addr_add] at h1
    exact ⟨b, o, A, k, rfl, hb, h1, h2, h3⟩

theorem boolsc_cells {n : Nat} {v : Value} {y : DataW H × List MemPlace} (h : DataW.trod enc Tryd.prog w 0 (fun _ => true) held n 25 [v] = some y) : ∃ (A : Option Addr) (zs : List Bool) (c : Nat), v = .slice A zs.length c ∧ BoolsAt w A zs ∧ zs.length ≤ c ∧ zs.length ≤ 9223372036854775807 := by
  rcases open_slice1 Tryd.underlying25 (by kernel_rfl) h with ⟨hcs, _⟩ | ⟨x, l', c', m, n, V, D, Pl, hcs, _, hl, hm, hmm, _, hi⟩
  · simp at hcs
    subst hcs
    exact ⟨none, [], 0, rfl, fun i h => absurd h (by simp), by simp, by simp⟩
  · simp at hcs
    subst hcs
    simp only [if_true] at hmm
    subst hmm
    unfold maxLen at hm
    obtain ⟨zs, hzl, hz⟩ := choose_list (p := fun i (z : Bool) => w.cell? (x.add i) = some (.bool z)) l' (fun i hil => by
      obtain ⟨h1, h2⟩ := hi i (by omega)
      obtain ⟨k, h3, _⟩ := DataW.trod_bool Tryd.underlying4 h2
      have h3' : V i = .bool k := by simpa using h3
      exact ⟨k, by rw [h1, h3']⟩)
    subst hzl
    refine ⟨some x, zs, _, rfl, fun i hil => ?_, hl, by omega⟩
    obtain ⟨b, o, rfl, hb⟩ := spot0 (hz 0 (by omega))
    have := hz i hil
    rw [addr_add] at this
    exact ⟨b, o, rfl, hb, this⟩

theorem last_of {r : Reach} {b0 : Nat} {v : Value} (hv : Value.okWide Tryd.prog w r b0 27 v) (h : DataW.Trod enc Tryd.prog w 0 (fun _ => true) held 27 v d pl) :
    ∃ (A1 : Option Addr) (c1 : Nat) (zs : List PutV) (f0 f1 : Int) (A2 : Option Addr) (c2 : Nat) (bs : List Bool), v = .agg #[.slice A1 zs.length c1, .int .u8 f0, .int .u8 f1, .slice A2 bs.length c2] ∧
      (0 ≤ f0 ∧ f0 ≤ 255) ∧ (0 ≤ f1 ∧ f1 ≤ 255) ∧ zs.length ≤ 9223372036854775807 ∧ PutsAt3 w A1 zs ∧ bs.length ≤ 9223372036854775807 ∧ bs.length ≤ c2 ∧ BoolsAt w A2 bs := by
  have hu := Tryd.underlying27
  have c4 : Tryd.prog.cellsOf 27 = 4 := by kernel_rfl
  have cs0 : Tryd.prog.cellsOf 23 = 1 := by kernel_rfl
  have cs1 : Tryd.prog.cellsOf 24 = 2 := by kernel_rfl
  have cs2 : Tryd.prog.cellsOf 25 = 1 := by kernel_rfl
  have cs3 : Tryd.prog.cellsOf 5 = 1 := by kernel_rfl
  simp only [Value.okWide, hu] at hv
  obtain ⟨⟨cs⟩, rfl, h2, _⟩ := hv
  rw [c4] at h2
  match cs, h2 with
  | [v0, v1, v2, v3], _ =>
    obtain ⟨fuel, hf⟩ := h
    obtain ⟨xs, m, _, _, _, hl, hi⟩ := DataW.trod_struct hu hf
    match xs, hl with
    | [X0, X1, X2], _ =>
      have g0 := hi 0 _ rfl
      have g1 := hi 1 _ rfl
      have g2 := hi 2 _ rfl
      simp [cs0, cs1, cs2, Value.cells] at g0 g1 g2
      obtain ⟨A1, zs, c1, rfl, p1, p2⟩ := jputs_cells g0
      obtain ⟨A2, bs, c2, rfl, q1, q2, q3⟩ := boolsc_cells g2
      obtain ⟨ys, m', _, _, _, hyl, hy⟩ := DataW.trod_array Tryd.underlying24 g1
      match ys, hyl with
      | [x0, x1], _ =>
        have e0 := hy 0 (by omega)
        have e1 := hy 1 (by omega)
        simp [cs3] at e0 e1
        obtain ⟨k0, h0, _, b0⟩ := DataW.trod_int Tryd.underlying5 e0
        obtain ⟨k1, h1, _, b1⟩ := DataW.trod_int Tryd.underlying5 e1
        obtain rfl : v1 = _ := by simpa using h0
        obtain rfl : v2 = _ := by simpa using h1
        have z0 := bounds_u8 b0
        have z1 := bounds_u8 b1
        exact ⟨A1, c1, zs, k0, k1, A2, c2, bs, rfl, by omega, by omega, p2, p1, q3, q2, q1⟩
end
end Go.Proofs.YtjllpbckmioiiaaDoor.jr

/- What the rows list of the variable of package crc, as the walks want it; and a world in which it holds that. -/
namespace Go.Proofs.YtjllpbckmioiiaaDoor
open Go.RowKit
set_option maxRecDepth 100000

def cZs : List Int := tabL.map Int.ofNat

theorem cgType : (Tryd.prog.globals[0]?).map (·.type) = some 115 := by kernel_rfl
theorem cgCells : Tryd.prog.cellsOf 115 = 16 := by kernel_rfl
theorem cgCell : Tryd.prog.cellsOf 95 = 1 := by kernel_rfl

theorem ctab_of_laid {W : World} {name : String} {rest : List (String × DataW Unit)} (h : laidMet Tryd.prog ((name, Lib.tabData .u32 cZs) :: rest) W) (cg : Tryd.prog.globalNamed name = some 0) : CTab W := by
  have hT := Lib.tabIs_of_head cg cgType Tryd.underlying115 Tryd.underlying95 cgCell cgCells h
  have hc : ∀ i, i < 16 → W.cell? ⟨0, i, none⟩ = some (.int .u32 ((tabL.getD i 0 : Nat) : Int)) := by
    intro i hi
    have := hT.cell cg i (by simpa [cZs, tabL] using hi)
    rw [this]
    have : ∀ i : Nat, i < 16 → cZs.getD i 0 = ((tabL.getD i 0 : Nat) : Int) := by decide
    rw [this i hi]
  exact ⟨World.block_lt_of_cell? W _ (hc 0 (by omega)), hc⟩

/-- The settled world, crc's variable holding what its initialiser lays. -/
noncomputable def laidWorld (os : Os) : World :=
  { World.holding Tryd.prog os ⟨#[], #[], []⟩ with heap := (World.holding Tryd.prog os ⟨#[], #[], []⟩).heap.modify 0 fun
      | .cells _ t frozen => .cells (cZs.map fun z => Value.int .u32 z).toArray t frozen
      | o => o }

end Go.Proofs.YtjllpbckmioiiaaDoor

