/- StApp, SlcG, MtArgs, StArgs, StArgsM, AppAt, StShort, CLaid. -/
import Derived.Test.YtchdamlnbmngbaaDoorQ0
import Derived.Test.YtchdamlnbmngbaaDoorQ1
import Derived.Test.YtchdamlnbmngbaaDoorQ10
import Derived.Test.YtchdamlnbmngbaaDoorQ11
import Derived.Test.YtchdamlnbmngbaaDoorQ12
import Derived.Test.YtchdamlnbmngbaaDoorQ4
import Derived.Test.YtchdamlnbmngbaaDoorQ5
import Derived.Test.YtchdamlnbmngbaaDoorQ6
import Derived.Test.YtchdamlnbmngbaaDoorQ7
import Derived.Maps.AppendAt
import Derived.Lib.AppendZeros
import Derived.Deep.Slices
import Derived.Deep.Fields
import Derived.ChangeSame
import Derived.OpenShut
import Derived.Deep.SlicePairs
import Derived.ChangeSlices
import Derived.Tactics
import Derived.Test.YtchdamlnbmngbaaDoorRows
import Derived.Deep.DeepHandedRow
import Derived.Lib.LaidTab
set_option linter.unusedVariables false
set_option linter.unusedSimpArgs false
/- Changes are put behind changes; two lists in memory alike. -/
namespace Go.Proofs.YtchdamlnbmngbaaDoor.st
open Go Go.RowKit Go.Sort Go.Proofs.YtchdamlnbmngbaaDoor.ib Go.Proofs.YtchdamlnbmngbaaDoor.wi Go.Proofs.YtchdamlnbmngbaaDoor.mt
open Go.Proofs.YtchdamlnbmngbaaDoor.ch (ChL OChs chVals infoCh)
set_option maxRecDepth 100000

theorem chl_news {w : World} {b o : Nat} {r : List Ch} (h : ChL w (some ⟨b, o, none⟩) r) : ∀ (j : Nat) (u : Value), (chVals r)[j]? = some u → w.cell? ((⟨b, o, none⟩ : Addr).add j) = some u := by
  intro j u hj
  have hlt : j < (chVals r).length := (List.getElem?_eq_some_iff.1 hj).1
  rw [Go.Proofs.YtchdamlnbmngbaaDoor.ch.chVals_len] at hlt
  obtain ⟨g0, g1⟩ := Go.Proofs.YtchdamlnbmngbaaDoor.ch.chVals_get r (j / 2) (by omega)
  obtain ⟨b', o', e, _, c0, c1, _⟩ := h (j / 2) (by omega)
  simp only [Option.some.injEq, Addr.mk.injEq, and_true] at e
  obtain ⟨rfl, rfl⟩ := e
  rw [addr_add]
  rcases Nat.mod_two_eq_zero_or_one j with hm | hm
  · have hj2 : j / 2 * 2 = j := by omega
    rw [hj2] at g0 c0
    rw [hj] at g0
    cases g0
    exact c0
  · have hj2 : j / 2 * 2 + 1 = j := by omega
    rw [hj2] at g1
    rw [Nat.add_assoc, hj2] at c1
    rw [hj] at g1
    cases g1
    exact c1
theorem chVals_one : ∀ (r : List Ch), ∀ u ∈ chVals r, u.oneCell' = true
  | [], u, hu => absurd hu (by simp [chVals])
  | x :: r, u, hu => by
    simp only [chVals, List.mem_cons] at hu
    rcases hu with rfl | rfl | hu
    · rfl
    · rfl
    · exact chVals_one r u hu
theorem grown_refl (w : World) (row : Option Nat) : w.grownBy w row := ⟨rfl, rfl, rfl, Nat.le_refl _, fun _ _ _ => rfl⟩
theorem append_chs {w : World} {B : Nat} {A5 A3 : Option Addr} {c5 c3 : Nat} {l r : List Ch} (ho : OChs w B (.slice A5 l.length c5) l) (hr : ChL w A3 r) (hn : l.length + r.length ≤ 1000) (hB : B ≤ w.heap.size) :
    ∃ v' w', (Builtin.append_ #[27, 27] 27 #[.slice A5 l.length c5, .slice A3 r.length c3]).run Tryd.prog w = .ok v' w' ∧ OChs w' B v' (l ++ r) ∧ w.grownBy w' (Value.slice A5 l.length c5).ownBlock := by
  obtain ⟨i0, hi, hz0, hz1, hz2⟩ := info_parts infoCh
  have src : ∀ ad c, ChL w (some ad) r → ∃ v' w', (Builtin.append_ #[27, 27] 27 #[.slice A5 l.length c5, .slice (some ad) r.length c]).run Tryd.prog w = .ok v' w' ∧ OChs w' B v' (l ++ r) ∧ w.grownBy w' (Value.slice A5 l.length c5).ownBlock := by
    intro ad c h
    have hnews : ∀ (j : Nat) (u : Value), (chVals r)[j]? = some u → w.cell? (ad.add j) = some u := by
      intro j u hj
      cases r with
      | nil => simp [chVals] at hj
      | cons x r' =>
        obtain ⟨b, o, e, _⟩ := h 0 (by simp)
        cases e
        exact chl_news h j u hj
    obtain ⟨v', w', h1, h2, h3, _⟩ := run_append_own_at (P := Tryd.prog) w B 27 27 36 i0 (.agg #[.int .i64 0, .string ByteArray.empty]) 2 24 Tryd.underlying27 hi hz0 hz1 hz2 rfl (by decide) (.slice A5 l.length c5) l.length (chVals l) ho ad r.length c (chVals r) (Go.Proofs.YtchdamlnbmngbaaDoor.ch.chVals_len r) hnews (chVals_one r) (by unfold maxLen; omega) (by omega) hB
    refine ⟨v', w', h1, ?_, h3⟩
    unfold OChs
    rw [List.length_append, Go.Proofs.YtchdamlnbmngbaaDoor.ch.chVals_append]
    exact h2
  cases A3 with
  | some ad => exact src ad c3 hr
  | none =>
    obtain rfl : r = [] := by
      cases r with
      | nil => rfl
      | cons x r' =>
        obtain ⟨b, o, e, _⟩ := hr 0 (by simp)
        cases e
    have hc : l.length ≤ c5 := by
      rcases ho.2 with ⟨e, e0⟩ | ⟨g, cap, cur, e, _, _, hcc, _⟩
      · rw [e0]; exact Nat.zero_le _
      · simp only [Value.slice.injEq] at e
        obtain ⟨_, _, rfl⟩ := e
        exact hcc
    refine ⟨.slice A5 l.length c5, w, ?_, by rw [List.append_nil]; exact ho, grown_refl _ _⟩
    have hs : i0.size = 2 := hz1
    cases A5 with
    | none => simp [Builtin.append_, run_underlying Tryd.underlying27, sizeOf, typeInfo, hi, Builtin.lenOf, hc, run_firstCells_none]
    | some ad => simp [Builtin.append_, run_underlying Tryd.underlying27, sizeOf, typeInfo, hi, Builtin.lenOf, hc, run_firstCells_none, storeCells]
end Go.Proofs.YtchdamlnbmngbaaDoor.st

/- A slice of structs, opened at every index: its cells, what each field's cells are. Nothing here speaks of the program. -/
namespace Go.Proofs.YtchdamlnbmngbaaDoor
open Go Go.ChangeShapes Go.WideShapes Go.Deep
set_option maxRecDepth 100000

theorem open_slice_wide {H : Type} {enc : TypeId × Value → H} {P : Program} {w : World} {base : Nat} {spare : Nat → Bool} {held : Bool} {t e : TypeId} {fs : Array Field} {fuel : Nat} {cs : List Value} {x : DataW H × List MemPlace}
    (ht : P.underlying t = some (.slice e)) (he : P.underlying e = some (.struct fs))
    (h : DataW.trod enc P w base spare held fuel t cs = some x) :
    (cs = [.slice none 0 0] ∧ x = (.nil, [])) ∨
    ∃ (a : Addr) (len cap m : Nat), cs = [.slice (some a) len cap] ∧ base ≤ a.block ∧ len ≤ cap ∧ cap ≤ maxLen ∧ m = (if spare a.block then cap else len) ∧
      ∀ i, i < m → ∃ cs' : List Value, cs'.length = P.cellsOf e ∧ (∀ k (hk : k < cs'.length), w.cell? (a.add (i * P.cellsOf e + k)) = some cs'[k]) ∧
        ∀ (k : Nat) (f : Field), fs[k]? = some f → ∃ y n, DataW.trod enc P w base spare held n f.type ((cs'.drop f.offset).take (P.cellsOf f.type)) = some y := by
  rcases open_slice ht h with h0 | ⟨a, len, cap, m, n, D, Pl, rfl, hb, hl, hm, hmm, rfl, hx⟩
  · exact Or.inl h0
  right
  refine ⟨a, len, cap, m, rfl, hb, hl, hm, hmm, fun i hi => ?_⟩
  obtain ⟨cs', h1, h2⟩ := hx i hi
  obtain ⟨_, hlen, hcell⟩ := World.cells?_some h1
  obtain ⟨xs, n', _, _, _, hxl, hf⟩ := DataW.trod_struct he h2
  refine ⟨cs', hlen, fun k hk => ?_, fun k f hk => ?_⟩
  · have hcl := hcell k (by omega)
    rw [add_add, List.getElem?_eq_getElem hk] at hcl
    exact hcl
  · have hlt : k < fs.size := (Array.getElem?_eq_some_iff.1 hk).1
    exact ⟨xs[k]'(by omega), n', (hf k f hk).trans (List.getElem?_eq_getElem (by omega))⟩
end Go.Proofs.YtchdamlnbmngbaaDoor

/- A table by value that came in. -/
namespace Go.Proofs.YtchdamlnbmngbaaDoor.mt
open Go Go.RowKit Go.ChangeShapes Go.WideShapes Go.Deep Go.Proofs.YtchdamlnbmngbaaDoor.ib
set_option maxRecDepth 100000

theorem mu64_of {x : Int} (h : (Lit.int .u64 x).wf = true) : ∃ c : Nat, x = (c : Int) ∧ c < 18446744073709551616 := by
  have hb := bounds_u64 h
  exact ⟨x.toNat, by omega, by omega⟩
section
variable {H : Type} {enc : TypeId × Value → H} {w : World} {held : Bool} {d : DataW H} {pl : List MemPlace}
theorem sl_cells {n : Nat} {v : Value} {y : DataW H × List MemPlace} (h : DataW.trod enc Tryd.prog w 0 (fun _ => true) held n 93 [v] = some y) : ∃ (A : Option Addr) (zs : List Int) (c : Nat), v = .slice A zs.length c ∧ SlAt w A zs c ∧ zs.length ≤ 9223372036854775807 := by
  rcases open_ints Tryd.underlying93 Tryd.underlying3 (by kernel_rfl) h with ⟨hcs, _⟩ | ⟨x, l', c', zs, hcs, _, hl, hm, hz, _, hcell, hwf⟩
  · simp at hcs
    subst hcs
    exact ⟨none, [], 0, rfl, SlAt.none _, by simp⟩
  · obtain ⟨A, zs2, c2, rfl, h1, h2, h3⟩ := ints_cells h
    refine ⟨A, zs2, c2, rfl, ⟨h1, h3, fun e => ?_⟩, h2⟩
    simp at hcs
    obtain ⟨rfl, _⟩ := hcs
    cases e
theorem gd_cells {n : Nat} {v0 v1 : Value} {y : DataW H × List MemPlace} (h : DataW.trod enc Tryd.prog w 0 (fun _ => true) held n 24 [v0, v1] = some y) : ∃ g : Gd, v0 = .int .u64 (g.1 : Int) ∧ v1 = .int .u64 (g.2 : Int) ∧ gdB g := by
  obtain ⟨xs, m, _, _, _, hl, hi⟩ := DataW.trod_struct Tryd.underlying24 h
  match xs, hl with
  | [x0, x1], _ =>
    have c1 : Tryd.prog.cellsOf 22 = 1 := by kernel_rfl
    have g0 := hi 0 _ rfl
    have g1 := hi 1 _ rfl
    simp [c1] at g0 g1
    obtain ⟨k0, h0, _, b0⟩ := DataW.trod_int Tryd.underlying22 g0
    obtain ⟨k1, h1, _, b1⟩ := DataW.trod_int Tryd.underlying22 g1
    obtain ⟨c0, rfl, l0⟩ := mu64_of b0
    obtain ⟨c1, rfl, l1⟩ := mu64_of b1
    obtain rfl : v0 = _ := by simpa using h0
    obtain rfl : v1 = _ := by simpa using h1
    exact ⟨(c0, c1), rfl, rfl, l0, l1⟩
/-- Lengths that are no matter. -/
structure mtW (m : Mt) : Prop where
  live : m.live.length ≤ 9223372036854775807
  snaps : m.snaps.length ≤ 9223372036854775807
  imgs : ∀ s ∈ m.snaps, s.img.length ≤ 9223372036854775807
  img : m.tok.img.length ≤ 9223372036854775807
end
end Go.Proofs.YtchdamlnbmngbaaDoor.mt

/- A part by value that came in. -/
namespace Go.Proofs.YtchdamlnbmngbaaDoor.st
open Go Go.RowKit Go.ChangeShapes Go.WideShapes Go.Deep Go.Proofs.YtchdamlnbmngbaaDoor.ib Go.Proofs.YtchdamlnbmngbaaDoor.mt
open Go.Proofs.YtchdamlnbmngbaaDoor.ch (ChL)
set_option maxRecDepth 100000

section
variable {H : Type} {enc : TypeId × Value → H} {w : World} {held : Bool} {d : DataW H} {pl : List MemPlace}
theorem chs_cells {n : Nat} {v : Value} {y : DataW H × List MemPlace} (h : DataW.trod enc Tryd.prog w 0 (fun _ => true) held n 27 [v] = some y) :
    ∃ (A : Option Addr) (xs : List Ch) (c : Nat), v = .slice A xs.length c ∧ ChL w A xs ∧ xs.length ≤ 9223372036854775807 ∧ ∀ x ∈ xs, x.2.length ≤ 9223372036854775807 := by
  have ce : Tryd.prog.cellsOf 36 = 2 := by kernel_rfl
  have ci : Tryd.prog.cellsOf 3 = 1 := by kernel_rfl
  have cs : Tryd.prog.cellsOf 9 = 1 := by kernel_rfl
  rcases open_slice_wide Tryd.underlying27 Tryd.underlying36 h with ⟨hcs, _⟩ | ⟨x, l', c', m, hcs, _, hl, hm, hmm, hi⟩
  · simp at hcs
    subst hcs
    exact ⟨none, [], 0, rfl, ChL.nil _ _, by simp, fun x hx => absurd hx (by simp)⟩
  · simp at hcs
    subst hcs
    simp only [if_true] at hmm
    subst hmm
    unfold maxLen at hm
    obtain ⟨zs, hzl, hz⟩ := choose_list (p := fun i (z : Ch) => w.cell? (x.add (i * 2)) = some (.int .i64 z.1) ∧ w.cell? (x.add (i * 2 + 1)) = some (.string (str z.2)) ∧ b64 z.1 ∧ z.2.length ≤ 9223372036854775807) l' (fun i hil => by
      obtain ⟨cs', hlen, hcell, hf⟩ := hi i (by omega)
      rw [ce] at hlen hcell
      match cs', hlen with
      | [u0, u1], _ =>
        obtain ⟨y0, n0, e0⟩ := hf 0 _ rfl
        obtain ⟨y1, n1, e1⟩ := hf 1 _ rfl
        simp [ci, cs] at e0 e1
        obtain ⟨k0, h0, _, b0⟩ := DataW.trod_int Tryd.underlying3 e0
        obtain ⟨s1, h1, _, b1⟩ := DataW.trod_string Tryd.underlying9 e1
        obtain rfl : u0 = _ := by simpa using h0
        obtain rfl : u1 = _ := by simpa using h1
        have k0 := hcell 0 (by simp)
        have k1 := hcell 1 (by simp)
        unfold maxLen at b1
        exact ⟨(_, bl s1), k0, by rw [str_bl]; exact k1, bounds_i64 b0, by rw [bl_len]; exact b1⟩)
    subst hzl
    refine ⟨some x, zs, _, rfl, fun i hil => ?_, by omega, fun z hz' => ?_⟩
    · obtain ⟨h0, _⟩ := hz 0 (by omega)
      rw [Nat.zero_mul] at h0
      obtain ⟨b, o, rfl, hb⟩ := spot0 h0
      obtain ⟨k0, k1, k2, _⟩ := hz i hil
      rw [addr_add] at k0 k1
      exact ⟨b, o, rfl, hb, k0, by simpa only [Nat.add_assoc] using k1, k2⟩
    · obtain ⟨i, hi', rfl⟩ := List.getElem_of_mem hz'
      obtain ⟨_, _, _, k6⟩ := hz i hi'
      exact k6
/-- Lengths that are no matter. -/
structure paW (p : Pa) : Prop where
  few : p.chs.length ≤ 9223372036854775807
  thin : ∀ c ∈ p.chs, c.2.length ≤ 9223372036854775807
theorem part_of {r : Reach} {b0 : Nat} {v : Value} (hv : Value.okWide Tryd.prog w r b0 30 v) (h : DataW.Trod enc Tryd.prog w 0 (fun _ => true) held 30 v d pl) : ∃ A c p, v = .agg (paC p A c) ∧ PaL w A c p ∧ paW p := by
  have hu := Tryd.underlying30
  have c7 : Tryd.prog.cellsOf 30 = 7 := by kernel_rfl
  have cg : Tryd.prog.cellsOf 24 = 2 := by kernel_rfl
  have ci : Tryd.prog.cellsOf 27 = 1 := by kernel_rfl
  have ct : Tryd.prog.cellsOf 3 = 1 := by kernel_rfl
  simp only [Value.okWide, hu] at hv
  obtain ⟨⟨us⟩, rfl, h2, _⟩ := hv
  rw [c7] at h2
  match us, h2 with
  | [u0, u1, u2, u3, u4, u5, u6], _ =>
    obtain ⟨fuel, hf⟩ := h
    obtain ⟨xs, m, _, _, _, hl, hi⟩ := DataW.trod_struct hu hf
    match xs, hl with
    | [X0, X1, X2, X3, X4], _ =>
      have g0 := hi 0 _ rfl
      have g1 := hi 1 _ rfl
      have g2 := hi 2 _ rfl
      have g3 := hi 3 _ rfl
      have g4 := hi 4 _ rfl
      simp [cg, ci, ct, Value.cells] at g0 g1 g2 g3 g4
      obtain ⟨ga, rfl, rfl, ha⟩ := gd_cells g0
      obtain ⟨gb, rfl, rfl, hb⟩ := gd_cells g1
      obtain ⟨k2, h2, _, b2⟩ := DataW.trod_int Tryd.underlying3 g2
      obtain ⟨k3, h3, _, b3⟩ := DataW.trod_int Tryd.underlying3 g3
      obtain rfl : u4 = _ := by simpa using h2
      obtain rfl : u5 = _ := by simpa using h3
      obtain ⟨A, l, c, rfl, q1, q2, q3⟩ := chs_cells g4
      exact ⟨A, c, ⟨ga, gb, k2, k3, l⟩, rfl, ⟨q1, ha, hb, bounds_i64 b2, bounds_i64 b3⟩, q2, q3⟩
end
end Go.Proofs.YtchdamlnbmngbaaDoor.st

/- Two guids by value, and a slice of marks, that came in. -/
namespace Go.Proofs.YtchdamlnbmngbaaDoor.st
open Go Go.RowKit Go.ChangeShapes Go.WideShapes Go.Deep Go.Proofs.YtchdamlnbmngbaaDoor.ib Go.Proofs.YtchdamlnbmngbaaDoor.mt
open Go.Proofs.YtchdamlnbmngbaaDoor.ch (ChL)
set_option maxRecDepth 100000

theorem u8_nat {x : Int} (h : (Lit.int .u8 x).wf = true) : ∃ c : UInt8, x = (c.toNat : Int) := by
  have hb := bounds_u8 h
  exact ⟨UInt8.ofNat x.toNat, by rw [UInt8.toNat_ofNat']; omega⟩
/-- Two guids, flat. -/
def ggC (g t : Gd) : Array Value := #[.int .u64 (g.1 : Int), .int .u64 (g.2 : Int), .int .u64 (t.1 : Int), .int .u64 (t.2 : Int)]
section
variable {H : Type} {enc : TypeId × Value → H} {w : World} {held : Bool} {d : DataW H} {pl : List MemPlace}
theorem gds2_of {r : Reach} {b0 : Nat} {v : Value} (hv : Value.okWide Tryd.prog w r b0 25 v) (h : DataW.Trod enc Tryd.prog w 0 (fun _ => true) held 25 v d pl) :
    ∃ g t : Gd, v = .agg (ggC g t) ∧ gdB g ∧ gdB t := by
  have hu := Tryd.underlying25
  have c4 : Tryd.prog.cellsOf 25 = 4 := by kernel_rfl
  have c2 : Tryd.prog.cellsOf 24 = 2 := by kernel_rfl
  simp only [Value.okWide, hu] at hv
  obtain ⟨⟨cs⟩, rfl, h2, _⟩ := hv
  rw [c4] at h2
  match cs, h2 with
  | [v0, v1, v2, v3], _ =>
    obtain ⟨fuel, hf⟩ := h
    obtain ⟨xs, m, _, _, _, hl, hi⟩ := DataW.trod_array hu hf
    match xs, hl with
    | [x0, x1], _ =>
      have g0 := hi 0 (by omega)
      have g1 := hi 1 (by omega)
      simp [c2, Value.cells] at g0 g1
      obtain ⟨ga, rfl, rfl, ha⟩ := gd_cells g0
      obtain ⟨gb, rfl, rfl, hb⟩ := gd_cells g1
      exact ⟨ga, gb, rfl, ha, hb⟩
theorem marks_of {a : Option Addr} {l c : Nat} (h : DataW.Trod enc Tryd.prog w 0 (fun _ => true) held 26 (.slice a l c) d pl) :
    ∃ zs : List Mk, l = zs.length ∧ l ≤ 9223372036854775807 ∧ MkL w a zs := by
  have ce : Tryd.prog.cellsOf 51 = 3 := by kernel_rfl
  have ci : Tryd.prog.cellsOf 3 = 1 := by kernel_rfl
  have c8 : Tryd.prog.cellsOf 5 = 1 := by kernel_rfl
  have cb : Tryd.prog.cellsOf 4 = 1 := by kernel_rfl
  obtain ⟨fuel, hf0⟩ := h
  rcases open_slice_wide Tryd.underlying26 Tryd.underlying51 hf0 with ⟨hcs, _⟩ | ⟨x, l', c', m, hcs, _, hl, hm, hmm, hi⟩
  · simp [Value.cells] at hcs
    obtain ⟨rfl, rfl, rfl⟩ := hcs
    exact ⟨[], rfl, by omega, fun i hi => absurd hi (by simp)⟩
  · simp [Value.cells] at hcs
    obtain ⟨rfl, rfl, rfl⟩ := hcs
    simp only [if_true] at hmm
    subst hmm
    unfold maxLen at hm
    obtain ⟨zs, hzl, hz⟩ := choose_list (p := fun i (z : Mk) => w.cell? (x.add (i * 3)) = some (.int .i64 z.b) ∧ w.cell? (x.add (i * 3 + 1)) = some (.int .u8 (z.c.toNat : Int)) ∧ w.cell? (x.add (i * 3 + 2)) = some (.bool z.s) ∧ b64 z.b) l (fun i hil => by
      obtain ⟨cs', hlen, hcell, hf⟩ := hi i (by omega)
      rw [ce] at hlen hcell
      match cs', hlen with
      | [u0, u1, u2], _ =>
        obtain ⟨y0, n0, e0⟩ := hf 0 _ rfl
        obtain ⟨y1, n1, e1⟩ := hf 1 _ rfl
        obtain ⟨y2, n2, e2⟩ := hf 2 _ rfl
        simp [ci, c8, cb] at e0 e1 e2
        obtain ⟨k0, h0, _, b0⟩ := DataW.trod_int Tryd.underlying3 e0
        obtain ⟨k1, h1, _, b1⟩ := DataW.trod_int Tryd.underlying5 e1
        obtain ⟨k2, h2, _⟩ := DataW.trod_bool Tryd.underlying4 e2
        obtain ⟨c, rfl⟩ := u8_nat b1
        obtain rfl : u0 = _ := by simpa using h0
        obtain rfl : u1 = _ := by simpa using h1
        obtain rfl : u2 = _ := by simpa using h2
        have q0 := hcell 0 (by simp)
        have q1 := hcell 1 (by simp)
        have q2 := hcell 2 (by simp)
        exact ⟨⟨k0, c, k2⟩, q0, q1, q2, bounds_i64 b0⟩)
    refine ⟨zs, hzl.symm, by omega, fun i hil => ?_⟩
    obtain ⟨h0, _⟩ := hz 0 (by omega)
    rw [Nat.zero_mul] at h0
    obtain ⟨b, o, rfl, hb⟩ := spot0 h0
    obtain ⟨k0, k1, k2, k3⟩ := hz i hil
    rw [addr_add] at k0 k1 k2
    exact ⟨b, o, rfl, hb, k0, by simpa only [Nat.add_assoc] using k1, by simpa only [Nat.add_assoc] using k2, k3⟩
end
end Go.Proofs.YtchdamlnbmngbaaDoor.st

/- append, and where the list then lies. -/
namespace Go.Proofs.YtchdamlnbmngbaaDoor
open Go Go.RowKit
set_option maxRecDepth 100000

theorem wpList_append_at {P : Program} {ops : Array Oper} {rest : List Oper} {o : Oper} {a : Act} {w : World} {Q : Exit → Act → World → Prop} (hgd : o.guard = none) (s x : Operand) (t : TypeId)
    (ho : o.op = .call { callee := .builtin .append, args := #[s, x], argTypes := #[t, t] })
    (base : Nat) (e : TypeId) (i : TypeInfo) (z : Value) (size bytes : Nat) (ht : P.underlying t = some (.slice e)) (hi : P.info? e = some i) (hz : i.zero = some z)
    (hsize : i.size = size) (hby : i.bytes = bytes) (hzs : z.cells.size = size) (hsz : 0 < size)
    (v : Value) (n : Nat) (xs : List Value) (hs : a.eval s = v) (hown : w.ownsRow base e size v n xs)
    (ad : Addr) (m c : Nat) (news : List Value) (hx : a.eval x = .slice (some ad) m c) (hl : news.length = m * size) (hnews : ∀ j u, news[j]? = some u → w.cell? (ad.add j) = some u) (h1 : ∀ u ∈ news, u.oneCell' = true)
    (h63 : n + m ≤ maxLen) (hbytes : (n + m) * bytes ≤ 140737488355328) (hbase : base ≤ w.heap.size)
    (h : ∀ v' w', w'.ownsRow base e size v' (n + m) (xs ++ news) → w.grownBy w' v.ownBlock → (v'.ownBlock = v.ownBlock ∨ v'.ownBlock = some w.heap.size) → wpList P ops Q rest (a.put o.dst v') w') : wpList P ops Q (o :: rest) a w := by
  refine wpList_plain hgd fun K hK => ?_
  obtain ⟨v', w', hrun, h2, h3, _, h5⟩ := run_append_own_at (P := P) w base t o.type e i z size bytes ht hi hz hsize hby hzs hsz v n xs hown ad m c news hl hnews h1 h63 hbytes hbase
  unfold Oper.wp
  simp [execOp, ho, resolve, invoke, builtin, hs, hx, hrun, Result.andThen]
  exact hK _ _ (h v' w' h2 h3 h5)
end Go.Proofs.YtchdamlnbmngbaaDoor

/- The statements' parts, made short: thirty changes of forty bytes at most, in memory of their own. -/
namespace Go.Proofs.YtchdamlnbmngbaaDoor.st
open Go Go.RowKit Go.Sort Go.Proofs.YtchdamlnbmngbaaDoor.ib Go.Proofs.YtchdamlnbmngbaaDoor.wi Go.Proofs.YtchdamlnbmngbaaDoor.mt
open Go.Proofs.YtchdamlnbmngbaaDoor.ch (ChL OChs chVals infoCh)
set_option maxRecDepth 100000

def shC (c : Ch) : Ch := (c.1, c.2.take 40)
def shL (l : List Ch) : List Ch := (l.take 30).map shC
def shP (p : Pa) : Pa := ⟨p.base, p.target, p.fr, p.all, shL p.chs⟩
theorem shL_len (l : List Ch) : (shL l).length = min 30 l.length := by unfold shL; rw [List.length_map, List.length_take]
theorem shL_snoc (l : List Ch) (k : Nat) (h : k < l.length) (h30 : k < 30) : shL (l.take (k + 1)) = shL (l.take k) ++ [shC l[k]] := by
  unfold shL
  rw [List.take_take, List.take_take, Nat.min_eq_right (by omega), Nat.min_eq_right (by omega), List.take_succ_eq_append_getElem h, List.map_append]
  rfl
theorem shL_done (l : List Ch) (k : Nat) (h : k ≤ l.length) (h30 : k ≤ 30) (he : ¬ (k < l.length ∧ k < 30)) : shL (l.take k) = shL l := by
  unfold shL
  rw [List.take_take]
  congr 1
  by_cases h : k = l.length
  · subst h
    rw [← List.take_take, List.take_length]
  · obtain rfl : k = 30 := by omega
    rw [Nat.min_self]
theorem ex_take (S : ByteArray) (x : List UInt8) (hS : str x = S) (n : Nat) (hn : n = min x.length 40) : S.extract 0 n = str (x.take 40) := by
  subst hS
  rw [bl_take, bl_str, hn]
  congr 1
  by_cases h : 40 ≤ x.length
  · rw [Nat.min_eq_right h]
  · rw [Nat.min_eq_left (by omega), List.take_of_length_le (Nat.le_refl _), List.take_of_length_le (by omega)]

structure ShS (w W : World) (gp g2 : Nat) (p : Pa) (A : Option Addr) (cp : Nat) (v : Value) (l : List Ch) : Prop where
  m : Blk W gp 30 (paC p A cp)
  res : Blk W g2 30 pZ
  row : OChs W w.heap.size v l
  below : Below w.heap.size w W
  ne : gp ≠ g2
  lo : w.heap.size ≤ gp ∧ w.heap.size ≤ g2
section
variable {w W W' : World} {gp g2 : Nat} {p : Pa} {A : Option Addr} {cp : Nat} {v : Value} {l : List Ch}
theorem ShS.grow (h : ShS w W gp g2 p A cp v l) (hb : Below W.heap.size W W') : ShS w W' gp g2 p A cp v l :=
  ⟨h.m.below hb, h.res.below hb, row_of_block h.row (fun j hj => hb.block j (h.row.lt j hj).2), below_step h.below hb, h.ne, h.lo⟩
theorem ShS.own {j : Nat} (h : ShS w W gp g2 p A cp v l) (hl : l.length = j) : W.ownsRow w.heap.size 36 2 v j (chVals l) := by
  have := h.row
  unfold OChs at this
  rwa [hl] at this
theorem ShS.push {x : Ch} {v' : Value} {j : Nat} (h : ShS w W gp g2 p A cp v l) (hl : l.length = j) (ho : W'.ownsRow w.heap.size 36 2 v' (j + 1) (chVals l ++ [.int .i64 x.1, .string (str x.2)])) (hg : W.grownBy W' v.ownBlock) : ShS w W' gp g2 p A cp v' (l ++ [x]) := by
  have hk := Kp.of_grown hg h.row
  exact ⟨hk _ _ _ (by decide) h.m, hk _ _ _ (by decide) h.res, ochs_snoc (by rw [hl]; exact ho), h.below.grown hg h.below.size (fun j hj => (h.row.lt j hj).1), h.ne, h.lo⟩
end
def ShRel (w : World) (gp g2 : Nat) (p : Pa) (A : Option Addr) (cp : Nat) (v i : Value) (wr : World) : Prop :=
  ∃ k : Nat, k ≤ p.chs.length ∧ k ≤ 30 ∧ i = .int .i64 (k : Int) ∧ ShS w wr gp g2 p A cp v (shL (p.chs.take k))
/-- A part by value, in memory of its own. -/
def endPa (p : Pa) (w : World) (e : Ending) (w' : World) : Prop := ∃ A c, e = .returned (.agg (paC p A c)) ∧ PaL w' A c p ∧ OChs w' w.heap.size (.slice A p.chs.length c) p.chs ∧ Below w.heap.size w w'

set_option maxHeartbeats 6400000 in
theorem short_any (A : Option Addr) (cp : Nat) (p : Pa) (w : World) (h : PaL w A cp p) (hl : p.chs.length ≤ 9223372036854775807) (hd : ∀ c ∈ p.chs, c.2.length ≤ 9223372036854775807) :
    Calls Tryd.prog 14 #[.agg (paC p A cp)] w (endPa (shP p) w) := by
  obtain ⟨i0, hi, hz0, hz1, hz2⟩ := info_parts infoCh
  have c1 := (Below.refl w.heap.size w).alloc (Nat.le_refl _) (.cells (paC p A cp) 30)
  have k1 := Blk.new w 30 (paC p A cp)
  obtain ⟨W1, hW1⟩ : ∃ z, w.alloc (.cells (paC p A cp) 30) = z := ⟨_, rfl⟩
  rw [hW1] at c1 k1
  have c2 := (Below.refl W1.heap.size W1).alloc (Nat.le_refl _) (.cells pZ 30)
  have k2 := Blk.new W1 30 pZ
  obtain ⟨W2, hW2⟩ : ∃ z, W1.alloc (.cells pZ 30) = z := ⟨_, rfl⟩
  rw [hW2] at c2 k2
  obtain ⟨gp, hgp⟩ : ∃ q, w.heap.size = q := ⟨_, rfl⟩
  obtain ⟨gR, hgR⟩ : ∃ q, W1.heap.size = q := ⟨_, rfl⟩
  have H1 : Hid (ShS w W2 gp gR p A cp nlS []) := by
    have e1 := k1.below c2
    rw [hgp] at e1
    rw [hgR] at k2
    refine ⟨e1, k2, World.ownsRow_nil _ _ _ _, below_step c1 c2, ?_, ?_⟩
    · have := k1.lt; omega
    · have := c1.size; omega
  have HCH := Lib.hid h.chs
  have HP := Lib.hid h
  have HD := Lib.hid hd
  have HW1 := Lib.hid hW1
  have HW2 := Lib.hid hW2
  have HGP := Lib.hid hgp
  have HGR := Lib.hid hgR
  unfold paC at HW1 hW1
  unfold pZ at HW2 hW2
  clear h c1 c2 k1 k2 hd hW2 hgp hgR
  unfold paC
  obtain ⟨len, hlen⟩ : ∃ z, p.chs.length = z := ⟨_, rfl⟩
  have HLN := Lib.hid hlen
  rw [hlen] at hl hW1 HW1 ⊢
  clear hlen
  go_enter Tryd.func14, Tryd.ntmps14
  go_upto_region 1 with fail
  try rw [HW2.out]
  rw [HGR.out, HGP.out]
  clear HW1 HW2 HGP HGR hW1
  go_wp2_with fail
  go_loopw [3, 4] (fun v i wr => ShRel w gp gR p A cp v i wr) (fun _ i _ => 30 - (intOf i).toNat)
  case atStart => exact ⟨0, by omega, by omega, rfl, H1.out⟩
  case round =>
    clear H1
    obtain ⟨k, hk, hk30, rfl, hS⟩ := hrel
    have HS := Lib.hid hS
    have hm := hS.m
    have m6 := hm.cell 6
    have ml := hm.lt
    simp only [paC, List.getElem?_toArray, List.getElem?_cons_zero, List.getElem?_cons_succ] at m6
    rw [HLN.out] at hk m6
    obtain ⟨A5, c5, rfl⟩ := own_form hS.row
    have HLK : Hid ((shL (p.chs.take k)).length = k) := by unfold Hid; rw [shL_len, List.length_take, HLN.out]; omega
    rw [HLK.out] at HS ⊢
    clear hS hm
    by_cases hlt : k < len
    · have hki : (k : Int) < (len : Int) := by omega
      by_cases h30 : k < 30
      · have h30i : (k : Int) < 30 := by omega
        have hkl : k < p.chs.length := by rw [HLN.out]; exact hlt
        obtain ⟨bb, bo, rfl, hbb, q0, q1, qb⟩ := HCH.out k hkl
        have HSN := Lib.hid (shL_snoc p.chs k hkl h30)
        have hth := HD.out _ (List.getElem_mem hkl)
        obtain ⟨x, hx⟩ : ∃ x, p.chs[k] = x := ⟨_, rfl⟩
        rw [hx] at q0 q1 HSN hth qb
        have e0 : wr.cell? ⟨bb, bo + k * 2, none⟩ = some (.int .i64 x.1) := by rw [HS.out.below.cell (p := ⟨bb, bo + k * 2, none⟩) hbb]; exact q0
        have e1 : wr.cell? ⟨bb, bo + k * 2 + 1, none⟩ = some (.string (str x.2)) := by rw [HS.out.below.cell (p := ⟨bb, bo + k * 2 + 1, none⟩) hbb]; exact q1
        have lb : bb < wr.heap.size := Nat.lt_of_lt_of_le hbb HS.out.below.size
        have hsz : (str x.2).size ≤ 9223372036854775807 := by rw [str_size]; exact hth
        obtain ⟨x1, hx1⟩ : ∃ z, x.1 = z := ⟨_, rfl⟩
        obtain ⟨S, hSS⟩ : ∃ z, str x.2 = z := ⟨_, rfl⟩
        have hn : ∃ n : Nat, n = min x.2.length 40 := ⟨_, rfl⟩
        obtain ⟨n, hn⟩ := hn
        have hss : S.size = x.2.length := by rw [← hSS, str_size]
        have hn1 : min (S.size : Int) 40 = (n : Int) := by rw [hss]; omega
        have hn2 : (if (40 : Int) < (S.size : Int) then (40 : Int) else (S.size : Int)) = (n : Int) := by
          rw [hss]
          split <;> omega
        have hn3 : n ≤ S.size := by rw [hss]; omega
        have hn4 : (n : Int) ≤ (S.size : Int) := by omega
        have HE := Lib.hid (ex_take S x.2 hSS n hn)
        rw [hx1] at e0
        rw [hSS] at e1 hsz
        have HX1 := Lib.hid hx1
        clear hx q0 q1 qb hth hbb hx1 hSS hn hss
        go_upto_region 7 with fail
        obtain ⟨E, hE⟩ : ∃ z, S.extract 0 n = z := ⟨_, rfl⟩
        rw [hE] at HE ⊢
        clear hE e0 e1 lb hn1 hn2 hn3 hn4 hsz m6 ml
        obtain ⟨W3, hW3⟩ : ∃ z, wr.alloc (.cells #[.int .i64 x1, .string E] 36) = z := ⟨_, rfl⟩
        have b3 : Below wr.heap.size wr W3 := by rw [← hW3]; exact (Below.refl _ _).alloc (Nat.le_refl _) _
        have g3 : Blk W3 wr.heap.size 36 #[.int .i64 x1, .string E] := by rw [← hW3]; exact Blk.new _ _ _
        rw [hW3]
        obtain ⟨gd, hgd⟩ : ∃ z, wr.heap.size = z := ⟨_, rfl⟩
        rw [hgd] at g3 ⊢
        have HS3 := Lib.hid (HS.out.grow b3)
        have c0 := g3.cell 0
        have c1 := g3.cell 1
        have cl := g3.lt
        simp only [List.getElem?_toArray, List.getElem?_cons_zero, List.getElem?_cons_succ] at c0 c1
        clear b3 g3 hW3 hgd HS
        have b4 : Below W3.heap.size W3 (W3.alloc (.cells #[.int .i64 x1, .string E] 36)) := (Below.refl _ _).alloc (Nat.le_refl _) _
        have HNW := Lib.hid (news_blk (Blk.new W3 36 #[.int .i64 x1, .string E]))
        have HS4 := Lib.hid (HS3.out.grow b4)
        clear b4 HS3
        have HO4 := Lib.hid (HS4.out.own HLK.out)
        have HONE : Hid (∀ u ∈ ([.int .i64 x1, .string E] : List Value), u.oneCell' = true) := by
          intro u hu
          simp only [List.mem_cons, List.not_mem_nil, or_false] at hu
          rcases hu with rfl | rfl <;> rfl
        go_wp2_with (at_builtin; refine wpList_append_own _ rfl (.tmp 30) (.tmp 32) 27 rfl w.heap.size 36 i0 (.agg #[.int .i64 0, .string ByteArray.empty]) 2 24 Tryd.underlying27 hi hz0 hz1 hz2 rfl (by decide) _ k _ rfl HO4.out ⟨W3.heap.size, 0, none⟩ 1 1 [.int .i64 x1, .string E] rfl rfl HNW.out HONE.out ?_ ?_ HS4.out.below.size ?_)
        · unfold maxLen; omega
        · omega
        · intro v' w1 hown hgrow _
          have HS5 : Hid (ShS w w1 gp gR p (some ⟨bb, bo, none⟩) cp v' (shL (p.chs.take (k + 1)))) := by
            unfold Hid
            rw [HSN.out]
            refine HS4.out.push HLK.out ?_ hgrow
            unfold shC
            dsimp only
            rw [HX1.out, ← HE.out]
            exact hown
          clear hown hgrow HS4 HO4 HNW c0 c1 cl
          obtain ⟨A6, c6, rfl⟩ := own_form HS5.out.row
          go_wp2_with fail
          go_roundw
          case rel => exact ⟨k + 1, by rw [HLN.out]; omega, by omega, by go_num, HS5.out⟩
          case measure => simp [intOf]; omega
      · have h30i : ¬ (k : Int) < 30 := by omega
        have hdone : shL (p.chs.take k) = shL p.chs := shL_done p.chs k (by rw [HLN.out]; omega) hk30 (by omega)
        have hlk := HLK.out
        rw [hdone] at hlk
        have HDN := Lib.hid hdone
        have HLF := Lib.hid hlk
        have hs := HS.out
        have f6 := hs.m.frozen 6
        have hm5 : Blk (wr.setCell ⟨gp, 6, none⟩ (.slice A5 k c5)) gp 30 (pC p.base p.target p.fr p.all (.slice A5 k c5)) := by
          have h9 := hs.m.set_ 6 (.slice A5 k c5)
          simp only [paC, List.setIfInBounds_toArray, List.set_cons_succ, List.set_cons_zero] at h9
          exact h9
        have hr5 : Blk (wr.setCell ⟨gp, 6, none⟩ (.slice A5 k c5)) gR 30 (pC (0, 0) (0, 0) 0 0 nlS) := by
          rw [← pZ_is]
          exact hs.res.of_block (set_oth _ _ _ _ _ hs.ne.symm)
        have ho5 : OChs (wr.setCell ⟨gp, 6, none⟩ (.slice A5 k c5)) w.heap.size (.slice A5 k c5) (shL p.chs) := by
          rw [← hdone]
          exact row_of_block hs.row (fun j hj => set_oth _ _ _ _ _ (own_type hs.row hs.m (by decide) j hj))
        have hb5 : Below w.heap.size w (wr.setCell ⟨gp, 6, none⟩ (.slice A5 k c5)) := hs.below.setCell (p := ⟨gp, 6, none⟩) hs.lo.1 _
        have hlo := hs.lo.2
        obtain ⟨W5, hW5⟩ : ∃ z, wr.setCell ⟨gp, 6, none⟩ (.slice A5 k c5) = z := ⟨_, rfl⟩
        rw [hW5] at hm5 hr5 ho5 hb5
        have HW5 := Lib.hid hW5
        have HM5 := Lib.hid hm5
        have HR5 := Lib.hid hr5
        have HO5 := Lib.hid ho5
        have HB5 := Lib.hid hb5
        clear hs hm5 hr5 ho5 hb5 hdone hlk hW5 HS HLK
        go_upto_region 9 with fail
        try rw [HW5.out]
        clear HW5 m6 ml f6
        have hm := HM5.out
        have hr := HR5.out
        have a0 := hm.cell 0
        have b0 := hr.cell 0
        have f0 := hr.frozen 0
        have a1 := hm.cell 1
        have b1 := hr.cell 1
        have f1 := hr.frozen 1
        have a2 := hm.cell 2
        have b2 := hr.cell 2
        have f2 := hr.frozen 2
        have a3 := hm.cell 3
        have b3 := hr.cell 3
        have f3 := hr.frozen 3
        have a4 := hm.cell 4
        have b4 := hr.cell 4
        have f4 := hr.frozen 4
        have a5 := hm.cell 5
        have b5 := hr.cell 5
        have f5 := hr.frozen 5
        have a6 := hm.cell 6
        have b6 := hr.cell 6
        have f6 := hr.frozen 6
        have al := hm.lt
        have bl' := hr.lt
        simp only [pC, nlS, List.getElem?_toArray, List.getElem?_cons_zero, List.getElem?_cons_succ] at a0 b0 a1 b1 a2 b2 a3 b3 a4 b4 a5 b5 a6 b6
        clear hm hr
        go_wp2_with fail
        have HF : Blk (setPa W5 gR p.base p.target p.fr p.all (.slice A5 k c5)) gR 30 (pC p.base p.target p.fr p.all (.slice A5 k c5)) := setPa_blk HR5.out
        have HOF : OChs (setPa W5 gR p.base p.target p.fr p.all (.slice A5 k c5)) w.heap.size (.slice A5 k c5) (shL p.chs) := row_of_block HO5.out (fun j hj => setPa_oth _ _ _ _ _ _ _ _ (own_type HO5.out HR5.out (by decide) j hj))
        have hzb : ∀ x ∈ shL p.chs, b64 x.1 := fun x hx => by
          unfold shL at hx
          obtain ⟨y, hy, rfl⟩ := List.mem_map.1 hx
          exact chl_b64 HCH.out y (List.mem_of_mem_take hy)
        obtain ⟨a9, c9, hv9, hc9, _⟩ := ochs_chl HOF hzb
        simp only [Value.slice.injEq] at hv9
        obtain ⟨rfl, hkk, rfl⟩ := hv9
        show bodyPost _ _ _ _ _ (setPa W5 gR p.base p.target p.fr p.all (.slice A5 k c5))
        refine bodyPost_ret (load_res Tryd.results14 HF _ (by simp)) rfl ⟨A5, c5, ?_, ⟨hc9, HP.out.base, HP.out.target, HP.out.fr, HP.out.all⟩, ?_, setPa_below HB5.out hlo⟩
        · show _ = Ending.returned (.agg (pC p.base p.target p.fr p.all (.slice A5 (shL p.chs).length c5)))
          rw [← hkk]
        · show OChs _ _ (.slice A5 (shL p.chs).length c5) (shL p.chs)
          rw [← hkk]
          exact HOF
    · have hki : ¬ (k : Int) < (len : Int) := by omega
      have hdone : shL (p.chs.take k) = shL p.chs := shL_done p.chs k (by rw [HLN.out]; omega) hk30 (by rw [HLN.out]; omega)
      have hlk := HLK.out
      rw [hdone] at hlk
      have HDN := Lib.hid hdone
      have HLF := Lib.hid hlk
      have hs := HS.out
      have f6 := hs.m.frozen 6
      have hm5 : Blk (wr.setCell ⟨gp, 6, none⟩ (.slice A5 k c5)) gp 30 (pC p.base p.target p.fr p.all (.slice A5 k c5)) := by
        have h9 := hs.m.set_ 6 (.slice A5 k c5)
        simp only [paC, List.setIfInBounds_toArray, List.set_cons_succ, List.set_cons_zero] at h9
        exact h9
      have hr5 : Blk (wr.setCell ⟨gp, 6, none⟩ (.slice A5 k c5)) gR 30 (pC (0, 0) (0, 0) 0 0 nlS) := by
        rw [← pZ_is]
        exact hs.res.of_block (set_oth _ _ _ _ _ hs.ne.symm)
      have ho5 : OChs (wr.setCell ⟨gp, 6, none⟩ (.slice A5 k c5)) w.heap.size (.slice A5 k c5) (shL p.chs) := by
        rw [← hdone]
        exact row_of_block hs.row (fun j hj => set_oth _ _ _ _ _ (own_type hs.row hs.m (by decide) j hj))
      have hb5 : Below w.heap.size w (wr.setCell ⟨gp, 6, none⟩ (.slice A5 k c5)) := hs.below.setCell (p := ⟨gp, 6, none⟩) hs.lo.1 _
      have hlo := hs.lo.2
      obtain ⟨W5, hW5⟩ : ∃ z, wr.setCell ⟨gp, 6, none⟩ (.slice A5 k c5) = z := ⟨_, rfl⟩
      rw [hW5] at hm5 hr5 ho5 hb5
      have HW5 := Lib.hid hW5
      have HM5 := Lib.hid hm5
      have HR5 := Lib.hid hr5
      have HO5 := Lib.hid ho5
      have HB5 := Lib.hid hb5
      clear hs hm5 hr5 ho5 hb5 hdone hlk hW5 HS HLK
      go_upto_region 9 with fail
      try rw [HW5.out]
      clear HW5 m6 ml f6
      have hm := HM5.out
      have hr := HR5.out
      have a0 := hm.cell 0
      have b0 := hr.cell 0
      have f0 := hr.frozen 0
      have a1 := hm.cell 1
      have b1 := hr.cell 1
      have f1 := hr.frozen 1
      have a2 := hm.cell 2
      have b2 := hr.cell 2
      have f2 := hr.frozen 2
      have a3 := hm.cell 3
      have b3 := hr.cell 3
      have f3 := hr.frozen 3
      have a4 := hm.cell 4
      have b4 := hr.cell 4
      have f4 := hr.frozen 4
      have a5 := hm.cell 5
      have b5 := hr.cell 5
      have f5 := hr.frozen 5
      have a6 := hm.cell 6
      have b6 := hr.cell 6
      have f6 := hr.frozen 6
      have al := hm.lt
      have bl' := hr.lt
      simp only [pC, nlS, List.getElem?_toArray, List.getElem?_cons_zero, List.getElem?_cons_succ] at a0 b0 a1 b1 a2 b2 a3 b3 a4 b4 a5 b5 a6 b6
      clear hm hr
      go_wp2_with fail
      have HF : Blk (setPa W5 gR p.base p.target p.fr p.all (.slice A5 k c5)) gR 30 (pC p.base p.target p.fr p.all (.slice A5 k c5)) := setPa_blk HR5.out
      have HOF : OChs (setPa W5 gR p.base p.target p.fr p.all (.slice A5 k c5)) w.heap.size (.slice A5 k c5) (shL p.chs) := row_of_block HO5.out (fun j hj => setPa_oth _ _ _ _ _ _ _ _ (own_type HO5.out HR5.out (by decide) j hj))
      have hzb : ∀ x ∈ shL p.chs, b64 x.1 := fun x hx => by
        unfold shL at hx
        obtain ⟨y, hy, rfl⟩ := List.mem_map.1 hx
        exact chl_b64 HCH.out y (List.mem_of_mem_take hy)
      obtain ⟨a9, c9, hv9, hc9, _⟩ := ochs_chl HOF hzb
      simp only [Value.slice.injEq] at hv9
      obtain ⟨rfl, hkk, rfl⟩ := hv9
      show bodyPost _ _ _ _ _ (setPa W5 gR p.base p.target p.fr p.all (.slice A5 k c5))
      refine bodyPost_ret (load_res Tryd.results14 HF _ (by simp)) rfl ⟨A5, c5, ?_, ⟨hc9, HP.out.base, HP.out.target, HP.out.fr, HP.out.all⟩, ?_, setPa_below HB5.out hlo⟩
      · show _ = Ending.returned (.agg (pC p.base p.target p.fr p.all (.slice A5 (shL p.chs).length c5)))
        rw [← hkk]
      · show OChs _ _ (.slice A5 (shL p.chs).length c5) (shL p.chs)
        rw [← hkk]
        exact HOF
end Go.Proofs.YtchdamlnbmngbaaDoor.st

/- What the rows list of the variable of package crc, as the walks want it; and a world in which it holds that. -/
namespace Go.Proofs.YtchdamlnbmngbaaDoor
open Go.RowKit
set_option maxRecDepth 100000

def cZs : List Int := tabL.map Int.ofNat

theorem cgType : (Tryd.prog.globals[0]?).map (·.type) = some 108 := by kernel_rfl
theorem cgCells : Tryd.prog.cellsOf 108 = 16 := by kernel_rfl
theorem cgCell : Tryd.prog.cellsOf 96 = 1 := by kernel_rfl

theorem ctab_of_laid {W : World} {name : String} {rest : List (String × DataW Unit)} (h : laidMet Tryd.prog ((name, Lib.tabData .u32 cZs) :: rest) W) (cg : Tryd.prog.globalNamed name = some 0) : CTab W := by
  have hT := Lib.tabIs_of_head cg cgType Tryd.underlying108 Tryd.underlying96 cgCell cgCells h
  have hc : ∀ i, i < 16 → W.cell? ⟨0, i, none⟩ = some (.int .u32 ((tabL.getD i 0 : Nat) : Int)) := by
    intro i hi
    have := hT.cell cg i (by simpa [cZs, tabL] using hi)
    rw [this]
    have : ∀ i : Nat, i < 16 → cZs.getD i 0 = ((tabL.getD i 0 : Nat) : Int) := by decide
    rw [this i hi]
  exact ⟨World.block_lt_of_cell? W _ (hc 0 (by omega)), hc⟩

/-- The settled world, crc's variable holding what its initialiser lays. -/
noncomputable def laidWorld (os : Os) : World :=
  { World.holding Tryd.prog os ⟨#[], #[], []⟩ with heap := (World.holding Tryd.prog os ⟨#[], #[], []⟩).heap.modify 0 fun
      | .cells _ t frozen => .cells (cZs.map fun z => Value.int .u32 z).toArray t frozen
      | o => o }

end Go.Proofs.YtchdamlnbmngbaaDoor

