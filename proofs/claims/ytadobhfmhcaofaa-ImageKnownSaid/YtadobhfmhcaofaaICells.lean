/- Lists of numbers in memory: literals, what is new, what is kept. -/
import Derived.Test.YtadobhfmhcaofaaInts
import Derived.Test.YtadobhfmhcaofaaBlk
namespace Go.Proofs.Ytadobhfmhcaofaa.ib
open Go Go.RowKit
set_option maxRecDepth 100000

def ncells (cs : List Int) : Array Value := (cs.map (Value.int .i64)).toArray
theorem ncells_at (cs : List Int) (i : Nat) (h : i < cs.length) : (ncells cs)[i]? = some (.int .i64 cs[i]) := by simp [ncells, h]
theorem ncells_size (cs : List Int) : (ncells cs).size = cs.length := by simp [ncells]
theorem ncells_set (cs : List Int) (i : Nat) (v : Int) : (ncells cs).setIfInBounds i (.int .i64 v) = ncells (cs.set i v) := by
  unfold ncells
  rw [List.setIfInBounds_toArray, List.map_set]
theorem ncells_new (n : Nat) : madeCells #[.int .i64 0] n = ncells (List.replicate n 0) := by
  apply Array.ext
  · simp [size_madeCells, ncells]
  · intro j h1 h2
    have e : (ncells (List.replicate n 0))[j]? = some (.int .i64 0) := by
      have hj : j < n := by simpa [ncells] using h2
      rw [ncells_at _ _ (by simpa using hj), List.getElem_replicate]
    rw [Array.getElem?_eq_getElem h2] at e
    rw [Option.some.inj e]
    simp [madeCells, Nat.mod_one]
theorem Blk.nums {w : World} {g : Nat} {cs : List Int} (h : Blk w g 3 (ncells cs)) (hz : ∀ z ∈ cs, i64B z) : IntsAt w (some ⟨g, 0, none⟩) cs := fun i hi =>
  ⟨g, 0, rfl, h.lt, by rw [Nat.zero_add, h.cell i]; exact ncells_at cs i hi, hz _ (List.getElem_mem hi)⟩
theorem nums_new (W : World) (zs : List Int) (hz : ∀ z ∈ zs, i64B z) : IntsAt (W.alloc (.cells (ncells zs) 3)) (some ⟨W.heap.size, 0, none⟩) zs := Blk.nums (Blk.new W 3 (ncells zs)) hz
theorem make_nums (n : Int) (h0 : 0 ≤ n) (h : n * 8 ≤ 140737488355328) (W : World) : (Instr.makeSlice 22 (.int .i64 n) (.int .i64 n)).run Try.prog W = .ok (.slice (some ⟨W.heap.size, 0, none⟩) n.toNat n.toNat) (W.alloc (.cells (ncells (List.replicate n.toNat 0)) 3)) := by
  obtain ⟨i0, hi, hz0, hz1, hz2⟩ := info_parts infoInt
  have hmk := run_make (P := Try.prog) W 22 3 i0 (.int .i64 0) Try.underlying22 hi hz0 .i64 .i64 n n h0 (Int.le_refl _) (by rw [hz2]; omega) (by omega)
  rw [hz1] at hmk
  rw [← ncells_new]
  simpa [Value.cells] using hmk

/-- A bool; a number; nothing that was there is changed. -/
def endB (r : Bool) (w : World) (e : Ending) (w' : World) : Prop := e = .returned (.bool r) ∧ Below w.heap.size w w'
def endI (r : Int) (w : World) (e : Ending) (w' : World) : Prop := e = .returned (.int .i64 r) ∧ Below w.heap.size w w'
/-- A list that is new, and may be written. -/
structure New (w w' : World) (A : Option Addr) (r : List Int) (cc : Nat) : Prop where
  ints : IntsAt w' A r
  free : ∀ i, i < r.length → ∀ b o, A = some ⟨b, o, none⟩ → w'.frozen? ⟨b, o + i, none⟩ = false
  new : ∀ b o, A = some ⟨b, o, none⟩ → w.heap.size ≤ b ∧ b < w'.heap.size
  cap : r.length ≤ cc
  nil : A = none → r.length = 0 ∧ cc = 0
/-- A list, with its room. -/
structure SlAt (w : World) (A : Option Addr) (l : List Int) (c : Nat) : Prop where
  ints : IntsAt w A l
  cap : l.length ≤ c
  nil : A = none → l.length = 0 ∧ c = 0
theorem SlAt.below {w w' : World} {A : Option Addr} {l : List Int} {c : Nat} (h : SlAt w A l c) (hb : Below w.heap.size w w') : SlAt w' A l c := ⟨h.ints.below hb, h.cap, h.nil⟩
theorem New.sl {w w' : World} {A : Option Addr} {r : List Int} {cc : Nat} (h : New w w' A r cc) : SlAt w' A r cc := ⟨h.ints, h.cap, h.nil⟩
theorem SlAt.none (w : World) : SlAt w none [] 0 := ⟨IntsAt.nil _ _, Nat.le_refl _, fun _ => ⟨rfl, rfl⟩⟩
theorem sl_new (W : World) (zs : List Int) (hz : ∀ z ∈ zs, i64B z) : SlAt (W.alloc (.cells (ncells zs) 3)) (some ⟨W.heap.size, 0, Option.none⟩) zs zs.length := ⟨nums_new W zs hz, Nat.le_refl _, fun h => by cases h⟩
def endL (r : List Int) (w : World) (e : Ending) (w' : World) : Prop := ∃ A cc, e = .returned (.slice A r.length cc) ∧ New w w' A r cc ∧ Below w.heap.size w w'
def endP (r : List Int × Int) (w : World) (e : Ending) (w' : World) : Prop := ∃ A cc, e = .returned (.tuple #[.slice A r.1.length cc, .int .i64 r.2]) ∧ New w w' A r.1 cc ∧ Below w.heap.size w w'
theorem New.empty (w w' : World) : New w w' none [] 0 := ⟨IntsAt.nil _ _, fun _ h => absurd h (by simp), (fun _ _ h => by cases h), Nat.le_refl _, fun _ => ⟨rfl, rfl⟩⟩
theorem endP_nil {c : Int} {w w' : World} (h : Below w.heap.size w w') : endP ([], c) w (.returned (.tuple #[.slice none 0 0, .int .i64 c])) w' :=
  ⟨none, 0, rfl, New.empty _ _, h⟩
theorem OInts.new {w w' : World} {v : Value} {zs : List Int} (h : OInts w' w.heap.size v zs) (hz : ∀ z ∈ zs, i64B z) : ∃ A cc, v = .slice A zs.length cc ∧ New w w' A zs cc := by
  rcases h.2 with ⟨rfl, h0⟩ | ⟨g, cap, cur, rfl, hg, hh, hcc, hm, hcs, hcur⟩
  · obtain rfl : zs = [] := List.length_eq_zero_iff.1 h0
    exact ⟨none, 0, rfl, New.empty _ _⟩
  · obtain ⟨A, cc, hv, hi, hb⟩ := h.view hz
    simp only [Value.slice.injEq] at hv
    obtain ⟨rfl, _, rfl⟩ := hv
    refine ⟨_, _, rfl, hi, fun i _ b o hA => ?_, hb, by omega, fun h => by cases h⟩
    simp only [Option.some.injEq, Addr.mk.injEq, and_true] at hA
    obtain ⟨rfl, _⟩ := hA
    simp [World.frozen?, hh]
theorem endP_owned {w w' : World} {v : Value} {zs : List Int} {c : Int} {r : List Int × Int} (ho : OInts w' w.heap.size v zs) (hz : ∀ z ∈ zs, i64B z) (hb : Below w.heap.size w w') (hr : r = (zs, c)) :
    endP r w (.returned (.tuple #[v, .int .i64 c])) w' := by
  subst hr
  obtain ⟨A, cc, rfl, hn⟩ := ho.new hz
  exact ⟨A, cc, rfl, hn, hb⟩
theorem endL_owned {w w' : World} {v : Value} {zs r : List Int} (ho : OInts w' w.heap.size v zs) (hz : ∀ z ∈ zs, i64B z) (hb : Below w.heap.size w w') (hr : r = zs) :
    endL r w (.returned v) w' := by
  subst hr
  obtain ⟨A, cc, rfl, hn⟩ := ho.new hz
  exact ⟨A, cc, rfl, hn, hb⟩
end Go.Proofs.Ytadobhfmhcaofaa.ib
