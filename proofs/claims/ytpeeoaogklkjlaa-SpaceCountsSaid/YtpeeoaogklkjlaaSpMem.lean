/- Counts in memory. -/
import Derived.Test.YtpeeoaogklkjlaaSpPure
import Derived.Test.YtpeeoaogklkjlaaIms
import Derived.Test.YtpeeoaogklkjlaaBlk
import Derived.LoopTactic
namespace Go.Proofs.Ytpeeoaogklkjlaa.sp
open Go Go.RowKit Go.Proofs.Ytpeeoaogklkjlaa.ib
set_option maxRecDepth 100000

def icells (cs : List Int) : Array Value := (cs.map (Value.int .i64)).toArray
theorem icells_at (cs : List Int) (i : Nat) (h : i < cs.length) : (icells cs)[i]? = some (.int .i64 cs[i]) := by simp [icells, h]
theorem icells_size (cs : List Int) : (icells cs).size = cs.length := by simp [icells]
theorem icells_set (cs : List Int) (i : Nat) (v : Int) : (icells cs).setIfInBounds i (.int .i64 v) = icells (cs.set i v) := by
  unfold icells
  rw [List.setIfInBounds_toArray, List.map_set]
theorem icells_new (n : Nat) : madeCells #[.int .i64 0] n = icells (List.replicate n 0) := by
  apply Array.ext
  · simp [size_madeCells, icells]
  · intro j h1 h2
    have e : (icells (List.replicate n 0))[j]? = some (.int .i64 0) := by
      have hj : j < n := by simpa [icells] using h2
      rw [icells_at _ _ (by simpa using hj), List.getElem_replicate]
    rw [Array.getElem?_eq_getElem h2] at e
    rw [Option.some.inj e]
    simp [madeCells, Nat.mod_one]

theorem wrap_i64 (x : Int) : i64B (wrap64 x) := by unfold i64B wrap64; omega
theorem bump_i64 {cs : List Int} (h : ∀ z ∈ cs, i64B z) (k : Nat) : ∀ z ∈ bump cs k, i64B z := by
  intro z hz
  unfold bump at hz
  rcases List.mem_or_eq_of_mem_set hz with h1 | h1
  · exact h z h1
  · rw [h1]; exact wrap_i64 _
theorem cnts_i64 {n : Int} : ∀ {l cs cs' : List Int}, cnts n cs l = some cs' → (∀ z ∈ cs, i64B z) → ∀ z ∈ cs', i64B z
  | [], cs, cs', h, hz => by
    simp only [cnts, Option.some.injEq] at h
    rw [← h]; exact hz
  | k :: r, cs, cs', h, hz => by
    rw [cnts_cons] at h
    split at h
    · exact cnts_i64 h hz
    · split at h
      · cases h
      · exact cnts_i64 h (bump_i64 hz _)
theorem zeros_i64 (n : Nat) : ∀ z ∈ List.replicate n (0 : Int), i64B z := by
  intro z hz
  rw [List.eq_of_mem_replicate hz]
  unfold i64B
  omega

theorem Blk.ints {w : World} {g : Nat} {cs : List Int} (h : Blk w g 3 (icells cs)) (hz : ∀ z ∈ cs, i64B z) : IntsAt w (some ⟨g, 0, none⟩) cs := fun i hi =>
  ⟨g, 0, rfl, h.lt, by rw [Nat.zero_add, h.cell i]; exact icells_at cs i hi, hz _ (List.getElem_mem hi)⟩

/-- A list and an error. -/
def okL (r : List Int × Int) (w : World) (e : Ending) (w' : World) : Prop :=
  ∃ A cc, e = .returned (.tuple #[.slice A r.1.length cc, .int .i64 r.2]) ∧ IntsAt w' A r.1 ∧ Below w.heap.size w w' ∧ (∀ b o, A = some ⟨b, o, none⟩ → w.heap.size ≤ b ∧ b < w'.heap.size) ∧ r.1.length ≤ cc
def okB (r : Bool) (w : World) (e : Ending) (w' : World) : Prop := e = .returned (.bool r) ∧ Below w.heap.size w w'
theorem okL_nil {c : Int} {w w' : World} (h : Below w.heap.size w w') : okL ([], c) w (.returned (.tuple #[.slice none 0 0, .int .i64 c])) w' :=
  ⟨none, 0, rfl, IntsAt.nil _ _, h, (fun _ _ h => by cases h), Nat.le_refl _⟩

theorem make_ints (n : Int) (h0 : 0 ≤ n) (h : n ≤ 1024) (W : World) : (Instr.makeSlice 23 (.int .i64 n) (.int .i64 n)).run Try.prog W = .ok (.slice (some ⟨W.heap.size, 0, none⟩) n.toNat n.toNat) (W.alloc (.cells (icells (List.replicate n.toNat 0)) 3)) := by
  obtain ⟨i0, hi, hz0, hz1, hz2⟩ := info_parts infoInt
  have hmk := run_make (P := Try.prog) W 23 3 i0 (.int .i64 0) Try.underlying23 hi hz0 .i64 .i64 n n h0 (Int.le_refl _) (by rw [hz2]; omega) (by omega)
  rw [hz1] at hmk
  rw [← icells_new]
  simpa [Value.cells] using hmk
end Go.Proofs.Ytpeeoaogklkjlaa.sp
