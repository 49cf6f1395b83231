/- What New and Read of package disk do. -/
import Derived.Test.YtbpkgfhhoejmcaaDkEasy
import Derived.Deep.WholeRow
import Derived.Carry
namespace Go.Proofs.Ytbpkgfhhoejmcaa.dk
open Go Go.RowKit

def NewPost (most n : Nat) (room : Int) (w : World) (e : Ending) (w' : World) : Prop :=
  ∃ p own, e = .returned (.pointer (some ⟨p, 0, none⟩)) ∧ DkIs most w' own p (DD.new n room) ∧ Below w.heap.size w w' ∧ ∀ k, own k → w.heap.size ≤ k

def NonePost (w : World) (e : Ending) (w' : World) : Prop := e = .returned (.pointer none) ∧ w = w'

theorem new_some (most n : Nat) (room : Int) (h0 : 1 ≤ n) (h1 : n ≤ 1024) (r0 : 0 ≤ room) (r1 : room ≤ 9223372036854775807) (w : World) :
    Calls Try.prog 4 #[.int .i64 (n : Int), .int .i64 room] w (NewPost most n room w) := by
  have hmm := @run_makeMap Try.prog
  have i0 : ¬ (n : Int) < 1 := by omega
  have i1 : ¬ 1024 < (n : Int) := by omega
  have i2 : ¬ room < 0 := by omega
  go_enter Try.func4, Try.ntmps4
  go_wp2
  go_ret
  refine ⟨w.heap.size + 1, fun k => k = w.heap.size ∨ k = w.heap.size + 1, rfl, ⟨⟨?_, ?_, r0, r1, Int.le_refl _, by simp [DD.new], Nat.zero_le _, fun _ h => by simp [DD.new] at h, fun v h => ?_⟩, w.heap.size, .slice none 0 0, ?_⟩, ((Below.refl _ w).alloc (Nat.le_refl _) _).alloc (by simp) _, fun k h => by omega⟩
  · simpa [DD.n, DD.new] using h0
  · simpa [DD.n, DD.new] using h1
  · simp [DD.new] at h
  · refine ⟨?_, ?_, ⟨rfl, .inl ⟨rfl, rfl⟩⟩, .inr rfl, .inl rfl, fun k h => by simp [Value.ownBlock] at h, fun k h => by simp; omega⟩
    · have e : (DD.new n room).n = n := by simp [DD.n, DD.new]
      rw [e]
      exact heap_alloc2_new w _ _
    · exact (MapIs.made w n).of_block (Below.heap_alloc _ _ _ (by simp))

theorem new_none (n room : Int) (h : n < 1 ∨ 1024 < n ∨ room < 0) (w : World) :
    Calls Try.prog 4 #[.int .i64 n, .int .i64 room] w (NonePost w) := by
  by_cases h1 : n < 1
  · clear h
    go_enter Try.func4, Try.ntmps4
    go_wp2
    go_ret
    exact ⟨rfl, rfl⟩
  · by_cases h2 : 1024 < n
    · clear h
      go_enter Try.func4, Try.ntmps4
      go_wp2
      go_ret
      exact ⟨rfl, rfl⟩
    · have h3 : room < 0 := by omega
      clear h
      go_enter Try.func4, Try.ntmps4
      go_wp2
      go_ret
      exact ⟨rfl, rfl⟩

def ReadPost (r : Bt × Int) (w : World) (e : Ending) (w' : World) : Prop :=
  e = .returned (.tuple #[.string (str r.1), .int .i64 r.2]) ∧ Below w.heap.size w w'

theorem conv_block (P : Bt) (b k : Nat) (t : TypeId) (w : World) (hk : P.length = k) (h : w.heap[b]? = some (.cells (Lib.byteCells P).toArray t (0, 0))) :
    (convert 67 9 (.slice (some ⟨b, 0, none⟩) k k)).run Try.prog w = .ok (.string (str P)) w := by
  subst hk
  refine run_convert_bytes_back (P := Try.prog) w 67 9 5 ⟨b, 0, none⟩ P.length P Try.underlying67 Try.underlying5 Try.underlying9 ?_
  intro j hj
  rw [addr_add, Nat.zero_add, cell_of_row w b j _ _ _ h]
  simp [Lib.byteCells, hj]

section
variable {w : World} {p m : Nat} {v : Value} {d : DD} {own : Nat → Prop}

theorem read_off (h : DkAt w own p m v d) (hon : d.on = false) (k : Int) :
    Calls Try.prog 17 #[.pointer (some ⟨p, 0, none⟩), .int .i64 k] w (ReadPost ([], 6) w) := by
  obtain ⟨c0, c1, c2, c3, c4, c5⟩ := blk6 h.1
  rw [hon] at c4
  clear h c1 c2 c3 c0 c5
  go_enter Try.func17, Try.ntmps17
  go_wp2
  go_ret2
  exact ⟨rfl, Below.refl _ _⟩

theorem read_not (h : DkAt w own p m v d) (hon : d.on = true) (k : Int) (hh : d.has k = false) :
    Calls Try.prog 17 #[.pointer (some ⟨p, 0, none⟩), .int .i64 k] w (ReadPost ([], 2) w) := by
  have hhas := has_any h k
  rw [hh] at hhas
  have HH := Lib.hid hhas
  obtain ⟨c0, c1, c2, c3, c4, c5⟩ := blk6 h.1
  rw [hon] at c4
  clear h c1 c2 c3 c0 c5 hhas hon hh
  go_enter Try.func17, Try.ntmps17
  go_wp2_with (go_at_call 26; refine HH.out.mono ?_; rintro e w' ⟨rfl, rfl⟩)
  go_ret2
  exact ⟨rfl, Below.refl _ _⟩

theorem read_is {most : Nat} (h0 : d.ok most) (h : DkAt w own p m v d) (hon : d.on = true) (k : Int) (hh : d.has k = true) :
    Calls Try.prog 17 #[.pointer (some ⟨p, 0, none⟩), .int .i64 k] w (ReadPost ((look d.now k).getD zz, 0) w) := by
  have hhas := has_any h k
  rw [hh] at hhas
  have HH := Lib.hid hhas
  have HM := Lib.hid h.2.1
  obtain ⟨c0, c1, c2, c3, c4, c5⟩ := blk6 h.1
  rw [hon] at c4
  have hk0 : 0 ≤ k ∧ k < (d.n : Int) := by simpa [DD.has] using hh
  have hn1 := h0.n1
  have hlen : ((look d.now k).getD zz).length = 32 := by
    cases hx : look d.now k with
    | none => exact zz_length
    | some u => exact h0.look1 hx
  generalize hq : (look d.now k).getD zz = q at *
  have HQ := Lib.hid hq
  have HK := Lib.hid hk0
  have HN := Lib.hid hn1
  have hconv := conv_block q w.heap.size 32 58 (w.alloc (.cells (Lib.byteCells q).toArray 58)) hlen (heap_alloc_new w _)
  have hlen2 : (Lib.byteCells q).toArray.size = 32 := by simp [Lib.byteCells, hlen]
  have HL := Lib.hid hlen2
  have HC := Lib.hid hconv
  clear h c1 c3 c0 c5 hhas hon hh hq hk0 hn1 hlen hconv hlen2 h0
  go_enter Try.func17, Try.ntmps17
  go_wp2_with (first | (go_at_call 26; refine HH.out.mono ?_; rintro e w' ⟨rfl, rfl⟩) | (at_lookup; refine wpList_value rfl (exec_look _ _ rfl rfl HM.out k rfl (by have := HK.out; omega) (by have := HK.out; have := HN.out; omega)) ?_; rw [HQ.out]) | (refine wpList_skip rfl (exec_store_new w 58 _ _ (.tmp 6) (.tmp 26) rfl rfl rfl (by rw [HL.out]; exact info67) (by rw [HL.out]; rfl) (bytes_all q)) ?_; have hconv := HC.out))
  go_ret2
  exact ⟨rfl, (Below.refl _ _).alloc (Nat.le_refl _) _⟩
end
end Go.Proofs.Ytbpkgfhhoejmcaa.dk
