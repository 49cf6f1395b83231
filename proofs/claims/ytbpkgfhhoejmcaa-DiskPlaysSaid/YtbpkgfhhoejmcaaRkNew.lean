/- What New, Used, Arm, Off, SetRoom and operation of the document's disk do. -/
import Derived.Test.YtbpkgfhhoejmcaaRkMem
import Derived.Test.YtbpkgfhhoejmcaaDkData
import Derived.BigRegion
namespace Go.Proofs.Ytbpkgfhhoejmcaa.dk
open Go Go.RowKit

theorem strs_none (n : Nat) : (sRow (List.replicate n none)).toArray = madeCells #[Value.string ByteArray.empty] n := by
  rw [sRow_none]
  apply Array.ext'
  apply List.ext_getElem?
  intro j
  by_cases hj : j < n <;> simp [madeCells, hj, Nat.mod_one, str]
  rfl

theorem make_strs (n : Nat) (w : World) (hn : n ≤ 1024) : (Instr.makeSlice 46 (.int .i64 (n : Int)) (.int .i64 (n : Int))).run Try.prog w =
    .ok (.slice (some ⟨w.heap.size, 0, none⟩) n n) (w.alloc (.cells (sRow (List.replicate n none)).toArray 9)) := by
  obtain ⟨i0, hi, hz0, hz1, hz2⟩ := info_parts Try.info9
  have hmk := run_make (P := Try.prog) w 46 9 i0 (.string ByteArray.empty) Try.underlying46 hi hz0 .i64 .i64 (n : Int) (n : Int) (by omega) (by omega) (by rw [hz2]; omega) (by omega)
  rw [hz1] at hmk
  rw [strs_none]
  simpa [Value.cells] using hmk

def RkNewPost (most n : Nat) (room : Int) (w : World) (e : Ending) (w' : World) : Prop :=
  ∃ p own, e = .returned (.pointer (some ⟨p, 0, none⟩)) ∧ RkIs most w' own p (DD.new n room) ∧ Below w.heap.size w w' ∧ ∀ k, own k → w.heap.size ≤ k

theorem rk_made (n : Nat) (room : Int) (w : World) (gb gn : Nat) (hg : gb = w.heap.size ∧ gn = w.heap.size + 1 ∨ gb = w.heap.size + 1 ∧ gn = w.heap.size) :
    RkAt ((((w.alloc (.cells (sRow (List.replicate n none)).toArray 9)).alloc (.cells (sRow (List.replicate n none)).toArray 9)).alloc (.cells #[.int .i64 (n : Int), .int .i64 room, .slice (some ⟨gb, 0, none⟩) n n, .slice (some ⟨gn, 0, none⟩) n n, .int .i64 0, .slice none 0 0, .int .i64 0, .bool true] 49)).drew)
      (fun k => w.heap.size ≤ k ∧ k ≤ w.heap.size + 1 + 1) (w.heap.size + 1 + 1) gb n gn n (.slice none 0 0) (DD.new n room) := by
  have e : (DD.new n room).n = n := by simp [DD.n, DD.new]
  have eu : ((DD.new n room).used : Int) = 0 := by
    show ((cnt (List.replicate n none) : Nat) : Int) = 0
    rw [show cnt (List.replicate n none) = 0 from by simp [cnt, List.countP_replicate]]
    rfl
  have b0 : StrsB ((((w.alloc (.cells (sRow (List.replicate n none)).toArray 9)).alloc (.cells (sRow (List.replicate n none)).toArray 9)).alloc (.cells #[.int .i64 (n : Int), .int .i64 room, .slice (some ⟨gb, 0, none⟩) n n, .slice (some ⟨gn, 0, none⟩) n n, .int .i64 0, .slice none 0 0, .int .i64 0, .bool true] 49)).drew) w.heap.size (List.replicate n none) := by
    refine ⟨[], ?_⟩
    rw [List.append_nil]
    exact (((Blk.new w 9 (sRow (List.replicate n none)).toArray).of_block (Below.heap_alloc _ _ _ (by simp))).of_block (Below.heap_alloc _ _ _ (by simp; omega)))
  have b1 : StrsB ((((w.alloc (.cells (sRow (List.replicate n none)).toArray 9)).alloc (.cells (sRow (List.replicate n none)).toArray 9)).alloc (.cells #[.int .i64 (n : Int), .int .i64 room, .slice (some ⟨gb, 0, none⟩) n n, .slice (some ⟨gn, 0, none⟩) n n, .int .i64 0, .slice none 0 0, .int .i64 0, .bool true] 49)).drew) (w.heap.size + 1) (List.replicate n none) := by
    refine ⟨[], ?_⟩
    rw [List.append_nil]
    have h := Blk.new (w.alloc (.cells (sRow (List.replicate n none)).toArray 9)) 9 (sRow (List.replicate n none)).toArray
    rw [show (w.alloc (.cells (sRow (List.replicate n none)).toArray 9)).heap.size = w.heap.size + 1 from by simp] at h
    exact h.of_block (Below.heap_alloc _ _ _ (by simp))
  have bp := Blk.new ((w.alloc (.cells (sRow (List.replicate n none)).toArray 9)).alloc (.cells (sRow (List.replicate n none)).toArray 9)) 49 #[.int .i64 (n : Int), .int .i64 room, .slice (some ⟨gb, 0, none⟩) n n, .slice (some ⟨gn, 0, none⟩) n n, .int .i64 0, .slice none 0 0, .int .i64 0, .bool true]
  rw [show ((w.alloc (.cells (sRow (List.replicate n none)).toArray 9)).alloc (.cells (sRow (List.replicate n none)).toArray 9)).heap.size = w.heap.size + 1 + 1 from by simp] at bp
  refine ⟨?_, ?_, ?_, ⟨rfl, .inl ⟨rfl, rfl⟩⟩, by omega, ?_, ?_, fun k h => (by simp [Value.ownBlock] at h), ?_, fun k h => (by simp; omega)⟩
  · rw [e, eu]
    exact bp
  · rcases hg with ⟨rfl, rfl⟩ | ⟨rfl, rfl⟩
    · exact b0
    · exact b1
  · rcases hg with ⟨rfl, rfl⟩ | ⟨rfl, rfl⟩
    · exact b1
    · exact b0
  · rcases hg with ⟨rfl, rfl⟩ | ⟨rfl, rfl⟩ <;> omega
  · rcases hg with ⟨rfl, rfl⟩ | ⟨rfl, rfl⟩ <;> omega
  · rcases hg with ⟨rfl, rfl⟩ | ⟨rfl, rfl⟩ <;> omega

theorem new_ok (most n : Nat) (room : Int) (h0 : 1 ≤ n) (h1 : n ≤ 1024) (r0 : 0 ≤ room) (r1 : room ≤ 9223372036854775807) : (DD.new n room).ok most := by
  refine ⟨?_, ?_, r0, r1, Int.le_refl _, by simp [DD.new], Nat.zero_le _, fun _ h => by simp [DD.new] at h, fun v h => ?_⟩
  · simpa [DD.n, DD.new] using h0
  · simpa [DD.n, DD.new] using h1
  · simp [DD.new] at h

theorem rnew_some (most n : Nat) (room : Int) (h0 : 1 ≤ n) (h1 : n ≤ 1024) (r0 : 0 ≤ room) (r1 : room ≤ 9223372036854775807) (w : World) :
    Calls Try.prog 5 #[.int .i64 (n : Int), .int .i64 room] w (RkNewPost most n room w) := by
  have hmm : ∀ w : World, (Instr.makeSlice 46 (.int .i64 (n : Int)) (.int .i64 (n : Int))).run Try.prog w = _ := fun w => make_strs n w h1
  have i0 : ¬ (n : Int) < 1 := by omega
  have i1 : ¬ 1024 < (n : Int) := by omega
  have i2 : ¬ room < 0 := by omega
  go_enter Try.func5, Try.ntmps5
  go_wp2
  go_region
  all_goals
    go_wp2_with fail
    go_ret
    refine ⟨w.heap.size + 1 + 1, _, rfl, ⟨new_ok most n room h0 h1 r0 r1, _, n, _, n, _, rk_made n room w _ _ ?_⟩, ((((Below.refl _ w).alloc (Nat.le_refl _) _).alloc (by simp) _).alloc (by simp; omega) _).drew, fun k h => h.1⟩
    first
    | exact .inl ⟨rfl, rfl⟩
    | exact .inr ⟨rfl, rfl⟩

theorem rnew_none (n room : Int) (h : n < 1 ∨ 1024 < n ∨ room < 0) (w : World) :
    Calls Try.prog 5 #[.int .i64 n, .int .i64 room] w (NonePost w) := by
  by_cases h1 : n < 1
  · clear h
    go_enter Try.func5, Try.ntmps5
    go_wp2
    go_ret
    exact ⟨rfl, rfl⟩
  · by_cases h2 : 1024 < n
    · clear h
      go_enter Try.func5, Try.ntmps5
      go_wp2
      go_ret
      exact ⟨rfl, rfl⟩
    · have h3 : room < 0 := by omega
      clear h
      go_enter Try.func5, Try.ntmps5
      go_wp2
      go_ret
      exact ⟨rfl, rfl⟩

section
variable {w : World} {own : Nat → Prop} {p gb cb gn cn : Nat} {v : Value} {d : DD}

theorem rused_any (h : RkAt w own p gb cb gn cn v d) :
    Calls Try.prog 35 #[.pointer (some ⟨p, 0, none⟩)] w fun e w' => e = .returned (.int .i64 (d.used : Int)) ∧ w = w' := by
  obtain ⟨c0, c1, c2, c3, c4, c5, c6, c7⟩ := blk8 h.blk
  clear h c0 c1 c2 c3 c5 c6 c7
  go_enter Try.func35, Try.ntmps35
  go_wp2
  go_ret
  exact ⟨rfl, rfl⟩

theorem roff_any {most : Nat} (h : RkIs most w own p d) :
    Calls Try.prog 31 #[.pointer (some ⟨p, 0, none⟩)] w (RkPost most own p d.off (.tuple #[]) w) := by
  obtain ⟨h0, gb, cb, gn, cn, v, h1⟩ := h
  have H := Lib.hid h1
  have H0 := Lib.hid h0
  obtain ⟨c0, c1, c2, c3, c4, c5, c6, c7⟩ := blk8 h1.blk
  have f6 := h1.blk.frozen 6
  have f7 := h1.blk.frozen 7
  clear h1 h0
  go_enter Try.func31, Try.ntmps31
  go_wp2
  go_end0
  refine ⟨rfl, own, ⟨{ H0.out with fuse0 := Int.le_refl _, fuse1 := (by show (0 : Int) ≤ _; omega) }, gb, cb, gn, cn, v, ?_⟩, ((But.refl _ _).setCell _ _ (.inl H.out.op)).setCell _ _ (.inl H.out.op), Grows.refl _ _⟩
  refine H.out.turn (d' := d.off) rfl rfl ((H.out.blk.set_ 7 _).set_ 6 _) (by simp [size_set]) (fun k _ hk => ?_)
  rw [set_other _ _ _ _ _ hk, set_other _ _ _ _ _ hk]

theorem rroom_any {most : Nat} (h : RkIs most w own p d) (n : Int) (hn : n ≤ 9223372036854775807) :
    Calls Try.prog 33 #[.pointer (some ⟨p, 0, none⟩), .int .i64 n] w (RkPost most own p (d.setRoom n) (.tuple #[]) w) := by
  obtain ⟨h0, gb, cb, gn, cn, v, h1⟩ := h
  have H := Lib.hid h1
  have H0 := Lib.hid h0
  have f1 := h1.blk.frozen 1
  obtain ⟨c0, c1, c2, c3, c4, c5, c6, c7⟩ := blk8 h1.blk
  clear h1 h0
  go_enter Try.func33, Try.ntmps33
  go_wp2
  all_goals go_end0
  all_goals refine ⟨rfl, own, ⟨{ H0.out with room0 := by simp only [DD.setRoom]; omega, room1 := by simp only [DD.setRoom]; omega }, gb, cb, gn, cn, v, ?_⟩, (But.refl _ _).setCell _ _ (.inl H.out.op), Grows.refl _ _⟩
  all_goals
    refine H.out.turn (d' := d.setRoom n) rfl rfl ?_ (by simp [size_set]) (fun k _ hk => set_other _ _ _ _ _ hk)
    simp only [DD.setRoom, DD.n]
    first
    | (rw [show max n 0 = 0 from by omega]; exact H.out.blk.set_ 1 _)
    | (rw [show max n 0 = n from by omega]; exact H.out.blk.set_ 1 _)

theorem rarm_any {most : Nat} (h : RkIs most w own p d) (n : Int) (hn : n ≤ 9223372036854775807) :
    Calls Try.prog 30 #[.pointer (some ⟨p, 0, none⟩), .int .i64 n] w (RkPost most own p (d.arm n) (.tuple #[]) w) := by
  obtain ⟨h0, gb, cb, gn, cn, v, h1⟩ := h
  have H := Lib.hid h1
  have H0 := Lib.hid h0
  have f1 := h1.blk.frozen 6
  obtain ⟨c0, c1, c2, c3, c4, c5, c6, c7⟩ := blk8 h1.blk
  clear h1 h0
  go_enter Try.func30, Try.ntmps30
  go_wp2
  all_goals go_end0
  all_goals refine ⟨rfl, own, ⟨{ H0.out with fuse0 := by simp only [DD.arm]; omega, fuse1 := by simp only [DD.arm]; omega }, gb, cb, gn, cn, v, ?_⟩, (But.refl _ _).setCell _ _ (.inl H.out.op), Grows.refl _ _⟩
  all_goals
    refine H.out.turn (d' := d.arm n) rfl rfl ?_ (by simp [size_set]) (fun k _ hk => set_other _ _ _ _ _ hk)
    simp only [DD.arm, DD.n]
    first
    | (rw [show max n 0 = 0 from by omega]; exact H.out.blk.set_ 6 _)
    | (rw [show max n 0 = n from by omega]; exact H.out.blk.set_ 6 _)

theorem roper_any {most : Nat} (h : RkIs most w own p d) (hon : d.on = true) :
    Calls Try.prog 41 #[.pointer (some ⟨p, 0, none⟩)] w (RkPost most own p d.oper (.bool d.oper.on) w) := by
  have HD := Lib.hid h
  obtain ⟨h0, gb, cb, gn, cn, v, h1⟩ := h
  have H := Lib.hid h1
  have H0 := Lib.hid h0
  have f6 := h1.blk.frozen 6
  have f7 := h1.blk.frozen 7
  obtain ⟨c0, c1, c2, c3, c4, c5, c6, c7⟩ := blk8 h1.blk
  have b0 := h0.fuse0
  have b1 := h0.fuse1
  rw [hon] at c7
  clear h1 h0
  by_cases e1 : d.fuse = 1
  · have hop : d.oper = d.off := by unfold DD.oper; rw [if_pos e1]
    rw [hop]
    rw [e1] at c6
    clear e1 hop b0 b1
    go_enter Try.func41, Try.ntmps41
    go_wp2
    go_ret
    refine ⟨rfl, own, ⟨{ H0.out with fuse0 := Int.le_refl _, fuse1 := (by show (0 : Int) ≤ _; omega) }, gb, cb, gn, cn, v, ?_⟩, ((But.refl _ _).setCell _ _ (.inl H.out.op)).setCell _ _ (.inl H.out.op), Grows.refl _ _⟩
    refine H.out.turn (d' := d.off) rfl rfl ((H.out.blk.set_ 6 _).set_ 7 _) (by simp [size_set]) (fun k _ hk => ?_)
    rw [set_other _ _ _ _ _ hk, set_other _ _ _ _ _ hk]
  · by_cases e2 : 1 < d.fuse
    · have hop : d.oper = { d with fuse := d.fuse - 1 } := by unfold DD.oper; rw [if_neg e1, if_pos e2]
      rw [hop]
      have e0 : 0 < d.fuse := by omega
      have e3 : ((d.fuse - 1 : Int) == 0) = false := by rw [beq_eq_false_iff_ne]; omega
      have E2 := Lib.hid e2
      clear e1 hop
      go_enter Try.func41, Try.ntmps41
      go_wp2
      go_ret
      refine ⟨by rw [hon]; rfl, own, ⟨{ H0.out with fuse0 := (by show (0 : Int) ≤ d.fuse - 1; omega), fuse1 := (by show d.fuse - 1 ≤ _; omega) }, gb, cb, gn, cn, v, ?_⟩, (But.refl _ _).setCell _ _ (.inl H.out.op), Grows.refl _ _⟩
      exact H.out.turn (d' := { d with fuse := d.fuse - 1 }) rfl rfl (H.out.blk.set_ 6 _) (by simp [size_set]) (fun k _ hk => set_other _ _ _ _ _ hk)
    · have hop : d.oper = d := by unfold DD.oper; rw [if_neg e1, if_neg e2]
      rw [hop, hon]
      have e3 : d.fuse = 0 := by omega
      rw [e3] at c6
      clear e1 e2 hop b0 b1 e3
      go_enter Try.func41, Try.ntmps41
      go_wp2
      go_ret
      exact ⟨rfl, own, HD.out, But.refl _ _, Grows.refl _ _⟩
end
end Go.Proofs.Ytbpkgfhhoejmcaa.dk
