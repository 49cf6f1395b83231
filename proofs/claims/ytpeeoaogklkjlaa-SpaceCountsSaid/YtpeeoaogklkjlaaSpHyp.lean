/- What is asked of the program's three functions; the statements' works, by that. -/
import Derived.Test.YtpeeoaogklkjlaaSpMem
import Derived.Test.YtpeeoaogklkjlaaSpMath
namespace Go.Proofs.Ytpeeoaogklkjlaa.sp
open Go Go.RowKit Go.Proofs.Ytpeeoaogklkjlaa.ib
set_option maxRecDepth 100000

def HCounts : Prop := ∀ (A : Option Addr) (c : Nat) (zss : List (List Int)) (n : Int) (w : World), ImsAt w A zss → zss.length ≤ 9223372036854775807 → i64B n →
  Calls Try.prog 8 #[.slice A zss.length c, .int .i64 n] w (okL (sCounts zss n) w)
def HTake : Prop := ∀ (A : Option Addr) (c : Nat) (cs : List Int) (n : Int) (w : World), IntsAt w A cs → cs.length * 8 ≤ 140737488355328 → i64B n →
  Calls Try.prog 12 #[.slice A cs.length c, .int .i64 n] w (okL (sTake cs n) w)
def okI (r : Int) (w : World) (e : Ending) (w' : World) : Prop := e = .returned (.int .i64 r) ∧ Below w.heap.size w w'
def HFree : Prop := ∀ (A : Option Addr) (c : Nat) (cs : List Int) (w : World), IntsAt w A cs → cs.length ≤ 9223372036854775807 →
  Calls Try.prog 14 #[.slice A cs.length c] w (okI (sFree cs : Int) w)

/-! ### Literals -/
theorem ints_new (W : World) (zs : List Int) (hz : ∀ z ∈ zs, i64B z) : IntsAt (W.alloc (.cells (icells zs) 3)) (some ⟨W.heap.size, 0, none⟩) zs := Blk.ints (Blk.new W 3 (icells zs)) hz
theorem ims_new (W : World) (l : List (Nat × List Int)) (h : ∀ x ∈ l, IntsAt W (some ⟨x.1, 0, none⟩) x.2 ∧ x.2.length ≤ 9223372036854775807) :
    ImsAt (W.alloc (.cells ((l.map fun x => Value.slice (some ⟨x.1, 0, none⟩) x.2.length x.2.length).toArray) 23)) (some ⟨W.heap.size, 0, none⟩) (l.map (·.2)) := by
  have hk := Blk.new W 23 ((l.map fun x => Value.slice (some ⟨x.1, 0, none⟩) x.2.length x.2.length).toArray)
  have hb := (Below.refl W.heap.size W).alloc (Nat.le_refl _) (.cells ((l.map fun x => Value.slice (some ⟨x.1, 0, none⟩) x.2.length x.2.length).toArray) 23)
  intro i hi
  have hil : i < l.length := by simpa using hi
  obtain ⟨h1, h2⟩ := h l[i] (List.getElem_mem hil)
  refine ⟨W.heap.size, 0, some ⟨l[i].1, 0, none⟩, l[i].2.length, rfl, hk.lt, ?_, ?_, ?_⟩
  · rw [Nat.zero_add, hk.cell i]
    simp [hil]
  · simp only [List.getElem_map]
    exact h1.below hb
  · simp only [List.getElem_map]
    exact h2

def wIms : List (List Int) := [[193, 0, 195], [193]]
def wC : List Int := (sCounts wIms 197).1
theorem wC_facts : (sCounts wIms 197).2 = 0 ∧ wC.length = 197 ∧ wC[193]? = some 2 ∧ wC[194]? = some 0 ∧ wC[195]? = some 1 ∧ wC[0]? = some 0 ∧ sTake wC 2 = ([194, 196], 0) ∧ sTake wC 3 = ([], 7) ∧ sFree wC = 2 := by decide +kernel
theorem wC_is : sCounts wIms 197 = (wC, 0) := Prod.ext rfl wC_facts.1

theorem cell_of {w : World} {b o i : Nat} {cs : List Int} {z : Int} (h : IntsAt w (some ⟨b, o, none⟩) cs) (hz : cs[i]? = some z) : w.cell? ⟨b, o + i, none⟩ = some (.int .i64 z) := by
  obtain ⟨hi, rfl⟩ := List.getElem?_eq_some_iff.1 hz
  obtain ⟨b', o', h1, _, h3, _⟩ := h i hi
  simp only [Option.some.injEq, Addr.mk.injEq, and_true] at h1
  obtain ⟨rfl, rfl⟩ := h1
  exact h3
theorem IntsAt.some {w : World} {A : Option Addr} {cs : List Int} (h : IntsAt w A cs) (h0 : 0 < cs.length) : ∃ b o, A = some ⟨b, o, none⟩ ∧ b < w.heap.size := by
  obtain ⟨b, o, h1, h2, _⟩ := h 0 h0
  exact ⟨b, o, h1, h2⟩

set_option maxHeartbeats 3200000 in
theorem works_any (HC : HCounts) (HT : HTake) (HF : HFree) (w : World) : Calls Try.prog 11 #[] w (okB true w) := by
  obtain ⟨_, f2, f3, f4, f5, f6, f7, f8, f9⟩ := wC_facts
  have hw1 := ints_new w [193, 0, 195] (by intro z hz; unfold i64B; simp at hz; omega)
  have hb1 := (Below.refl w.heap.size w).alloc (Nat.le_refl _) (.cells (icells [193, 0, 195]) 3)
  have hw2 := ints_new (w.alloc (.cells (icells [193, 0, 195]) 3)) [193] (by intro z hz; unfold i64B; simp at hz; omega)
  have hb2 := (Below.refl _ (w.alloc (.cells (icells [193, 0, 195]) 3))).alloc (Nat.le_refl _) (.cells (icells [193]) 3)
  have hi3 := ims_new ((w.alloc (.cells (icells [193, 0, 195]) 3)).alloc (.cells (icells [193]) 3)) [(w.heap.size, [193, 0, 195]), ((w.alloc (.cells (icells [193, 0, 195]) 3)).heap.size, [193])] (by
    intro x hx
    simp only [List.mem_cons, List.not_mem_nil, or_false] at hx
    rcases hx with rfl | rfl
    · exact ⟨hw1.below hb2, by simp⟩
    · exact ⟨hw2, by simp⟩)
  have hb3 := (Below.refl _ ((w.alloc (.cells (icells [193, 0, 195]) 3)).alloc (.cells (icells [193]) 3))).alloc (Nat.le_refl _) (.cells (([(w.heap.size, ([193, 0, 195] : List Int)), ((w.alloc (.cells (icells [193, 0, 195]) 3)).heap.size, ([193] : List Int))].map fun x => Value.slice (some ⟨x.1, 0, none⟩) x.2.length x.2.length).toArray) 23)
  have hb := below_step (below_step hb1 hb2) hb3
  have e1 : (w.alloc (.cells (icells [193, 0, 195]) 3)).heap.size = w.heap.size + 1 := by simp
  have e2 : ((w.alloc (.cells (icells [193, 0, 195]) 3)).alloc (.cells (icells [193]) 3)).heap.size = w.heap.size + 1 + 1 := by simp
  rw [e2, e1] at hi3
  rw [e1] at hb
  obtain ⟨W3, hW3⟩ : ∃ x, ((w.alloc (.cells #[.int .i64 193, .int .i64 0, .int .i64 195] 3)).alloc (.cells #[.int .i64 193] 3)).alloc (.cells #[.slice (some ⟨w.heap.size, 0, none⟩) 3 3, .slice (some ⟨w.heap.size + 1, 0, none⟩) 1 1] 23) = x := ⟨_, rfl⟩
  have HI : Hid (ImsAt W3 (some ⟨w.heap.size + 1 + 1, 0, none⟩) wIms) := by rw [← hW3]; exact hi3
  have HB : Hid (Below w.heap.size w W3) := by rw [← hW3]; exact hb
  have HC' := Lib.hid HC
  have HT' := Lib.hid HT
  have HF' := Lib.hid HF
  have F3 := Lib.hid f3
  have F4 := Lib.hid f4
  have F5 := Lib.hid f5
  have F6 := Lib.hid f6
  have F7 := Lib.hid f7
  have F8 := Lib.hid f8
  have F9 := Lib.hid f9
  have F2 := Lib.hid f2
  clear hw1 hw2 hb1 hb2 hb3 hi3 hb e1 e2 HC HT HF f2 f3 f4 f5 f6 f7 f8 f9
  go_enter Try.func11, Try.ntmps11
  go_wp2_with fail
  have hcall := HC'.out (some ⟨w.heap.size + 1 + 1, 0, none⟩) 2 wIms 197 W3 HI.out (by decide) (by unfold i64B; omega)
  rw [wC_is] at hcall
  refine hcall.mono ?_
  clear hcall
  rintro e W4 ⟨A, cc, rfl, hI, b, _, _⟩
  have HB4 := Lib.hid (below_step HB.out b)
  obtain ⟨bA, oA, rfl, hlA⟩ := IntsAt.some hI (by show 0 < wC.length; rw [F2.out]; decide)
  have q3 := cell_of hI F3.out
  have q4 := cell_of hI F4.out
  have q5 := cell_of hI F5.out
  have q0 := cell_of hI F6.out
  rw [Nat.add_zero] at q0
  have HI4 := Lib.hid hI
  have HL : Hid (wC.length = 197) := F2.out
  clear b hI hW3
  dsimp only
  rw [F2.out]
  go_wp2_with fail
  have hcall := HT'.out (some ⟨bA, oA, none⟩) cc wC 2 W4 HI4.out (by rw [F2.out]; decide) (by unfold i64B; omega)
  rw [F7.out, F2.out] at hcall
  refine hcall.mono ?_
  clear hcall
  rintro e W5 ⟨A5, c5, rfl, hI5, b, _, _⟩
  have HI4' := Lib.hid (HI4.out.below b)
  have HB5 := Lib.hid (below_step HB4.out b)
  obtain ⟨b5, o5, rfl, hl5⟩ := IntsAt.some hI5 (by decide)
  have HI5 := Lib.hid hI5
  clear b hI5 q3 q4 q5 q0
  dsimp only
  go_wp2_with fail
  have hcall := HT'.out (some ⟨bA, oA, none⟩) cc wC 3 W5 HI4'.out (by rw [F2.out]; decide) (by unfold i64B; omega)
  rw [F8.out, F2.out] at hcall
  refine hcall.mono ?_
  clear hcall
  rintro e W6 ⟨A6, c6, rfl, _, b, _, _⟩
  have HI6 := Lib.hid (HI4'.out.below b)
  have HB6 := Lib.hid (below_step HB5.out b)
  have hi5 := HI5.out.below b
  have p0 : W6.cell? ⟨b5, o5, none⟩ = some (.int .i64 194) := cell_of (i := 0) hi5 rfl
  have p1 : W6.cell? ⟨b5, o5 + 1, none⟩ = some (.int .i64 196) := cell_of (i := 1) hi5 rfl
  have hl6 : b5 < W6.heap.size := Nat.lt_of_lt_of_le hl5 b.size
  clear b hi5
  dsimp only
  go_wp2_with fail
  have hcall := HF'.out (some ⟨bA, oA, none⟩) cc wC W6 HI6.out (by rw [F2.out]; decide)
  rw [F9.out, F2.out] at hcall
  refine hcall.mono ?_
  clear hcall
  rintro e W7 ⟨rfl, b⟩
  have HB7 := Lib.hid (below_step HB6.out b)
  clear b
  go_wp2_with fail
  go_ret
  exact ⟨rfl, HB7.out⟩
end Go.Proofs.Ytpeeoaogklkjlaa.sp
