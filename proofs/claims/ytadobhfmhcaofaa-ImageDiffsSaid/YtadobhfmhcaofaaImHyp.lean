/- What is asked of the program's three functions; the statements' works, by that. -/
import Derived.Test.YtadobhfmhcaofaaImRef2
import Derived.Test.YtadobhfmhcaofaaImRefC
namespace Go.Proofs.Ytadobhfmhcaofaa.im
open Go Go.RowKit Go.Proofs.Ytadobhfmhcaofaa.ib
set_option maxRecDepth 100000

def HCheck : Prop := ∀ (A : Option Addr) (c : Nat) (l : List Int) (b n : Int) (w : World), SlAt w A l c → l.length ≤ 1000 → i64B b → i64B n →
  Calls Try.prog 10 #[.slice A l.length c, .int .i64 b, .int .i64 n] w (endI (iCheck l b n) w)
def HDiff : Prop := ∀ (A B : Option Addr) (c c' : Nat) (p q : List Int) (w : World), SlAt w A p c → SlAt w B q c' → p.length ≤ 1000 → q.length ≤ 1000 →
  Calls Try.prog 14 #[.slice A p.length c, .slice B q.length c'] w (endL (iDiff p q) w)
def HWith : Prop := ∀ (A : Option Addr) (c : Nat) (l : List Int) (b s : Int) (w : World), SlAt w A l c → l.length ≤ 1000 → i64B b → i64B s →
  Calls Try.prog 16 #[.slice A l.length c, .int .i64 b, .int .i64 s] w (endP (iWith l b s) w)

theorem wk_facts : iWith [0, 200] 0 201 = ([201, 200], 0) ∧ iDiff [201, 200] [0, 200] = [0] ∧ iCheck [201, 200] 2 202 = 0 ∧ iCheck [201, 200] 2 201 = 2 := by decide +kernel

theorem lit2 {w0 w : World} (a b : Int) (ha : i64B a) (hb : i64B b) (h : Below w0.heap.size w0 w) : SlAt (w.alloc (.cells #[.int .i64 a, .int .i64 b] 3)) (some ⟨w.heap.size, 0, none⟩) [a, b] 2 ∧ Below w0.heap.size w0 (w.alloc (.cells #[.int .i64 a, .int .i64 b] 3)) ∧ Below w.heap.size w (w.alloc (.cells #[.int .i64 a, .int .i64 b] 3)) :=
  ⟨sl_new w [a, b] (by intro z hz; simp only [List.mem_cons, List.not_mem_nil, or_false] at hz; rcases hz with rfl | rfl <;> assumption), h.alloc h.size _, (Below.refl _ _).alloc (Nat.le_refl _) _⟩
theorem lit1 {w0 w : World} (a : Int) (ha : i64B a) (h : Below w0.heap.size w0 w) : SlAt (w.alloc (.cells #[.int .i64 a] 3)) (some ⟨w.heap.size, 0, none⟩) [a] 1 ∧ Below w0.heap.size w0 (w.alloc (.cells #[.int .i64 a] 3)) ∧ Below w.heap.size w (w.alloc (.cells #[.int .i64 a] 3)) :=
  ⟨sl_new w [a] (by intro z hz; simp only [List.mem_cons, List.not_mem_nil, or_false] at hz; rcases hz with rfl; assumption), h.alloc h.size _, (Below.refl _ _).alloc (Nat.le_refl _) _⟩
theorem lit3 {w0 w : World} (a b c : Int) (ha : i64B a) (hb : i64B b) (hc : i64B c) (h : Below w0.heap.size w0 w) : SlAt (w.alloc (.cells #[.int .i64 a, .int .i64 b, .int .i64 c] 3)) (some ⟨w.heap.size, 0, none⟩) [a, b, c] 3 ∧ Below w0.heap.size w0 (w.alloc (.cells #[.int .i64 a, .int .i64 b, .int .i64 c] 3)) ∧ Below w.heap.size w (w.alloc (.cells #[.int .i64 a, .int .i64 b, .int .i64 c] 3)) :=
  ⟨sl_new w [a, b, c] (by intro z hz; simp only [List.mem_cons, List.not_mem_nil, or_false] at hz; rcases hz with rfl | rfl | rfl <;> assumption), h.alloc h.size _, (Below.refl _ _).alloc (Nat.le_refl _) _⟩

set_option maxHeartbeats 3200000 in
theorem works_any (HC : HCheck) (HD : HDiff) (HW : HWith) (w : World) : Calls Try.prog 12 #[] w (endB true w) := by
  obtain ⟨f1, f2, f3, f4⟩ := wk_facts
  obtain ⟨s1, b1, -⟩ := lit2 0 200 (by unfold i64B; omega) (by unfold i64B; omega) (Below.refl w.heap.size w)
  obtain ⟨W1, hW1⟩ : ∃ x, w.alloc (.cells #[.int .i64 0, .int .i64 200] 3) = x := ⟨_, rfl⟩
  rw [hW1] at s1 b1
  have hcall := HW _ 2 [0, 200] 0 201 W1 s1 (by decide) (by unfold i64B; omega) (by unfold i64B; omega)
  rw [f1] at hcall
  have HCALL := Lib.hid hcall
  have B1 := Lib.hid b1
  have HC' := Lib.hid HC
  have HD' := Lib.hid HD
  have F2 := Lib.hid f2
  have F3 := Lib.hid f3
  have F4 := Lib.hid f4
  clear hcall b1 HC HD HW f1 f2 f3 f4 s1
  go_enter Try.func12, Try.ntmps12
  go_wp2_with fail
  refine HCALL.out.mono ?_
  rintro e W2 ⟨A2, c2, rfl, hn2, b2⟩
  have S2 := Lib.hid hn2.sl
  have B2 := Lib.hid (below_step B1.out b2)
  clear hn2 b2 hW1 B1 HCALL
  obtain ⟨s3, b3, d3⟩ := lit2 (w0 := w) (w := W2) 201 200 (by unfold i64B; omega) (by unfold i64B; omega) B2.out
  obtain ⟨W3, hW3⟩ : ∃ x, W2.alloc (.cells #[.int .i64 201, .int .i64 200] 3) = x := ⟨_, rfl⟩
  rw [hW3] at s3 b3 d3
  have S3 := Lib.hid s3
  have B3 := Lib.hid b3
  have S2b := Lib.hid (S2.out.below d3)
  clear s3 b3 d3
  dsimp only
  go_wp2_with fail
  refine (is_any A2 _ c2 2 [201, 200] [201, 200] W3 S2b.out.ints S3.out.ints (by decide)).mono ?_
  rintro e W4 ⟨rfl, b4⟩
  rw [decide_eq_true (rfl : ([201, 200] : List Int) = [201, 200])]
  have S4 := Lib.hid (S2b.out.below b4)
  have B4 := Lib.hid (below_step B3.out b4)
  clear b4 hW3 S2 S2b S3 B3 B2
  obtain ⟨s5, b5, d5⟩ := lit2 (w0 := w) (w := W4) 0 200 (by unfold i64B; omega) (by unfold i64B; omega) B4.out
  obtain ⟨W5, hW5⟩ : ∃ x, W4.alloc (.cells #[.int .i64 0, .int .i64 200] 3) = x := ⟨_, rfl⟩
  rw [hW5] at s5 b5 d5
  have S5 := Lib.hid s5
  have B5 := Lib.hid b5
  have S4b := Lib.hid (S4.out.below d5)
  clear s5 b5 d5
  go_wp2_with fail
  have hcall := HD'.out A2 _ c2 2 [201, 200] [0, 200] W5 S4b.out S5.out (by decide) (by decide)
  rw [F2.out] at hcall
  refine hcall.mono ?_
  clear hcall
  rintro e W6 ⟨A6, c6, rfl, hn6, b6⟩
  have S6 := Lib.hid hn6.sl
  have S4c := Lib.hid (S4b.out.below b6)
  have B6 := Lib.hid (below_step B5.out b6)
  clear hn6 b6 hW5 S4 S4b S5 B4 B5
  obtain ⟨s7, b7, d7⟩ := lit1 (w0 := w) (w := W6) 0 (by unfold i64B; omega) B6.out
  obtain ⟨W7, hW7⟩ : ∃ x, W6.alloc (.cells #[.int .i64 0] 3) = x := ⟨_, rfl⟩
  rw [hW7] at s7 b7 d7
  have S7 := Lib.hid s7
  have B7 := Lib.hid b7
  have S6b := Lib.hid (S6.out.below d7)
  have S4d := Lib.hid (S4c.out.below d7)
  clear s7 b7 d7
  dsimp only
  go_wp2_with fail
  refine (is_any A6 _ c6 1 [0] [0] W7 S6b.out.ints S7.out.ints (by decide)).mono ?_
  rintro e W8 ⟨rfl, b8⟩
  rw [decide_eq_true (rfl : ([0] : List Int) = [0])]
  have S8 := Lib.hid (S4d.out.below b8)
  have B8 := Lib.hid (below_step B7.out b8)
  clear b8 hW7 S6 S6b S7 S4c S4d B6 B7
  go_wp2_with fail
  have hcall := HC'.out A2 c2 [201, 200] 2 202 W8 S8.out (by decide) (by unfold i64B; omega) (by unfold i64B; omega)
  rw [F3.out] at hcall
  refine hcall.mono ?_
  clear hcall
  rintro e W9 ⟨rfl, b9⟩
  have S9 := Lib.hid (S8.out.below b9)
  have B9 := Lib.hid (below_step B8.out b9)
  clear b9 S8 B8
  go_wp2_with fail
  have hcall := HC'.out A2 c2 [201, 200] 2 201 W9 S9.out (by decide) (by unfold i64B; omega) (by unfold i64B; omega)
  rw [F4.out] at hcall
  refine hcall.mono ?_
  clear hcall
  rintro e W10 ⟨rfl, b10⟩
  have B10 := Lib.hid (below_step B9.out b10)
  clear b10 S9 B9
  go_wp2_with fail
  go_ret
  exact ⟨rfl, B10.out⟩
end Go.Proofs.Ytadobhfmhcaofaa.im
