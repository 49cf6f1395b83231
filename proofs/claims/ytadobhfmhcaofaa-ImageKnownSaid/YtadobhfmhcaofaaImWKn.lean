/- The walk of ImageKnown, call by call (written by a script). -/
import Derived.Test.YtadobhfmhcaofaaImW1
namespace Go.Proofs.Ytadobhfmhcaofaa.im
open Go Go.RowKit Go.ChangeShapes Go.WideShapes Go.Proofs.Ytadobhfmhcaofaa.ib
set_option maxRecDepth 100000

theorem kn_facts : iCheck [0, 193, 200] 3 201 = 0 ∧ iCheck [0, 193, 200] 3 200 = 2 ∧ iCheck [192] 1 500 = 2 ∧ iCheck [193, 193] 2 500 = 16 ∧ iCheck [0] 2 500 = 2 ∧ iCheck [0, 0] 2 0 = 0 ∧ iCheck [] 0 500 = 2 ∧ iCheck [-1] 1 500 = 2 ∧ iCheck [1, 1] 2 500 = 2 ∧ iDiff [0, 193] [194, 193] = [0] ∧ iDiff [0, 193] [0] = [1] ∧ iDiff [0, 0] [] = [] ∧ iDiff [5, 6, 7] [6, 6, 8] = [0, 2] ∧ iDiff [] [0, -1] = [1] ∧ iWith [0, 0] (1) (7) = ([0, 7], 0) ∧ iWith [0] (1) (7) = ([], 2) ∧ iWith [0] (0) (-1) = ([], 2) ∧ iWith [3] (0) (0) = ([0], 0) ∧ iWith [3] (-1) (0) = ([], 2) := by decide +kernel
theorem kn_make : iCheck (List.replicate 9 0) 9 500 = 2 ∧ iCheck (List.replicate 8 0) 8 500 = 0 := by decide +kernel

set_option maxHeartbeats 12800000 in
theorem imageKnown_walk (HC : HCheck) (HD : HDiff) (HW : HWith) (w : World) : Calls Try.prog 8 #[] w (endB true w) := by
  have HWK := Lib.hid (fun W => works_any HC HD HW W)
  obtain ⟨f1, f2, f3, f4, f5, f6, f7, f8, f9, f10, f11, f12, f13, f14, f15, f16, f17, f18, f19⟩ := kn_facts
  have F1 := Lib.hid f1
  have F2 := Lib.hid f2
  have F3 := Lib.hid f3
  have F4 := Lib.hid f4
  have F5 := Lib.hid f5
  have F6 := Lib.hid f6
  have F7 := Lib.hid f7
  have F8 := Lib.hid f8
  have F9 := Lib.hid f9
  have F10 := Lib.hid f10
  have F11 := Lib.hid f11
  have F12 := Lib.hid f12
  have F13 := Lib.hid f13
  have F14 := Lib.hid f14
  have F15 := Lib.hid f15
  have F16 := Lib.hid f16
  have F17 := Lib.hid f17
  have F18 := Lib.hid f18
  have F19 := Lib.hid f19
  clear f1 f2 f3 f4 f5 f6 f7 f8 f9 f10 f11 f12 f13 f14 f15 f16 f17 f18 f19
  obtain ⟨g9, g8⟩ := kn_make
  have mk9 := fun W => make_nums 9 (by decide) (by decide) W
  have sz9 : ∀ W : World, SlAt (W.alloc (.cells (ncells (List.replicate 9 0)) 3)) (some ⟨W.heap.size, 0, none⟩) (List.replicate 9 0) 9 := fun W => by
    have := sl_new W (List.replicate 9 0) (fun z hz => by rw [List.eq_of_mem_replicate hz]; unfold i64B; omega)
    rwa [List.length_replicate] at this
  have ck9 : ∀ (A : Option Addr) (W : World), SlAt W A (List.replicate 9 0) 9 → Calls Try.prog 10 #[.slice A 9 9, .int .i64 9, .int .i64 500] W (endI 2 W) := fun A W h => by
    have := HC A 9 (List.replicate 9 0) 9 500 W h (by simp) (by unfold i64B; omega) (by unfold i64B; omega)
    rwa [g9, List.length_replicate] at this
  have mk9' : ∀ W : World, (Instr.makeSlice 22 (.int .i64 9) (.int .i64 9)).run Try.prog W = .ok (.slice (some ⟨W.heap.size, 0, none⟩) 9 9) (W.alloc (.cells (ncells (List.replicate 9 0)) 3)) := mk9
  clear mk9 g9
  generalize List.replicate 9 (0 : Int) = z9 at *
  have HSZ9 := Lib.hid sz9
  have HC9 : Hid (∀ {A : Option Addr} (W : World), SlAt W A z9 9 → _) := fun {A} W h => ck9 A W h
  have HMK9 := Lib.hid mk9'
  clear sz9 ck9 mk9'
  have mk8 := fun W => make_nums 8 (by decide) (by decide) W
  have sz8 : ∀ W : World, SlAt (W.alloc (.cells (ncells (List.replicate 8 0)) 3)) (some ⟨W.heap.size, 0, none⟩) (List.replicate 8 0) 8 := fun W => by
    have := sl_new W (List.replicate 8 0) (fun z hz => by rw [List.eq_of_mem_replicate hz]; unfold i64B; omega)
    rwa [List.length_replicate] at this
  have ck8 : ∀ (A : Option Addr) (W : World), SlAt W A (List.replicate 8 0) 8 → Calls Try.prog 10 #[.slice A 8 8, .int .i64 8, .int .i64 500] W (endI 0 W) := fun A W h => by
    have := HC A 8 (List.replicate 8 0) 8 500 W h (by simp) (by unfold i64B; omega) (by unfold i64B; omega)
    rwa [g8, List.length_replicate] at this
  have mk8' : ∀ W : World, (Instr.makeSlice 22 (.int .i64 8) (.int .i64 8)).run Try.prog W = .ok (.slice (some ⟨W.heap.size, 0, none⟩) 8 8) (W.alloc (.cells (ncells (List.replicate 8 0)) 3)) := mk8
  clear mk8 g8
  generalize List.replicate 8 (0 : Int) = z8 at *
  have HSZ8 := Lib.hid sz8
  have HC8 : Hid (∀ {A : Option Addr} (W : World), SlAt W A z8 8 → _) := fun {A} W h => ck8 A W h
  have HMK8 := Lib.hid mk8'
  clear sz8 ck8 mk8'
  have HC := Lib.hid HC
  have HD := Lib.hid HD
  have HW := Lib.hid HW
  have B0 := Lib.hid (Below.refl w.heap.size w)
  go_enter Try.func8, Try.ntmps8
  obtain ⟨s1, b1, d1⟩ := lit3 (w0 := w) (w := w) (0) (193) (200) (by unfold i64B; omega) (by unfold i64B; omega) (by unfold i64B; omega) B0.out
  obtain ⟨W1, hW1⟩ : ∃ x, w.alloc (.cells #[.int .i64 0, .int .i64 193, .int .i64 200] 3) = x := ⟨_, rfl⟩
  rw [hW1] at s1 b1 d1
  have L1 := Lib.hid s1
  have B1 := Lib.hid b1
  clear s1 b1 d1 B0
  go_wp2_with fail
  have hcall := HC.out _ _ [0, 193, 200] 3 201 W1 (L1.out) (by first | decide | simp) (by unfold i64B; omega) (by unfold i64B; omega)
  rw [F1.out] at hcall
  refine hcall.mono ?_
  clear hcall
  rintro e X2 ⟨rfl, b2⟩
  have S3 := Lib.hid (L1.out.below b2)
  clear L1
  have B2 := Lib.hid (below_step B1.out b2)
  clear b2 B1 hW1
  clear S3
  obtain ⟨s4, b4, d4⟩ := lit3 (w0 := w) (w := X2) (0) (193) (200) (by unfold i64B; omega) (by unfold i64B; omega) (by unfold i64B; omega) B2.out
  obtain ⟨W4, hW4⟩ : ∃ x, X2.alloc (.cells #[.int .i64 0, .int .i64 193, .int .i64 200] 3) = x := ⟨_, rfl⟩
  rw [hW4] at s4 b4 d4
  have L4 := Lib.hid s4
  have B4 := Lib.hid b4
  clear s4 b4 d4 B2
  go_wp2_with fail
  have hcall := HC.out _ _ [0, 193, 200] 3 200 W4 (L4.out) (by first | decide | simp) (by unfold i64B; omega) (by unfold i64B; omega)
  rw [F2.out] at hcall
  refine hcall.mono ?_
  clear hcall
  rintro e X5 ⟨rfl, b5⟩
  have S6 := Lib.hid (L4.out.below b5)
  clear L4
  have B5 := Lib.hid (below_step B4.out b5)
  clear b5 B4 hW4
  clear S6
  obtain ⟨s7, b7, d7⟩ := lit1 (w0 := w) (w := X5) (192) (by unfold i64B; omega) B5.out
  obtain ⟨W7, hW7⟩ : ∃ x, X5.alloc (.cells #[.int .i64 192] 3) = x := ⟨_, rfl⟩
  rw [hW7] at s7 b7 d7
  have L7 := Lib.hid s7
  have B7 := Lib.hid b7
  clear s7 b7 d7 B5
  go_wp2_with fail
  have hcall := HC.out _ _ [192] 1 500 W7 (L7.out) (by first | decide | simp) (by unfold i64B; omega) (by unfold i64B; omega)
  rw [F3.out] at hcall
  refine hcall.mono ?_
  clear hcall
  rintro e X8 ⟨rfl, b8⟩
  have S9 := Lib.hid (L7.out.below b8)
  clear L7
  have B8 := Lib.hid (below_step B7.out b8)
  clear b8 B7 hW7
  clear S9
  obtain ⟨s10, b10, d10⟩ := lit2 (w0 := w) (w := X8) (193) (193) (by unfold i64B; omega) (by unfold i64B; omega) B8.out
  obtain ⟨W10, hW10⟩ : ∃ x, X8.alloc (.cells #[.int .i64 193, .int .i64 193] 3) = x := ⟨_, rfl⟩
  rw [hW10] at s10 b10 d10
  have L10 := Lib.hid s10
  have B10 := Lib.hid b10
  clear s10 b10 d10 B8
  go_wp2_with fail
  have hcall := HC.out _ _ [193, 193] 2 500 W10 (L10.out) (by first | decide | simp) (by unfold i64B; omega) (by unfold i64B; omega)
  rw [F4.out] at hcall
  refine hcall.mono ?_
  clear hcall
  rintro e X11 ⟨rfl, b11⟩
  have S12 := Lib.hid (L10.out.below b11)
  clear L10
  have B11 := Lib.hid (below_step B10.out b11)
  clear b11 B10 hW10
  clear S12
  obtain ⟨s13, b13, d13⟩ := lit1 (w0 := w) (w := X11) (0) (by unfold i64B; omega) B11.out
  obtain ⟨W13, hW13⟩ : ∃ x, X11.alloc (.cells #[.int .i64 0] 3) = x := ⟨_, rfl⟩
  rw [hW13] at s13 b13 d13
  have L13 := Lib.hid s13
  have B13 := Lib.hid b13
  clear s13 b13 d13 B11
  go_wp2_with fail
  have hcall := HC.out _ _ [0] 2 500 W13 (L13.out) (by first | decide | simp) (by unfold i64B; omega) (by unfold i64B; omega)
  rw [F5.out] at hcall
  refine hcall.mono ?_
  clear hcall
  rintro e X14 ⟨rfl, b14⟩
  have S15 := Lib.hid (L13.out.below b14)
  clear L13
  have B14 := Lib.hid (below_step B13.out b14)
  clear b14 B13 hW13
  clear S15
  obtain ⟨s16, b16, d16⟩ := lit2 (w0 := w) (w := X14) (0) (0) (by unfold i64B; omega) (by unfold i64B; omega) B14.out
  obtain ⟨W16, hW16⟩ : ∃ x, X14.alloc (.cells #[.int .i64 0, .int .i64 0] 3) = x := ⟨_, rfl⟩
  rw [hW16] at s16 b16 d16
  have L16 := Lib.hid s16
  have B16 := Lib.hid b16
  clear s16 b16 d16 B14
  go_wp2_with fail
  have hcall := HC.out _ _ [0, 0] 2 0 W16 (L16.out) (by first | decide | simp) (by unfold i64B; omega) (by unfold i64B; omega)
  rw [F6.out] at hcall
  refine hcall.mono ?_
  clear hcall
  rintro e X17 ⟨rfl, b17⟩
  have S18 := Lib.hid (L16.out.below b17)
  clear L16
  have B17 := Lib.hid (below_step B16.out b17)
  clear b17 B16 hW16
  clear S18
  go_wp2_with fail
  have hcall := HC.out _ _ [] 0 500 X17 (SlAt.none _) (by first | decide | simp) (by unfold i64B; omega) (by unfold i64B; omega)
  rw [F7.out] at hcall
  refine hcall.mono ?_
  clear hcall
  rintro e X19 ⟨rfl, b19⟩
  have B19 := Lib.hid (below_step B17.out b19)
  clear b19 B17
  have s20 := HSZ9.out X19
  have b20 := Below.alloc B19.out B19.out.size (.cells (ncells z9) 3)
  obtain ⟨W20, hW20⟩ : ∃ x, X19.alloc (.cells (ncells z9) 3) = x := ⟨_, rfl⟩
  rw [hW20] at s20 b20
  have L20 := Lib.hid s20
  have B20 := Lib.hid b20
  clear s20 b20 B19
  have hmk := HMK9.out
  go_wp2_with fail
  clear hmk
  have hcall := HC9.out _ L20.out
  refine hcall.mono ?_
  clear hcall
  rintro e X21 ⟨rfl, b21⟩
  clear L20
  have B21 := Lib.hid (below_step B20.out b21)
  clear b21 B20 hW20
  have s22 := HSZ8.out X21
  have b22 := Below.alloc B21.out B21.out.size (.cells (ncells z8) 3)
  obtain ⟨W22, hW22⟩ : ∃ x, X21.alloc (.cells (ncells z8) 3) = x := ⟨_, rfl⟩
  rw [hW22] at s22 b22
  have L22 := Lib.hid s22
  have B22 := Lib.hid b22
  clear s22 b22 B21
  have hmk := HMK8.out
  go_wp2_with fail
  clear hmk
  have hcall := HC8.out _ L22.out
  refine hcall.mono ?_
  clear hcall
  rintro e X23 ⟨rfl, b23⟩
  clear L22
  have B23 := Lib.hid (below_step B22.out b23)
  clear b23 B22 hW22
  obtain ⟨s24, b24, d24⟩ := lit1 (w0 := w) (w := X23) (-1) (by unfold i64B; omega) B23.out
  obtain ⟨W24, hW24⟩ : ∃ x, X23.alloc (.cells #[.int .i64 (-1)] 3) = x := ⟨_, rfl⟩
  rw [hW24] at s24 b24 d24
  have L24 := Lib.hid s24
  have B24 := Lib.hid b24
  clear s24 b24 d24 B23
  go_wp2_with fail
  have hcall := HC.out _ _ [-1] 1 500 W24 (L24.out) (by first | decide | simp) (by unfold i64B; omega) (by unfold i64B; omega)
  rw [F8.out] at hcall
  refine hcall.mono ?_
  clear hcall
  rintro e X25 ⟨rfl, b25⟩
  have S26 := Lib.hid (L24.out.below b25)
  clear L24
  have B25 := Lib.hid (below_step B24.out b25)
  clear b25 B24 hW24
  clear S26
  obtain ⟨s27, b27, d27⟩ := lit2 (w0 := w) (w := X25) (1) (1) (by unfold i64B; omega) (by unfold i64B; omega) B25.out
  obtain ⟨W27, hW27⟩ : ∃ x, X25.alloc (.cells #[.int .i64 1, .int .i64 1] 3) = x := ⟨_, rfl⟩
  rw [hW27] at s27 b27 d27
  have L27 := Lib.hid s27
  have B27 := Lib.hid b27
  clear s27 b27 d27 B25
  go_wp2_with fail
  have hcall := HC.out _ _ [1, 1] 2 500 W27 (L27.out) (by first | decide | simp) (by unfold i64B; omega) (by unfold i64B; omega)
  rw [F9.out] at hcall
  refine hcall.mono ?_
  clear hcall
  rintro e X28 ⟨rfl, b28⟩
  have S29 := Lib.hid (L27.out.below b28)
  clear L27
  have B28 := Lib.hid (below_step B27.out b28)
  clear b28 B27 hW27
  clear S29
  obtain ⟨s30, b30, d30⟩ := lit2 (w0 := w) (w := X28) (0) (193) (by unfold i64B; omega) (by unfold i64B; omega) B28.out
  obtain ⟨W30, hW30⟩ : ∃ x, X28.alloc (.cells #[.int .i64 0, .int .i64 193] 3) = x := ⟨_, rfl⟩
  rw [hW30] at s30 b30 d30
  have L30 := Lib.hid s30
  have B30 := Lib.hid b30
  clear s30 b30 d30 B28
  obtain ⟨s31, b31, d31⟩ := lit2 (w0 := w) (w := W30) (194) (193) (by unfold i64B; omega) (by unfold i64B; omega) B30.out
  obtain ⟨W31, hW31⟩ : ∃ x, W30.alloc (.cells #[.int .i64 194, .int .i64 193] 3) = x := ⟨_, rfl⟩
  rw [hW31] at s31 b31 d31
  have L31 := Lib.hid s31
  have B31 := Lib.hid b31
  have S32 := Lib.hid (L30.out.below d31)
  clear L30
  clear s31 b31 d31 B30
  go_wp2_with fail
  have hcall := HD.out _ _ _ _ [0, 193] [194, 193] W31 S32.out L31.out (by decide) (by decide)
  rw [F10.out] at hcall
  refine hcall.mono ?_
  clear hcall
  rintro e X33 ⟨A33, c33, rfl, hn33, b33⟩
  have R33 := Lib.hid hn33.sl
  clear hn33
  clear S32
  clear L31
  have B33 := Lib.hid (below_step B31.out b33)
  clear b33 B31 hW30 hW31
  dsimp only [List.length_nil, List.length_cons, Nat.reduceAdd, Nat.zero_add]
  obtain ⟨s34, b34, d34⟩ := lit1 (w0 := w) (w := X33) (0) (by unfold i64B; omega) B33.out
  obtain ⟨W34, hW34⟩ : ∃ x, X33.alloc (.cells #[.int .i64 0] 3) = x := ⟨_, rfl⟩
  rw [hW34] at s34 b34 d34
  have L34 := Lib.hid s34
  have B34 := Lib.hid b34
  have S35 := Lib.hid (R33.out.below d34)
  clear R33
  clear s34 b34 d34 B33
  go_wp2_with fail
  refine (is_any _ _ _ _ [0] [0] W34 S35.out.ints L34.out.ints (by decide)).mono ?_
  rintro e X36 ⟨rfl, b36⟩
  rw [decide_eq_true (rfl : ([0] : List Int) = [0])]
  clear S35
  clear L34
  have B36 := Lib.hid (below_step B34.out b36)
  clear b36 B34 hW34
  obtain ⟨s37, b37, d37⟩ := lit2 (w0 := w) (w := X36) (0) (193) (by unfold i64B; omega) (by unfold i64B; omega) B36.out
  obtain ⟨W37, hW37⟩ : ∃ x, X36.alloc (.cells #[.int .i64 0, .int .i64 193] 3) = x := ⟨_, rfl⟩
  rw [hW37] at s37 b37 d37
  have L37 := Lib.hid s37
  have B37 := Lib.hid b37
  clear s37 b37 d37 B36
  obtain ⟨s38, b38, d38⟩ := lit1 (w0 := w) (w := W37) (0) (by unfold i64B; omega) B37.out
  obtain ⟨W38, hW38⟩ : ∃ x, W37.alloc (.cells #[.int .i64 0] 3) = x := ⟨_, rfl⟩
  rw [hW38] at s38 b38 d38
  have L38 := Lib.hid s38
  have B38 := Lib.hid b38
  have S39 := Lib.hid (L37.out.below d38)
  clear L37
  clear s38 b38 d38 B37
  go_wp2_with fail
  have hcall := HD.out _ _ _ _ [0, 193] [0] W38 S39.out L38.out (by decide) (by decide)
  rw [F11.out] at hcall
  refine hcall.mono ?_
  clear hcall
  rintro e X40 ⟨A40, c40, rfl, hn40, b40⟩
  have R40 := Lib.hid hn40.sl
  clear hn40
  clear S39
  clear L38
  have B40 := Lib.hid (below_step B38.out b40)
  clear b40 B38 hW37 hW38
  dsimp only [List.length_nil, List.length_cons, Nat.reduceAdd, Nat.zero_add]
  obtain ⟨s41, b41, d41⟩ := lit1 (w0 := w) (w := X40) (1) (by unfold i64B; omega) B40.out
  obtain ⟨W41, hW41⟩ : ∃ x, X40.alloc (.cells #[.int .i64 1] 3) = x := ⟨_, rfl⟩
  rw [hW41] at s41 b41 d41
  have L41 := Lib.hid s41
  have B41 := Lib.hid b41
  have S42 := Lib.hid (R40.out.below d41)
  clear R40
  clear s41 b41 d41 B40
  go_wp2_with fail
  refine (is_any _ _ _ _ [1] [1] W41 S42.out.ints L41.out.ints (by decide)).mono ?_
  rintro e X43 ⟨rfl, b43⟩
  rw [decide_eq_true (rfl : ([1] : List Int) = [1])]
  clear S42
  clear L41
  have B43 := Lib.hid (below_step B41.out b43)
  clear b43 B41 hW41
  obtain ⟨s44, b44, d44⟩ := lit2 (w0 := w) (w := X43) (0) (0) (by unfold i64B; omega) (by unfold i64B; omega) B43.out
  obtain ⟨W44, hW44⟩ : ∃ x, X43.alloc (.cells #[.int .i64 0, .int .i64 0] 3) = x := ⟨_, rfl⟩
  rw [hW44] at s44 b44 d44
  have L44 := Lib.hid s44
  have B44 := Lib.hid b44
  clear s44 b44 d44 B43
  go_wp2_with fail
  have hcall := HD.out _ _ _ _ [0, 0] [] W44 L44.out (SlAt.none _) (by decide) (by decide)
  rw [F12.out] at hcall
  refine hcall.mono ?_
  clear hcall
  rintro e X45 ⟨A45, c45, rfl, hn45, b45⟩
  have R45 := Lib.hid hn45.sl
  clear hn45
  clear L44
  have B45 := Lib.hid (below_step B44.out b45)
  clear b45 B44 hW44
  dsimp only [List.length_nil, List.length_cons, Nat.reduceAdd, Nat.zero_add]
  go_wp2_with fail
  refine (is_any _ _ _ _ [] [] X45 R45.out.ints (IntsAt.nil _ _) (by decide)).mono ?_
  rintro e X46 ⟨rfl, b46⟩
  rw [decide_eq_true (rfl : ([] : List Int) = [])]
  clear R45
  have B46 := Lib.hid (below_step B45.out b46)
  clear b46 B45
  obtain ⟨s47, b47, d47⟩ := lit3 (w0 := w) (w := X46) (5) (6) (7) (by unfold i64B; omega) (by unfold i64B; omega) (by unfold i64B; omega) B46.out
  obtain ⟨W47, hW47⟩ : ∃ x, X46.alloc (.cells #[.int .i64 5, .int .i64 6, .int .i64 7] 3) = x := ⟨_, rfl⟩
  rw [hW47] at s47 b47 d47
  have L47 := Lib.hid s47
  have B47 := Lib.hid b47
  clear s47 b47 d47 B46
  obtain ⟨s48, b48, d48⟩ := lit3 (w0 := w) (w := W47) (6) (6) (8) (by unfold i64B; omega) (by unfold i64B; omega) (by unfold i64B; omega) B47.out
  obtain ⟨W48, hW48⟩ : ∃ x, W47.alloc (.cells #[.int .i64 6, .int .i64 6, .int .i64 8] 3) = x := ⟨_, rfl⟩
  rw [hW48] at s48 b48 d48
  have L48 := Lib.hid s48
  have B48 := Lib.hid b48
  have S49 := Lib.hid (L47.out.below d48)
  clear L47
  clear s48 b48 d48 B47
  go_wp2_with fail
  have hcall := HD.out _ _ _ _ [5, 6, 7] [6, 6, 8] W48 S49.out L48.out (by decide) (by decide)
  rw [F13.out] at hcall
  refine hcall.mono ?_
  clear hcall
  rintro e X50 ⟨A50, c50, rfl, hn50, b50⟩
  have R50 := Lib.hid hn50.sl
  clear hn50
  clear S49
  clear L48
  have B50 := Lib.hid (below_step B48.out b50)
  clear b50 B48 hW47 hW48
  dsimp only [List.length_nil, List.length_cons, Nat.reduceAdd, Nat.zero_add]
  obtain ⟨s51, b51, d51⟩ := lit2 (w0 := w) (w := X50) (0) (2) (by unfold i64B; omega) (by unfold i64B; omega) B50.out
  obtain ⟨W51, hW51⟩ : ∃ x, X50.alloc (.cells #[.int .i64 0, .int .i64 2] 3) = x := ⟨_, rfl⟩
  rw [hW51] at s51 b51 d51
  have L51 := Lib.hid s51
  have B51 := Lib.hid b51
  have S52 := Lib.hid (R50.out.below d51)
  clear R50
  clear s51 b51 d51 B50
  go_wp2_with fail
  refine (is_any _ _ _ _ [0, 2] [0, 2] W51 S52.out.ints L51.out.ints (by decide)).mono ?_
  rintro e X53 ⟨rfl, b53⟩
  rw [decide_eq_true (rfl : ([0, 2] : List Int) = [0, 2])]
  clear S52
  clear L51
  have B53 := Lib.hid (below_step B51.out b53)
  clear b53 B51 hW51
  obtain ⟨s54, b54, d54⟩ := lit2 (w0 := w) (w := X53) (0) (-1) (by unfold i64B; omega) (by unfold i64B; omega) B53.out
  obtain ⟨W54, hW54⟩ : ∃ x, X53.alloc (.cells #[.int .i64 0, .int .i64 (-1)] 3) = x := ⟨_, rfl⟩
  rw [hW54] at s54 b54 d54
  have L54 := Lib.hid s54
  have B54 := Lib.hid b54
  clear s54 b54 d54 B53
  go_wp2_with fail
  have hcall := HD.out _ _ _ _ [] [0, -1] W54 (SlAt.none _) L54.out (by decide) (by decide)
  rw [F14.out] at hcall
  refine hcall.mono ?_
  clear hcall
  rintro e X55 ⟨A55, c55, rfl, hn55, b55⟩
  have R55 := Lib.hid hn55.sl
  clear hn55
  clear L54
  have B55 := Lib.hid (below_step B54.out b55)
  clear b55 B54 hW54
  dsimp only [List.length_nil, List.length_cons, Nat.reduceAdd, Nat.zero_add]
  obtain ⟨s56, b56, d56⟩ := lit1 (w0 := w) (w := X55) (1) (by unfold i64B; omega) B55.out
  obtain ⟨W56, hW56⟩ : ∃ x, X55.alloc (.cells #[.int .i64 1] 3) = x := ⟨_, rfl⟩
  rw [hW56] at s56 b56 d56
  have L56 := Lib.hid s56
  have B56 := Lib.hid b56
  have S57 := Lib.hid (R55.out.below d56)
  clear R55
  clear s56 b56 d56 B55
  go_wp2_with fail
  refine (is_any _ _ _ _ [1] [1] W56 S57.out.ints L56.out.ints (by decide)).mono ?_
  rintro e X58 ⟨rfl, b58⟩
  rw [decide_eq_true (rfl : ([1] : List Int) = [1])]
  clear S57
  clear L56
  have B58 := Lib.hid (below_step B56.out b58)
  clear b58 B56 hW56
  obtain ⟨s59, b59, d59⟩ := lit2 (w0 := w) (w := X58) (0) (0) (by unfold i64B; omega) (by unfold i64B; omega) B58.out
  obtain ⟨W59, hW59⟩ : ∃ x, X58.alloc (.cells #[.int .i64 0, .int .i64 0] 3) = x := ⟨_, rfl⟩
  rw [hW59] at s59 b59 d59
  have L59 := Lib.hid s59
  have B59 := Lib.hid b59
  clear s59 b59 d59 B58
  go_wp2_with fail
  have hcall := HW.out _ _ [0, 0] (1) (7) W59 L59.out (by decide) (by unfold i64B; omega) (by unfold i64B; omega)
  rw [F15.out] at hcall
  refine hcall.mono ?_
  clear hcall
  rintro e X60 ⟨A60, c60, rfl, hn60, b60⟩
  dsimp only at hn60
  have R60 := Lib.hid hn60.sl
  clear hn60
  clear L59
  have B60 := Lib.hid (below_step B59.out b60)
  clear b60 B59 hW59
  dsimp only [List.length_nil, List.length_cons, Nat.reduceAdd, Nat.zero_add]
  obtain ⟨s61, b61, d61⟩ := lit1 (w0 := w) (w := X60) (0) (by unfold i64B; omega) B60.out
  obtain ⟨W61, hW61⟩ : ∃ x, X60.alloc (.cells #[.int .i64 0] 3) = x := ⟨_, rfl⟩
  rw [hW61] at s61 b61 d61
  have L61 := Lib.hid s61
  have B61 := Lib.hid b61
  have S62 := Lib.hid (R60.out.below d61)
  clear R60
  clear s61 b61 d61 B60
  go_wp2_with fail
  have hcall := HW.out _ _ [0] (1) (7) W61 L61.out (by decide) (by unfold i64B; omega) (by unfold i64B; omega)
  rw [F16.out] at hcall
  refine hcall.mono ?_
  clear hcall
  rintro e X63 ⟨A63, c63, rfl, hn63, b63⟩
  dsimp only at hn63
  have R63 := Lib.hid hn63.sl
  clear hn63
  clear L61
  have S64 := Lib.hid (S62.out.below b63)
  clear S62
  have B63 := Lib.hid (below_step B61.out b63)
  clear b63 B61 hW61
  dsimp only [List.length_nil, List.length_cons, Nat.reduceAdd, Nat.zero_add]
  obtain ⟨s65, b65, d65⟩ := lit1 (w0 := w) (w := X63) (0) (by unfold i64B; omega) B63.out
  obtain ⟨W65, hW65⟩ : ∃ x, X63.alloc (.cells #[.int .i64 0] 3) = x := ⟨_, rfl⟩
  rw [hW65] at s65 b65 d65
  have L65 := Lib.hid s65
  have B65 := Lib.hid b65
  have S66 := Lib.hid (S64.out.below d65)
  clear S64
  have S67 := Lib.hid (R63.out.below d65)
  clear R63
  clear s65 b65 d65 B63
  go_wp2_with fail
  have hcall := HW.out _ _ [0] (0) (-1) W65 L65.out (by decide) (by unfold i64B; omega) (by unfold i64B; omega)
  rw [F17.out] at hcall
  refine hcall.mono ?_
  clear hcall
  rintro e X68 ⟨A68, c68, rfl, hn68, b68⟩
  dsimp only at hn68
  have R68 := Lib.hid hn68.sl
  clear hn68
  clear L65
  have S69 := Lib.hid (S66.out.below b68)
  clear S66
  have S70 := Lib.hid (S67.out.below b68)
  clear S67
  have B68 := Lib.hid (below_step B65.out b68)
  clear b68 B65 hW65
  dsimp only [List.length_nil, List.length_cons, Nat.reduceAdd, Nat.zero_add]
  obtain ⟨s71, b71, d71⟩ := lit1 (w0 := w) (w := X68) (3) (by unfold i64B; omega) B68.out
  obtain ⟨W71, hW71⟩ : ∃ x, X68.alloc (.cells #[.int .i64 3] 3) = x := ⟨_, rfl⟩
  rw [hW71] at s71 b71 d71
  have L71 := Lib.hid s71
  have B71 := Lib.hid b71
  have S72 := Lib.hid (S69.out.below d71)
  clear S69
  have S73 := Lib.hid (S70.out.below d71)
  clear S70
  have S74 := Lib.hid (R68.out.below d71)
  clear R68
  clear s71 b71 d71 B68
  go_wp2_with fail
  have hcall := HW.out _ _ [3] (0) (0) W71 L71.out (by decide) (by unfold i64B; omega) (by unfold i64B; omega)
  rw [F18.out] at hcall
  refine hcall.mono ?_
  clear hcall
  rintro e X75 ⟨A75, c75, rfl, hn75, b75⟩
  dsimp only at hn75
  have R75 := Lib.hid hn75.sl
  clear hn75
  clear L71
  have S76 := Lib.hid (S72.out.below b75)
  clear S72
  have S77 := Lib.hid (S73.out.below b75)
  clear S73
  have S78 := Lib.hid (S74.out.below b75)
  clear S74
  have B75 := Lib.hid (below_step B71.out b75)
  clear b75 B71 hW71
  dsimp only [List.length_nil, List.length_cons, Nat.reduceAdd, Nat.zero_add]
  obtain ⟨s79, b79, d79⟩ := lit1 (w0 := w) (w := X75) (3) (by unfold i64B; omega) B75.out
  obtain ⟨W79, hW79⟩ : ∃ x, X75.alloc (.cells #[.int .i64 3] 3) = x := ⟨_, rfl⟩
  rw [hW79] at s79 b79 d79
  have L79 := Lib.hid s79
  have B79 := Lib.hid b79
  have S80 := Lib.hid (S76.out.below d79)
  clear S76
  have S81 := Lib.hid (S77.out.below d79)
  clear S77
  have S82 := Lib.hid (S78.out.below d79)
  clear S78
  have S83 := Lib.hid (R75.out.below d79)
  clear R75
  clear s79 b79 d79 B75
  go_wp2_with fail
  have hcall := HW.out _ _ [3] (-1) (0) W79 L79.out (by decide) (by unfold i64B; omega) (by unfold i64B; omega)
  rw [F19.out] at hcall
  refine hcall.mono ?_
  clear hcall
  rintro e X84 ⟨A84, c84, rfl, hn84, b84⟩
  dsimp only at hn84
  have R84 := Lib.hid hn84.sl
  clear hn84
  clear L79
  have S85 := Lib.hid (S80.out.below b84)
  clear S80
  have S86 := Lib.hid (S81.out.below b84)
  clear S81
  have S87 := Lib.hid (S82.out.below b84)
  clear S82
  have S88 := Lib.hid (S83.out.below b84)
  clear S83
  have B84 := Lib.hid (below_step B79.out b84)
  clear b84 B79 hW79
  clear R84
  dsimp only [List.length_nil, List.length_cons, Nat.reduceAdd, Nat.zero_add]
  obtain ⟨s89, b89, d89⟩ := lit2 (w0 := w) (w := X84) (0) (7) (by unfold i64B; omega) (by unfold i64B; omega) B84.out
  obtain ⟨W89, hW89⟩ : ∃ x, X84.alloc (.cells #[.int .i64 0, .int .i64 7] 3) = x := ⟨_, rfl⟩
  rw [hW89] at s89 b89 d89
  have L89 := Lib.hid s89
  have B89 := Lib.hid b89
  have S90 := Lib.hid (S85.out.below d89)
  clear S85
  have S91 := Lib.hid (S86.out.below d89)
  clear S86
  have S92 := Lib.hid (S87.out.below d89)
  clear S87
  have S93 := Lib.hid (S88.out.below d89)
  clear S88
  clear s89 b89 d89 B84
  go_wp2_with fail
  refine (is_any _ _ _ _ [0, 7] [0, 7] W89 S90.out.ints L89.out.ints (by decide)).mono ?_
  rintro e X94 ⟨rfl, b94⟩
  rw [decide_eq_true (rfl : ([0, 7] : List Int) = [0, 7])]
  clear S90
  clear L89
  have S95 := Lib.hid (S91.out.below b94)
  clear S91
  have S96 := Lib.hid (S92.out.below b94)
  clear S92
  have S97 := Lib.hid (S93.out.below b94)
  clear S93
  have B94 := Lib.hid (below_step B89.out b94)
  clear b94 B89 hW89
  go_wp2_with fail
  refine (is_any _ _ _ _ [] [] X94 S95.out.ints (IntsAt.nil _ _) (by decide)).mono ?_
  rintro e X98 ⟨rfl, b98⟩
  rw [decide_eq_true (rfl : ([] : List Int) = [])]
  clear S95
  have S99 := Lib.hid (S96.out.below b98)
  clear S96
  have S100 := Lib.hid (S97.out.below b98)
  clear S97
  have B98 := Lib.hid (below_step B94.out b98)
  clear b98 B94
  go_wp2_with fail
  refine (is_any _ _ _ _ [] [] X98 S99.out.ints (IntsAt.nil _ _) (by decide)).mono ?_
  rintro e X101 ⟨rfl, b101⟩
  rw [decide_eq_true (rfl : ([] : List Int) = [])]
  clear S99
  have S102 := Lib.hid (S100.out.below b101)
  clear S100
  have B101 := Lib.hid (below_step B98.out b101)
  clear b101 B98
  obtain ⟨s103, b103, d103⟩ := lit1 (w0 := w) (w := X101) (0) (by unfold i64B; omega) B101.out
  obtain ⟨W103, hW103⟩ : ∃ x, X101.alloc (.cells #[.int .i64 0] 3) = x := ⟨_, rfl⟩
  rw [hW103] at s103 b103 d103
  have L103 := Lib.hid s103
  have B103 := Lib.hid b103
  have S104 := Lib.hid (S102.out.below d103)
  clear S102
  clear s103 b103 d103 B101
  go_wp2_with fail
  refine (is_any _ _ _ _ [0] [0] W103 S104.out.ints L103.out.ints (by decide)).mono ?_
  rintro e X105 ⟨rfl, b105⟩
  rw [decide_eq_true (rfl : ([0] : List Int) = [0])]
  clear S104
  clear L103
  have B105 := Lib.hid (below_step B103.out b105)
  clear b105 B103 hW103
  go_wp2_with fail
  refine (HWK.out X105).mono ?_
  rintro e WZ ⟨rfl, bz⟩
  have BZ := Lib.hid (below_step B105.out bz)
  clear bz
  go_wp2_with fail
  go_ret
  exact ⟨rfl, BZ.out⟩
end Go.Proofs.Ytadobhfmhcaofaa.im
