/- The walk of DiskKnown (written by tools/steps04.py). -/
import Derived.Test.YtmacnghnjnkopaaDkNil
namespace Go.Proofs.Ytmacnghnjnkopaa.dk
open Go Go.RowKit

def ks0 : DD := DD.new 1 5
def ks1 : DD := (ks0.write 0 (dat 97)).2
def ks2 : DD := ks1.setRoom (-5)
def ks3 : DD := (ks2.write 0 (dat 98)).2
def fs0 : DD := DD.new 3 3
def fs1 : DD := fs0.arm 1
def fs2 : DD := fs1.arm 0
def fs3 : DD := (fs2.write 0 (dat 97)).2
def fs4 : DD := fs3.arm 1
def fs5 : DD := fs4.off
def fs6 : DD := fs5.wake [true]
def fs7 : DD := fs6.flush.2

set_option maxRecDepth 100000 in
set_option maxHeartbeats 8000000 in
theorem diskKnown_walk (w : World) : Calls Try.prog 8 #[] w (okB true w) := by
  obtain ⟨S97, H97⟩ : ∃ s, Hid (str (dat 97) = s) := ⟨_, rfl⟩
  have L97 : Hid (bl S97 = dat 97) := by unfold Hid; rw [← H97.out, bl_str]
  obtain ⟨S98, H98⟩ : ∃ s, Hid (str (dat 98) = s) := ⟨_, rfl⟩
  have L98 : Hid (bl S98 = dat 98) := by unfold Hid; rw [← H98.out, bl_str]
  go_enter Try.func8, Try.ntmps8
  go_wp2_with fail
  refine (new_in 10 1 5 (by decide) (by decide) (by decide) (by decide) _).mono ?_
  rintro e W1 ⟨p, rfl, i, b⟩
  have I1 := Lib.hid i
  have B1 := Lib.hid b
  clear i b
  go_wp2_with fail
  refine (data_in I1.out 97 97 rfl S97 H97.out).mono ?_
  rintro e W2 ⟨rfl, i, b⟩
  have I2 := Lib.hid i
  have B2 := Lib.hid (below_step B1.out b)
  clear i b I1 B1
  go_wp2_with fail
  refine (write_in I2.out B2.out.size (by decide +kernel) (by decide) 0 S97 (dat 97) L97.out 0 ks1 (by decide +kernel) rfl).mono ?_
  rintro e W3 ⟨rfl, i, b⟩
  have I3 := Lib.hid i
  have B3 := Lib.hid (B2.out.trans b)
  clear i b I2 B2
  go_wp2_with fail
  refine (wake_new I3.out B3.out.size (by decide) [false] _ _ rfl rfl ks1 rfl).mono ?_
  rintro e W4 ⟨rfl, i, b⟩
  have I4 := Lib.hid i
  have B4 := Lib.hid ((B3.out.alloc B3.out.size (.cells ((([false] : List Bool).map Value.bool).toArray) 4)).trans b)
  clear i b I3 B3
  go_wp2_with fail
  refine (read_in I4.out (0) (dat 97) S97 H97.out 0 (by decide +kernel)).mono ?_
  rintro e W5 ⟨rfl, i, b⟩
  have I5 := Lib.hid i
  have B5 := Lib.hid (below_step B4.out b)
  clear i b I4 B4
  go_wp2_with fail
  refine (room_in I5.out B5.out.size (-5) (by decide) ks2 rfl).mono ?_
  rintro e W6 ⟨rfl, i, b⟩
  have I6 := Lib.hid i
  have B6 := Lib.hid (B5.out.trans b)
  clear i b I5 B5
  go_wp2_with fail
  refine (data_in I6.out 98 98 rfl S98 H98.out).mono ?_
  rintro e W7 ⟨rfl, i, b⟩
  have I7 := Lib.hid i
  have B7 := Lib.hid (below_step B6.out b)
  clear i b I6 B6
  go_wp2_with fail
  refine (write_in I7.out B7.out.size (by decide +kernel) (by decide) 0 S98 (dat 98) L98.out 0 ks3 (by decide +kernel) rfl).mono ?_
  rintro e W8 ⟨rfl, i, b⟩
  have I8 := Lib.hid i
  have B8 := Lib.hid (B7.out.trans b)
  clear i b I7 B7
  go_wp2_with fail
  have BA := Lib.hid (below_step B8.out ((Below.refl _ W8).alloc (Nat.le_refl _) (.cells ((([0, 0] : List Int).map (Value.int .i64)).toArray) 3)))
  refine (fits_in (I8.out.below ((Below.refl _ W8).alloc (Nat.le_refl _) _)) _ _ _ [0, 0] (ints_new [0, 0] W8 (by decide)) (by decide) rfl true (by decide +kernel)).mono ?_
  rintro e W9 ⟨rfl, i, b⟩
  have I9 := Lib.hid i
  have B9 := Lib.hid (below_step BA.out b)
  clear i b I8 B8 BA
  go_wp2_with fail
  have BA := Lib.hid (below_step B9.out ((Below.refl _ W9).alloc (Nat.le_refl _) (.cells ((([1] : List Int).map (Value.int .i64)).toArray) 3)))
  refine (fits_in (I9.out.below ((Below.refl _ W9).alloc (Nat.le_refl _) _)) _ _ _ [1] (ints_new [1] W9 (by decide)) (by decide) rfl false (by decide +kernel)).mono ?_
  rintro e W10 ⟨rfl, i, b⟩
  have I10 := Lib.hid i
  have B10 := Lib.hid (below_step BA.out b)
  clear i b I9 B9 BA
  go_wp2_with fail
  have BA := Lib.hid (below_step B10.out ((Below.refl _ W10).alloc (Nat.le_refl _) (.cells ((([-1] : List Int).map (Value.int .i64)).toArray) 3)))
  refine (fits_in (I10.out.below ((Below.refl _ W10).alloc (Nat.le_refl _) _)) _ _ _ [-1] (ints_new [-1] W10 (by decide)) (by decide) rfl false (by decide +kernel)).mono ?_
  rintro e W11 ⟨rfl, i, b⟩
  have I11 := Lib.hid i
  have B11 := Lib.hid (below_step BA.out b)
  clear i b I10 B10 BA
  go_wp2_with fail
  refine (fits_in I11.out _ _ _ [] (fun i h => absurd h (by simp)) (by decide) rfl true (by decide +kernel)).mono ?_
  rintro e W12 ⟨rfl, i, b⟩
  have I12 := Lib.hid i
  have B12 := Lib.hid (below_step B11.out b)
  clear i b I11 B11
  go_wp2_with fail
  refine (new_in 10 3 3 (by decide) (by decide) (by decide) (by decide) _).mono ?_
  rintro e W13 ⟨pf, rfl, i, b⟩
  have I13 := Lib.hid (i.base B12.out.size)
  have B13 := Lib.hid (below_step B12.out b)
  clear i b I12 B12
  go_wp2_with fail
  refine (arm_in I13.out B13.out.size 1 (by decide) fs1 rfl).mono ?_
  rintro e W14 ⟨rfl, i, b⟩
  have I14 := Lib.hid i
  have B14 := Lib.hid (B13.out.trans b)
  clear i b I13 B13
  go_wp2_with fail
  refine (arm_in I14.out B14.out.size 0 (by decide) fs2 rfl).mono ?_
  rintro e W15 ⟨rfl, i, b⟩
  have I15 := Lib.hid i
  have B15 := Lib.hid (B14.out.trans b)
  clear i b I14 B14
  go_wp2_with fail
  refine (data_in I15.out 97 97 rfl S97 H97.out).mono ?_
  rintro e W16 ⟨rfl, i, b⟩
  have I16 := Lib.hid i
  have B16 := Lib.hid (below_step B15.out b)
  clear i b I15 B15
  go_wp2_with fail
  refine (write_in I16.out B16.out.size (by decide +kernel) (by decide) 0 S97 (dat 97) L97.out 0 fs3 (by decide +kernel) rfl).mono ?_
  rintro e W17 ⟨rfl, i, b⟩
  have I17 := Lib.hid i
  have B17 := Lib.hid (B16.out.trans b)
  clear i b I16 B16
  go_wp2_with fail
  refine (arm_in I17.out B17.out.size 1 (by decide) fs4 rfl).mono ?_
  rintro e W18 ⟨rfl, i, b⟩
  have I18 := Lib.hid i
  have B18 := Lib.hid (B17.out.trans b)
  clear i b I17 B17
  go_wp2_with fail
  refine (data_in I18.out 97 97 rfl S97 H97.out).mono ?_
  rintro e W19 ⟨rfl, i, b⟩
  have I19 := Lib.hid i
  have B19 := Lib.hid (below_step B18.out b)
  clear i b I18 B18
  go_wp2_with fail
  refine (write_in I19.out B19.out.size (by decide +kernel) (by decide) 9 S97 (dat 97) L97.out 2 fs4 (by decide +kernel) rfl).mono ?_
  rintro e W20 ⟨rfl, i, b⟩
  have I20 := Lib.hid i
  have B20 := Lib.hid (B19.out.trans b)
  clear i b I19 B19
  go_wp2_with fail
  refine (read_in I20.out (-1) [] ⟨#[]⟩ rfl 2 (by decide +kernel)).mono ?_
  rintro e W21 ⟨rfl, i, b⟩
  have I21 := Lib.hid i
  have B21 := Lib.hid (below_step B20.out b)
  clear i b I20 B20
  go_wp2_with fail
  refine (off_in I21.out B21.out.size fs5 rfl).mono ?_
  rintro e W22 ⟨rfl, i, b⟩
  have I22 := Lib.hid i
  have B22 := Lib.hid (B21.out.trans b)
  clear i b I21 B21
  go_wp2_with fail
  refine (wake_new I22.out B22.out.size (by decide) [true] _ _ rfl rfl fs6 rfl).mono ?_
  rintro e W23 ⟨rfl, i, b⟩
  have I23 := Lib.hid i
  have B23 := Lib.hid ((B22.out.alloc B22.out.size (.cells ((([true] : List Bool).map Value.bool).toArray) 4)).trans b)
  clear i b I22 B22
  go_wp2_with fail
  refine (flush_in I23.out B23.out.size 0 fs7 (by decide +kernel) rfl).mono ?_
  rintro e W24 ⟨rfl, i, b⟩
  have I24 := Lib.hid i
  have B24 := Lib.hid (B23.out.trans b)
  clear i b I23 B23
  go_wp2_with fail
  refine (read_in I24.out (0) (dat 97) S97 H97.out 0 (by decide +kernel)).mono ?_
  rintro e W25 ⟨rfl, i, b⟩
  have I25 := Lib.hid i
  have B25 := Lib.hid (below_step B24.out b)
  clear i b I24 B24
  go_wp2_with fail
  refine (nil_read 0 _).mono ?_
  rintro e w2 ⟨rfl, rfl⟩
  go_wp2_with fail
  refine (works_any _).mono ?_
  rintro e W26 ⟨rfl, b⟩
  have I26 := Lib.hid (I25.out.below b)
  have B26 := Lib.hid (below_step B25.out b)
  clear b I25 B25
  go_wp2_with fail
  refine (data_in I26.out 97 97 rfl S97 H97.out).mono ?_
  rintro e W27 ⟨rfl, i, b⟩
  have I27 := Lib.hid i
  have B27 := Lib.hid (below_step B26.out b)
  clear i b I26 B26
  go_wp2_with fail
  refine (data_in I27.out 97 97 rfl S97 H97.out).mono ?_
  rintro e W28 ⟨rfl, i, b⟩
  have I28 := Lib.hid i
  have B28 := Lib.hid (below_step B27.out b)
  clear i b I27 B27
  go_wp2_with fail
  refine (new_none 0 1 (.inl (by decide)) _).mono ?_
  rintro e w2 ⟨rfl, rfl⟩
  go_wp2_with fail
  refine (new_none 1025 1 (.inr (.inl (by decide))) _).mono ?_
  rintro e w2 ⟨rfl, rfl⟩
  go_wp2_with fail
  refine (new_none 1 (-1) (.inr (.inr (by decide))) _).mono ?_
  rintro e w2 ⟨rfl, rfl⟩
  go_wp2_with fail
  refine (new_in 10 1024 0 (by decide) (by decide) (by decide) (by decide) _).mono ?_
  rintro e W29 ⟨p3, rfl, i, b⟩
  have I29 := Lib.hid (I28.out.below b)
  have B29 := Lib.hid (below_step B28.out b)
  clear i b I28 B28
  go_wp2_with fail
  refine (data_in I29.out 97 97 rfl S97 H97.out).mono ?_
  rintro e W30 ⟨rfl, i, b⟩
  have I30 := Lib.hid i
  have B30 := Lib.hid (below_step B29.out b)
  clear i b I29 B29
  go_wp2_with fail
  refine (nil_write 0 _ _).mono ?_
  rintro e w2 ⟨rfl, rfl⟩
  go_wp2_with fail
  refine (nil_flush _).mono ?_
  rintro e w2 ⟨rfl, rfl⟩
  go_wp2_with fail
  refine (nil_fits _ _ _ _).mono ?_
  rintro e w2 ⟨rfl, rfl⟩
  go_wp2_with fail
  refine (nil_used _).mono ?_
  rintro e w2 ⟨rfl, rfl⟩
  go_wp2_with fail
  refine (nil_len _).mono ?_
  rintro e w2 ⟨rfl, rfl⟩
  go_wp2_with fail
  refine (nil_on _).mono ?_
  rintro e w2 ⟨rfl, rfl⟩
  go_wp2_with fail
  refine (nil_copy _).mono ?_
  rintro e w2 ⟨rfl, rfl⟩
  go_wp2_with fail
  refine (used_in I30.out 1 (by decide +kernel)).mono ?_
  rintro e w2 ⟨rfl, rfl⟩
  go_wp2_with fail
  go_ret
  exact ⟨rfl, B30.out⟩

end Go.Proofs.Ytmacnghnjnkopaa.dk
