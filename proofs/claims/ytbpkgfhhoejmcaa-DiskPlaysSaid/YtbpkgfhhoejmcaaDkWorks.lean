/- The walk of works of the statements (written by tools/steps04.py). -/
import Derived.Test.YtbpkgfhhoejmcaaDkIn
namespace Go.Proofs.Ytbpkgfhhoejmcaa.dk
open Go Go.RowKit

theorem wake_new {most : Nat} {w : World} {B p : Nat} {d : DD} (h : In most w B p d) (hB : B ≤ w.heap.size) (hmost : most ≤ 100000) (bs : List Bool) (n c : Nat) (hn : bs.length = n) (hc : bs.length = c) (d' : DD) (h2 : d.wake bs = d') :
    Calls Try.prog 9 #[.pointer (some ⟨p, 0, none⟩), .slice (some ⟨w.heap.size, 0, none⟩) n c] (w.alloc (.cells (bs.map Value.bool).toArray 4)) (InPost most B p d' (.tuple #[]) (w.alloc (.cells (bs.map Value.bool).toArray 4))) := by
  have hb := bools_new bs w
  obtain ⟨own, hd, ho⟩ := h
  subst h2 hn hc
  have hlow := hd.low
  have hd2 := hd.below ((Below.refl _ w).alloc (Nat.le_refl _) (.cells (bs.map Value.bool).toArray 4))
  have hB2 : B ≤ (w.alloc (.cells (bs.map Value.bool).toArray 4)).heap.size := by simp; omega
  by_cases hon : d.on = true
  · exact (wake_on hd2 hon _ _ _ bs).mono fun _ _ h => in_of_post hB2 ho h
  · refine (wake_off hd2 hmost (by simpa using hon) _ _ bs hb (fun b o hA _ hob => ?_)).mono fun _ _ h => in_of_post hB2 ho h
    simp only [Option.some.injEq, Addr.mk.injEq] at hA
    have := hlow b hob
    omega


def ws0 : DD := DD.new 4 2
def ws1 : DD := (ws0.write 1 (dat 97)).2
def ws2 : DD := ws1.flush.2
def ws3 : DD := (ws2.write 1 (dat 98)).2
def ws4 : DD := (ws3.write 2 (dat 98)).2
def ws5 : DD := ws4.off
def ws6 : DD := ws5.wake [true, false]
def ws7 : DD := ws6.arm 2
def ws8 : DD := (ws7.write 0 (dat 97)).2
def ws9 : DD := ws8.flush.2
def ws10 : DD := ws9.wake []

set_option maxRecDepth 100000 in
set_option maxHeartbeats 4000000 in
theorem works_any (w : World) : Calls Try.prog 6 #[] w (okB true w) := by
  obtain ⟨S97, H97⟩ : ∃ s, Hid (str (dat 97) = s) := ⟨_, rfl⟩
  have L97 : Hid (bl S97 = dat 97) := by unfold Hid; rw [← H97.out, bl_str]
  obtain ⟨S98, H98⟩ : ∃ s, Hid (str (dat 98) = s) := ⟨_, rfl⟩
  have L98 : Hid (bl S98 = dat 98) := by unfold Hid; rw [← H98.out, bl_str]
  obtain ⟨S0, H0⟩ : ∃ s, Hid (str (dat 0) = s) := ⟨_, rfl⟩
  have L0 : Hid (bl S0 = dat 0) := by unfold Hid; rw [← H0.out, bl_str]
  go_enter Try.func6, Try.ntmps6
  go_wp2_with fail
  refine (new_in 10 4 2 (by decide) (by decide) (by decide) (by decide) _).mono ?_
  rintro e W1 ⟨p, rfl, i, b⟩
  have I1 := Lib.hid i
  have B1 := Lib.hid b
  clear i b
  go_wp2_with fail
  refine (data_in I1.out 97 97 rfl S97 H97.out).mono ?_
  rintro e W2 ⟨rfl, i, b⟩
  have I2 := Lib.hid i
  have B2 := Lib.hid (below_step B1.out b)
  clear i b I1 B1
  go_wp2_with fail
  refine (write_in I2.out B2.out.size (by decide +kernel) (by decide) 1 S97 (dat 97) L97.out 0 ws1 (by decide +kernel) rfl).mono ?_
  rintro e W3 ⟨rfl, i, b⟩
  have I3 := Lib.hid i
  have B3 := Lib.hid (B2.out.trans b)
  clear i b I2 B2
  go_wp2_with fail
  refine (used_in I3.out 1 (by decide +kernel)).mono ?_
  rintro e w2 ⟨rfl, rfl⟩
  go_wp2_with fail
  refine (data_in I3.out 97 97 rfl S97 H97.out).mono ?_
  rintro e W4 ⟨rfl, i, b⟩
  have I4 := Lib.hid i
  have B4 := Lib.hid (below_step B3.out b)
  clear i b I3 B3
  go_wp2_with fail
  refine (write_in I4.out B4.out.size (by decide +kernel) (by decide) 4 S97 (dat 97) L97.out 2 ws1 (by decide +kernel) rfl).mono ?_
  rintro e W5 ⟨rfl, i, b⟩
  have I5 := Lib.hid i
  have B5 := Lib.hid (B4.out.trans b)
  clear i b I4 B4
  go_wp2_with fail
  refine (write_in I5.out B5.out.size (by decide +kernel) (by decide) 1 _ [97] rfl 2 ws1 (by decide +kernel) rfl).mono ?_
  rintro e W6 ⟨rfl, i, b⟩
  have I6 := Lib.hid i
  have B6 := Lib.hid (B5.out.trans b)
  clear i b I5 B5
  go_wp2_with fail
  refine (read_in I6.out (1) (dat 97) S97 H97.out 0 (by decide +kernel)).mono ?_
  rintro e W7 ⟨rfl, i, b⟩
  have I7 := Lib.hid i
  have B7 := Lib.hid (below_step B6.out b)
  clear i b I6 B6
  go_wp2_with fail
  refine (read_in I7.out (0) (dat 0) S0 H0.out 0 (by decide +kernel)).mono ?_
  rintro e W8 ⟨rfl, i, b⟩
  have I8 := Lib.hid i
  have B8 := Lib.hid (below_step B7.out b)
  clear i b I7 B7
  go_wp2_with fail
  refine (data_in I8.out 97 97 rfl S97 H97.out).mono ?_
  rintro e W9 ⟨rfl, i, b⟩
  have I9 := Lib.hid i
  have B9 := Lib.hid (below_step B8.out b)
  clear i b I8 B8
  go_wp2_with fail
  refine (data_in I9.out 0 0 rfl S0 H0.out).mono ?_
  rintro e W10 ⟨rfl, i, b⟩
  have I10 := Lib.hid i
  have B10 := Lib.hid (below_step B9.out b)
  clear i b I9 B9
  go_wp2_with fail
  refine (flush_in I10.out B10.out.size 0 ws2 (by decide +kernel) rfl).mono ?_
  rintro e W11 ⟨rfl, i, b⟩
  have I11 := Lib.hid i
  have B11 := Lib.hid (B10.out.trans b)
  clear i b I10 B10
  go_wp2_with fail
  refine (data_in I11.out 98 98 rfl S98 H98.out).mono ?_
  rintro e W12 ⟨rfl, i, b⟩
  have I12 := Lib.hid i
  have B12 := Lib.hid (below_step B11.out b)
  clear i b I11 B11
  go_wp2_with fail
  refine (write_in I12.out B12.out.size (by decide +kernel) (by decide) 1 S98 (dat 98) L98.out 0 ws3 (by decide +kernel) rfl).mono ?_
  rintro e W13 ⟨rfl, i, b⟩
  have I13 := Lib.hid i
  have B13 := Lib.hid (B12.out.trans b)
  clear i b I12 B12
  go_wp2_with fail
  refine (data_in I13.out 98 98 rfl S98 H98.out).mono ?_
  rintro e W14 ⟨rfl, i, b⟩
  have I14 := Lib.hid i
  have B14 := Lib.hid (below_step B13.out b)
  clear i b I13 B13
  go_wp2_with fail
  refine (write_in I14.out B14.out.size (by decide +kernel) (by decide) 2 S98 (dat 98) L98.out 0 ws4 (by decide +kernel) rfl).mono ?_
  rintro e W15 ⟨rfl, i, b⟩
  have I15 := Lib.hid i
  have B15 := Lib.hid (B14.out.trans b)
  clear i b I14 B14
  go_wp2_with fail
  refine (data_in I15.out 98 98 rfl S98 H98.out).mono ?_
  rintro e W16 ⟨rfl, i, b⟩
  have I16 := Lib.hid i
  have B16 := Lib.hid (below_step B15.out b)
  clear i b I15 B15
  go_wp2_with fail
  refine (write_in I16.out B16.out.size (by decide +kernel) (by decide) 3 S98 (dat 98) L98.out 7 ws4 (by decide +kernel) rfl).mono ?_
  rintro e W17 ⟨rfl, i, b⟩
  have I17 := Lib.hid i
  have B17 := Lib.hid (B16.out.trans b)
  clear i b I16 B16
  go_wp2_with fail
  have BA := Lib.hid (below_step B17.out ((Below.refl _ W17).alloc (Nat.le_refl _) (.cells ((([2, 1] : List Int).map (Value.int .i64)).toArray) 3)))
  refine (fits_in (I17.out.below ((Below.refl _ W17).alloc (Nat.le_refl _) _)) _ _ _ [2, 1] (ints_new [2, 1] W17 (by decide)) (by decide) rfl true (by decide +kernel)).mono ?_
  rintro e W18 ⟨rfl, i, b⟩
  have I18 := Lib.hid i
  have B18 := Lib.hid (below_step BA.out b)
  clear i b I17 B17 BA
  go_wp2_with fail
  have BA := Lib.hid (below_step B18.out ((Below.refl _ W18).alloc (Nat.le_refl _) (.cells ((([3] : List Int).map (Value.int .i64)).toArray) 3)))
  refine (fits_in (I18.out.below ((Below.refl _ W18).alloc (Nat.le_refl _) _)) _ _ _ [3] (ints_new [3] W18 (by decide)) (by decide) rfl false (by decide +kernel)).mono ?_
  rintro e W19 ⟨rfl, i, b⟩
  have I19 := Lib.hid i
  have B19 := Lib.hid (below_step BA.out b)
  clear i b I18 B18 BA
  go_wp2_with fail
  refine (off_in I19.out B19.out.size ws5 rfl).mono ?_
  rintro e W20 ⟨rfl, i, b⟩
  have I20 := Lib.hid i
  have B20 := Lib.hid (B19.out.trans b)
  clear i b I19 B19
  go_wp2_with fail
  refine (read_in I20.out (1) [] ⟨#[]⟩ rfl 6 (by decide +kernel)).mono ?_
  rintro e W21 ⟨rfl, i, b⟩
  have I21 := Lib.hid i
  have B21 := Lib.hid (below_step B20.out b)
  clear i b I20 B20
  go_wp2_with fail
  refine (wake_new I21.out B21.out.size (by decide) [true, false] _ _ rfl rfl ws6 rfl).mono ?_
  rintro e W22 ⟨rfl, i, b⟩
  have I22 := Lib.hid i
  have B22 := Lib.hid ((B21.out.alloc B21.out.size (.cells ((([true, false] : List Bool).map Value.bool).toArray) 4)).trans b)
  clear i b I21 B21
  go_wp2_with fail
  refine (read_in I22.out (1) (dat 98) S98 H98.out 0 (by decide +kernel)).mono ?_
  rintro e W23 ⟨rfl, i, b⟩
  have I23 := Lib.hid i
  have B23 := Lib.hid (below_step B22.out b)
  clear i b I22 B22
  go_wp2_with fail
  refine (read_in I23.out (2) (dat 0) S0 H0.out 0 (by decide +kernel)).mono ?_
  rintro e W24 ⟨rfl, i, b⟩
  have I24 := Lib.hid i
  have B24 := Lib.hid (below_step B23.out b)
  clear i b I23 B23
  go_wp2_with fail
  refine (data_in I24.out 98 98 rfl S98 H98.out).mono ?_
  rintro e W25 ⟨rfl, i, b⟩
  have I25 := Lib.hid i
  have B25 := Lib.hid (below_step B24.out b)
  clear i b I24 B24
  go_wp2_with fail
  refine (data_in I25.out 0 0 rfl S0 H0.out).mono ?_
  rintro e W26 ⟨rfl, i, b⟩
  have I26 := Lib.hid i
  have B26 := Lib.hid (below_step B25.out b)
  clear i b I25 B25
  go_wp2_with fail
  refine (used_in I26.out 1 (by decide +kernel)).mono ?_
  rintro e w2 ⟨rfl, rfl⟩
  go_wp2_with fail
  refine (arm_in I26.out B26.out.size 2 (by decide) ws7 rfl).mono ?_
  rintro e W27 ⟨rfl, i, b⟩
  have I27 := Lib.hid i
  have B27 := Lib.hid (B26.out.trans b)
  clear i b I26 B26
  go_wp2_with fail
  refine (data_in I27.out 97 97 rfl S97 H97.out).mono ?_
  rintro e W28 ⟨rfl, i, b⟩
  have I28 := Lib.hid i
  have B28 := Lib.hid (below_step B27.out b)
  clear i b I27 B27
  go_wp2_with fail
  refine (write_in I28.out B28.out.size (by decide +kernel) (by decide) 0 S97 (dat 97) L97.out 0 ws8 (by decide +kernel) rfl).mono ?_
  rintro e W29 ⟨rfl, i, b⟩
  have I29 := Lib.hid i
  have B29 := Lib.hid (B28.out.trans b)
  clear i b I28 B28
  go_wp2_with fail
  refine (flush_in I29.out B29.out.size 6 ws9 (by decide +kernel) rfl).mono ?_
  rintro e W30 ⟨rfl, i, b⟩
  have I30 := Lib.hid i
  have B30 := Lib.hid (B29.out.trans b)
  clear i b I29 B29
  go_wp2_with fail
  refine (on_in I30.out false (by decide +kernel)).mono ?_
  rintro e w2 ⟨rfl, rfl⟩
  go_wp2_with fail
  refine (wake_in I30.out B30.out.size (by decide) _ _ _ [] rfl (fun i h => absurd h (by simp)) (.inl (fun _ _ h => by cases h)) ws10 rfl).mono ?_
  rintro e W31 ⟨rfl, i, b⟩
  have I31 := Lib.hid i
  have B31 := Lib.hid (B30.out.trans b)
  clear i b I30 B30
  go_wp2_with fail
  refine (read_in I31.out (0) (dat 0) S0 H0.out 0 (by decide +kernel)).mono ?_
  rintro e W32 ⟨rfl, i, b⟩
  have I32 := Lib.hid i
  have B32 := Lib.hid (below_step B31.out b)
  clear i b I31 B31
  go_wp2_with fail
  refine (data_in I32.out 0 0 rfl S0 H0.out).mono ?_
  rintro e W33 ⟨rfl, i, b⟩
  have I33 := Lib.hid i
  have B33 := Lib.hid (below_step B32.out b)
  clear i b I32 B32
  go_wp2_with fail
  go_ret
  exact ⟨rfl, B33.out⟩

end Go.Proofs.Ytbpkgfhhoejmcaa.dk
