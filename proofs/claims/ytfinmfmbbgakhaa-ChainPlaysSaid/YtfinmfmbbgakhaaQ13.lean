/- ChWorks, SlcF, ChArgs. -/
import Derived.Test.YtfinmfmbbgakhaaQ12
import Derived.Test.YtfinmfmbbgakhaaQ9
import Derived.Deep.Slices
import Derived.Deep.Fields
import Derived.ChangeSame
import Derived.OpenShut
import Derived.Deep.SlicePairs
import Derived.ChangeSlices
/- The statements' works: the chapter's rows. -/
namespace Go.Proofs.Ytfinmfmbbgakhaa.ch
open Go Go.RowKit Go.Sort Go.Proofs.Ytfinmfmbbgakhaa.ib
set_option maxRecDepth 100000

def la : Bt := dat 97
theorem la_len : la.length = 32 := dat_length (by decide)
def k1 : CH := ⟨[la, zz], []⟩
def k2 : CH := ⟨[la, zz], [⟨(1, 1), [la, zz], false⟩]⟩
def k3 : CH := ⟨[la, la], [⟨(1, 1), [la, zz], false⟩]⟩
def k4 : CH := ⟨[la, la], [⟨(1, 1), [la, zz], false⟩, ⟨(1, 2), [la, la], false⟩]⟩
def k5 : CH := ⟨[la, la], [⟨(1, 1), [la, zz], true⟩, ⟨(1, 2), [la, la], false⟩]⟩
def k6 : CH := ⟨[la, zz], [⟨(1, 1), [la, zz], true⟩]⟩
theorem wk1 : (chNew 2).write 0 la = (k1, 0) := by kernel_rfl
theorem wk2 : k1.snap (1, 1) = (k2, 0) := by kernel_rfl
theorem wk3 : k2.write 1 la = (k3, 0) := by kernel_rfl
theorem wk4 : k3.read (1, 1) = ([la, zz], 0) ∧ k3.live = [la, la] := by refine ⟨?_, ?_⟩ <;> kernel_rfl
theorem wk5 : k3.add (1, 2) [(1, la)] = (k4, 0) := by kernel_rfl
theorem wk6 : k4.changes 0 = ([(0, la)], 0) ∧ k4.changes 1 = ([(1, la)], 0) ∧ k4.changes 2 = ([], 5) := by refine ⟨?_, ?_, ?_⟩ <;> kernel_rfl
theorem wk7 : k4.snap (1, 2) = (k4, 2) ∧ k4.snap (0, 0) = (k4, 2) ∧ k4.add (2, 1) [(1, la), (0, la)] = (k4, 2) := by refine ⟨?_, ?_, ?_⟩ <;> kernel_rfl
theorem wk8 : k4.hide (1, 1) = (k5, 0) ∧ k5.hide (1, 1) = (k5, 14) ∧ k5.read (1, 1) = ([], 14) ∧ k5.read (3, 1) = ([], 5) := by refine ⟨?_, ?_, ?_, ?_⟩ <;> kernel_rfl
theorem wk9 : k5.roll 1 = (k6, 0) ∧ k6.live = [la, zz] ∧ k6.list = [(1, 1)] := by refine ⟨?_, ?_, ?_⟩ <;> kernel_rfl
theorem wv1 : volOf (bl ⟨#[97, 48]⟩) = [la, zz] ∧ volOf (bl ⟨#[97, 97]⟩) = [la, la] := by decide +kernel
set_option maxHeartbeats 12800000 in
theorem works_any {Is : IsT} (H : Impl Is) (w : World) : Calls Try.prog 10 #[] w (okTrue w) := by
  have HD : Hid (∀ W, Calls Try.prog 14 #[.int .u8 97] W (okS la W)) := fun W => data_any 97 W
  go_enter Try.func10, Try.ntmps10
  go_wp2_with fail
  refine (H.new_some 2 w (by decide) (by decide)).mono ?_
  rintro e V ⟨p, own, rfl, hi, hb, ho⟩
  have B0 := Lib.hid hb
  have C0 : Hid (Ch Is V w.heap.size p (chNew 2)) := ⟨own, hi, ho⟩
  clear hi hb ho
  go_wp2_with fail
  refine (HD.out V).mono ?_
  rintro e W1 ⟨rfl, b1⟩
  have B1 := Lib.hid (below_step B0.out b1)
  have C1 := Lib.hid (Ch.below H C0.out b1)
  clear C0
  clear b1 B0 
  go_wp2_with fail
  have hcall := c_write H C1.out B1.out.size 0 la (by unfold b64; omega)
  rw [wk1] at hcall
  refine hcall.mono ?_
  clear hcall
  rintro e W2 ⟨rfl, c2, b2⟩
  dsimp only at c2
  have B2 := Lib.hid (B1.out.trans b2)
  have C2 := Lib.hid c2
  clear b2 c2 B1 C1 
  dsimp only
  go_wp2_with fail
  refine (guid_any 1 1 W2).mono ?_
  rintro e W3 ⟨rfl, b3⟩
  have B3 := Lib.hid (below_step B2.out b3)
  have C3 := Lib.hid (Ch.below H C2.out b3)
  clear C2
  clear b3 B2 
  go_wp2_with fail
  have hcall := c_snap H C3.out B3.out.size (1, 1) ⟨by decide, by decide⟩
  rw [wk2] at hcall
  refine hcall.mono ?_
  clear hcall
  rintro e W4 ⟨rfl, c4, b4⟩
  dsimp only at c4
  have B4 := Lib.hid (B3.out.trans b4)
  have C4 := Lib.hid c4
  clear b4 c4 B3 C3 
  dsimp only
  go_wp2_with fail
  refine (HD.out W4).mono ?_
  rintro e W5 ⟨rfl, b5⟩
  have B5 := Lib.hid (below_step B4.out b5)
  have C5 := Lib.hid (Ch.below H C4.out b5)
  clear C4
  clear b5 B4 
  go_wp2_with fail
  have hcall := c_write H C5.out B5.out.size 1 la (by unfold b64; omega)
  rw [wk3] at hcall
  refine hcall.mono ?_
  clear hcall
  rintro e W6 ⟨rfl, c6, b6⟩
  dsimp only at c6
  have B6 := Lib.hid (B5.out.trans b6)
  have C6 := Lib.hid c6
  clear b6 c6 B5 C5 
  dsimp only
  go_wp2_with fail
  refine (guid_any 1 1 W6).mono ?_
  rintro e W7 ⟨rfl, b7⟩
  have B7 := Lib.hid (below_step B6.out b7)
  have C7 := Lib.hid (Ch.below H C6.out b7)
  clear C6
  clear b7 B6 
  go_wp2_with fail
  have hcall := c_read H C7.out (1, 1) ⟨by decide, by decide⟩
  rw [wk4.1] at hcall
  refine (hcall).mono ?_
  rintro e W8 ⟨A8, c8, rfl, ht8, -, b8⟩
  clear hcall
  have T8 := Lib.hid ht8
  dsimp only at T8
  clear ht8
  have B8 := Lib.hid (below_step B7.out b8)
  have C8 := Lib.hid (Ch.below H C7.out b8)
  clear C7
  clear b8 B7 
  dsimp only
  go_wp2_with fail
  refine (blocks_any _ _ [la, zz] _ W8 T8.out (by decide) wv1.1).mono ?_
  rintro e W9 ⟨rfl, b9⟩
  have K10 := Lib.hid (TxL.below T8.out b9)
  clear T8
  have B9 := Lib.hid (below_step B8.out b9)
  have C9 := Lib.hid (Ch.below H C8.out b9)
  clear C8
  clear b9 B8 
  clear K10
  go_wp2_with fail
  have hcall := c_live H C9.out
  rw [wk4.2] at hcall
  refine (hcall).mono ?_
  rintro e W11 ⟨A11, c11, rfl, ht11, -, b11⟩
  clear hcall
  have T11 := Lib.hid ht11
  clear ht11
  have B11 := Lib.hid (below_step B9.out b11)
  have C11 := Lib.hid (Ch.below H C9.out b11)
  clear C9
  clear b11 B9 
  go_wp2_with fail
  refine (blocks_any _ _ [la, la] _ W11 T11.out (by decide) wv1.2).mono ?_
  rintro e W12 ⟨rfl, b12⟩
  have K13 := Lib.hid (TxL.below T11.out b12)
  clear T11
  have B12 := Lib.hid (below_step B11.out b12)
  have C12 := Lib.hid (Ch.below H C11.out b12)
  clear C11
  clear b12 B11 
  clear K13
  go_wp2_with fail
  refine (guid_any 1 2 W12).mono ?_
  rintro e W14 ⟨rfl, b14⟩
  have B14 := Lib.hid (below_step B12.out b14)
  have C14 := Lib.hid (Ch.below H C12.out b14)
  clear C12
  clear b14 B12 
  go_wp2_with fail
  refine (HD.out W14).mono ?_
  rintro e W15 ⟨rfl, b15⟩
  have B15 := Lib.hid (below_step B14.out b15)
  have C15 := Lib.hid (Ch.below H C14.out b15)
  clear C14
  clear b15 B14 
  have cu := Ch.upto H C15.out
  have b16 := (Below.refl W15.heap.size W15).alloc (Nat.le_refl _) (.cells #[.int .i64 1, .string (str la)] 60)
  obtain ⟨W16, hW16⟩ : ∃ x, W15.alloc (.cells #[.int .i64 1, .string (str la)] 60) = x := ⟨_, rfl⟩
  have hx := chl_one W15 1 la (by unfold b64; omega)
  have hu := ChU.below H cu b16
  have B16 := Lib.hid (below_step B15.out b16)
  rw [hW16] at hx hu B16
  have HX := Lib.hid hx
  have HU := Lib.hid hu
  clear hx hu cu b16 B15 C15
  go_wp2_with fail
  have hcall := c_add H HU.out B16.out.size (1, 2) ⟨by decide, by decide⟩ _ 1 [(1, la)] HX.out (by decide) (fun b o e => by cases e; exact .inr (Nat.le_refl _))
  rw [wk5] at hcall
  refine hcall.mono ?_
  clear hcall
  rintro e W17 ⟨rfl, c17, b17⟩
  dsimp only at c17
  have B17 := Lib.hid (B16.out.trans b17)
  have C17 := Lib.hid c17
  clear b17 c17 HX HU B16 hW16
  dsimp only
  go_wp2_with fail
  have hcall := c_changes H C17.out 0 (by unfold b64; omega)
  rw [wk6.1] at hcall
  refine (hcall).mono ?_
  rintro e W18 ⟨A18, c18, rfl, ht18, -, b18⟩
  clear hcall
  have T18 := Lib.hid ht18
  dsimp only at T18
  clear ht18
  have B18 := Lib.hid (below_step B17.out b18)
  have C18 := Lib.hid (Ch.below H C17.out b18)
  clear C17
  clear b18 B17 
  dsimp only [List.length_nil, List.length_cons, Nat.reduceAdd, Nat.zero_add]
  go_wp2_with fail
  have hcall := c_changes H C18.out 1 (by unfold b64; omega)
  rw [wk6.2.1] at hcall
  refine (hcall).mono ?_
  rintro e W19 ⟨A19, c19, rfl, ht19, -, b19⟩
  clear hcall
  have T19 := Lib.hid ht19
  dsimp only at T19
  clear ht19
  have K20 := Lib.hid (ChL.below T18.out b19)
  clear T18
  have B19 := Lib.hid (below_step B18.out b19)
  have C19 := Lib.hid (Ch.below H C18.out b19)
  clear C18
  clear b19 B18 
  dsimp only [List.length_nil, List.length_cons, Nat.reduceAdd, Nat.zero_add]
  go_wp2_with fail
  have hcall := c_changes H C19.out 2 (by unfold b64; omega)
  rw [wk6.2.2] at hcall
  refine (hcall).mono ?_
  rintro e W21 ⟨A21, c21, rfl, ht21, -, b21⟩
  clear hcall
  clear ht21
  have K22 := Lib.hid (ChL.below K20.out b21)
  clear K20
  have K23 := Lib.hid (ChL.below T19.out b21)
  clear T19
  have B21 := Lib.hid (below_step B19.out b21)
  have C21 := Lib.hid (Ch.below H C19.out b21)
  clear C19
  clear b21 B19 
  dsimp only [List.length_nil, List.length_cons, Nat.reduceAdd, Nat.zero_add]
  go_wp2_with fail
  obtain ⟨bx, ox, hax, lx, x0, x1, -⟩ := K22.out 0 (by decide)
  obtain ⟨by_, oy, hay, ly, y0, y1, -⟩ := K23.out 0 (by decide)
  subst hax
  subst hay
  simp only [Nat.zero_mul, Nat.add_zero, List.getElem_cons_zero] at x0 x1 y0 y1
  obtain ⟨S, hS⟩ : ∃ s, str la = s := ⟨_, rfl⟩
  rw [hS] at y1
  have HSS := Lib.hid hS
  clear hS
  have hq : (S.toList != S.toList) = false := by simp
  have cD : ∀ d os, Calls Try.prog 14 #[.int .u8 97] (grow (redrawn W21 d) os) fun e w'' => e = .returned (.string S) ∧ ∃ q : Regrown, w'' = grow (redrawn W21 q.d) q.os := fun d os => Calls.regrown_of (by rw [← HSS.out]; exact HD.out _)
  have r0 : ∀ d os, (grow (redrawn W21 d) os).cell? ⟨bx, ox, none⟩ = some (.int .i64 0) := fun d os => cell_regrown x0 d os
  have r1 : ∀ d os, (grow (redrawn W21 d) os).cell? ⟨by_, oy, none⟩ = some (.int .i64 1) := fun d os => cell_regrown y0 d os
  have r2 : ∀ d os, (grow (redrawn W21 d) os).cell? ⟨by_, oy + 1, none⟩ = some (.string S) := fun d os => cell_regrown y1 d os
  clear x0 x1 y0 y1 lx ly K22 K23
  refine wp_region_quiet_below hmixed (by kernel_rfl) ?_
  repeat (any_goals (first | go_big_quiet_step (exact cD _ _) | quiet_step (exact cD _ _)))
  refine wpQuiet_nil ?_
  intro _ hw'
  obtain ⟨⟨dq, osq⟩, hw''⟩ := hw'
  subst hw''
  have br := below_regrown W21 dq osq
  have B24 := Lib.hid (below_step B21.out br)
  have C24 := Lib.hid (Ch.below H C21.out br)
  clear r0 r1 r2 cD br HSS B21 C21
  obtain ⟨W24, hW24⟩ : ∃ x, grow (redrawn W21 dq) osq = x := ⟨_, rfl⟩
  rw [hW24] at B24 C24 ⊢
  clear hW24
  go_wp2_with fail
  refine (guid_any 1 2 W24).mono ?_
  rintro e W25 ⟨rfl, b25⟩
  have B25 := Lib.hid (below_step B24.out b25)
  have C25 := Lib.hid (Ch.below H C24.out b25)
  clear C24
  clear b25 B24 
  go_wp2_with fail
  have hcall := c_snap H C25.out B25.out.size (1, 2) ⟨by decide, by decide⟩
  rw [wk7.1] at hcall
  refine hcall.mono ?_
  clear hcall
  rintro e W26 ⟨rfl, c26, b26⟩
  dsimp only at c26
  have B26 := Lib.hid (B25.out.trans b26)
  have C26 := Lib.hid c26
  clear b26 c26 B25 C25 
  dsimp only
  go_wp2_with fail
  refine (guid_any 0 0 W26).mono ?_
  rintro e W27 ⟨rfl, b27⟩
  have B27 := Lib.hid (below_step B26.out b27)
  have C27 := Lib.hid (Ch.below H C26.out b27)
  clear C26
  clear b27 B26 
  go_wp2_with fail
  have hcall := c_snap H C27.out B27.out.size (0, 0) ⟨by decide, by decide⟩
  rw [wk7.2.1] at hcall
  refine hcall.mono ?_
  clear hcall
  rintro e W28 ⟨rfl, c28, b28⟩
  dsimp only at c28
  have B28 := Lib.hid (B27.out.trans b28)
  have C28 := Lib.hid c28
  clear b28 c28 B27 C27 
  dsimp only
  go_wp2_with fail
  refine (guid_any 2 1 W28).mono ?_
  rintro e W29 ⟨rfl, b29⟩
  have B29 := Lib.hid (below_step B28.out b29)
  have C29 := Lib.hid (Ch.below H C28.out b29)
  clear C28
  clear b29 B28 
  have b30 := (Below.refl W29.heap.size W29).alloc (Nat.le_refl _) (.cells #[.int .i64 1, .int .u8 97, .int .i64 0, .int .u8 97] 65)
  obtain ⟨W30, hW30⟩ : ∃ x, W29.alloc (.cells #[.int .i64 1, .int .u8 97, .int .i64 0, .int .u8 97] 65) = x := ⟨_, rfl⟩
  have hx : PtL _ _ [((1 : Int), (97 : UInt8)), (0, 97)] := ptl_two W29 1 0 97 97 (by unfold b64; omega) (by unfold b64; omega)
  have hu := Ch.below H C29.out b30
  have B30 := Lib.hid (below_step B29.out b30)
  replace hW30 : W29.alloc (.cells #[.int .i64 1, .int .u8 ((97 : UInt8).toNat : Int), .int .i64 0, .int .u8 ((97 : UInt8).toNat : Int)] 65) = W30 := hW30
  rw [hW30] at hx
  replace hW30 : W29.alloc (.cells #[.int .i64 1, .int .u8 97, .int .i64 0, .int .u8 97] 65) = W30 := hW30
  rw [hW30] at hu B30
  have HX := Lib.hid hx
  have C30 := Lib.hid hu
  clear hx hu b30 B29 C29
  go_wp2_with fail
  have cu := Lib.hid (Ch.upto H C30.out)
  refine (changes_any _ 2 [((1 : Int), (97 : UInt8)), (0, 97)] W30 HX.out (by decide)).mono ?_
  rintro e W31 ⟨v31, rfl, ho31, b31⟩
  have hu := ChU.below H cu.out b31
  obtain ⟨A31, c31, rfl, hx31, hn31⟩ := ho31.view2 (by intro x hx; simp [chOf] at hx; rcases hx with rfl | rfl <;> (unfold b64; omega))
  have HY : Hid (ChL W31 A31 [(1, la), (0, la)]) := hx31
  have HN := Lib.hid hn31
  have HU := Lib.hid hu
  clear hu ho31 hx31 hn31 cu HX
  have B31 := Lib.hid (below_step B30.out b31)
  have C31 := Lib.hid (Ch.below H C30.out b31)
  clear C30
  clear b31 B30 hW30
  rw [show (chOf [((1 : Int), (97 : UInt8)), (0, 97)]).length = 2 from rfl]
  go_wp2_with fail
  have hcall := c_add H HU.out B31.out.size (2, 1) ⟨by decide, by decide⟩ A31 c31 [(1, la), (0, la)] HY.out (by decide) (fun b o e => .inr (HN.out b o e).1)
  rw [wk7.2.2] at hcall
  refine hcall.mono ?_
  clear hcall
  rintro e W32 ⟨rfl, c32, b32⟩
  dsimp only at c32
  have B32 := Lib.hid (B31.out.trans b32)
  have C32 := Lib.hid c32
  clear b32 c32 HY HN HU B31 C31
  dsimp only
  go_wp2_with fail
  refine (guid_any 1 1 W32).mono ?_
  rintro e W33 ⟨rfl, b33⟩
  have B33 := Lib.hid (below_step B32.out b33)
  have C33 := Lib.hid (Ch.below H C32.out b33)
  clear C32
  clear b33 B32 
  go_wp2_with fail
  have hcall := c_hide H C33.out B33.out.size (1, 1) ⟨by decide, by decide⟩
  rw [wk8.1] at hcall
  refine hcall.mono ?_
  clear hcall
  rintro e W34 ⟨rfl, c34, b34⟩
  dsimp only at c34
  have B34 := Lib.hid (B33.out.trans b34)
  have C34 := Lib.hid c34
  clear b34 c34 B33 C33 
  dsimp only
  go_wp2_with fail
  refine (guid_any 1 1 W34).mono ?_
  rintro e W35 ⟨rfl, b35⟩
  have B35 := Lib.hid (below_step B34.out b35)
  have C35 := Lib.hid (Ch.below H C34.out b35)
  clear C34
  clear b35 B34 
  go_wp2_with fail
  have hcall := c_hide H C35.out B35.out.size (1, 1) ⟨by decide, by decide⟩
  rw [wk8.2.1] at hcall
  refine hcall.mono ?_
  clear hcall
  rintro e W36 ⟨rfl, c36, b36⟩
  dsimp only at c36
  have B36 := Lib.hid (B35.out.trans b36)
  have C36 := Lib.hid c36
  clear b36 c36 B35 C35 
  dsimp only
  go_wp2_with fail
  refine (guid_any 1 1 W36).mono ?_
  rintro e W37 ⟨rfl, b37⟩
  have B37 := Lib.hid (below_step B36.out b37)
  have C37 := Lib.hid (Ch.below H C36.out b37)
  clear C36
  clear b37 B36 
  go_wp2_with fail
  have hcall := c_read H C37.out (1, 1) ⟨by decide, by decide⟩
  rw [wk8.2.2.1] at hcall
  refine (hcall).mono ?_
  rintro e W38 ⟨A38, c38, rfl, -, -, b38⟩
  clear hcall
  have B38 := Lib.hid (below_step B37.out b38)
  have C38 := Lib.hid (Ch.below H C37.out b38)
  clear C37
  clear b38 B37 
  dsimp only [List.length_nil]
  go_wp2_with fail
  refine (guid_any 3 1 W38).mono ?_
  rintro e W39 ⟨rfl, b39⟩
  have B39 := Lib.hid (below_step B38.out b39)
  have C39 := Lib.hid (Ch.below H C38.out b39)
  clear C38
  clear b39 B38 
  go_wp2_with fail
  have hcall := c_read H C39.out (3, 1) ⟨by decide, by decide⟩
  rw [wk8.2.2.2] at hcall
  refine (hcall).mono ?_
  rintro e W40 ⟨A40, c40, rfl, -, -, b40⟩
  clear hcall
  have B40 := Lib.hid (below_step B39.out b40)
  have C40 := Lib.hid (Ch.below H C39.out b40)
  clear C39
  clear b40 B39 
  dsimp only [List.length_nil]
  go_wp2_with fail
  have hcall := c_roll H C40.out B40.out.size 1 (by unfold b64; omega)
  rw [wk9.1] at hcall
  refine hcall.mono ?_
  clear hcall
  rintro e W41 ⟨rfl, c41, b41⟩
  dsimp only at c41
  have B41 := Lib.hid (B40.out.trans b41)
  have C41 := Lib.hid c41
  clear b41 c41 B40 C40 
  dsimp only
  go_wp2_with fail
  have hcall := c_live H C41.out
  rw [wk9.2.1] at hcall
  refine (hcall).mono ?_
  rintro e W42 ⟨A42, c42, rfl, ht42, -, b42⟩
  clear hcall
  have T42 := Lib.hid ht42
  clear ht42
  have B42 := Lib.hid (below_step B41.out b42)
  have C42 := Lib.hid (Ch.below H C41.out b42)
  clear C41
  clear b42 B41 
  go_wp2_with fail
  refine (blocks_any _ _ [la, zz] _ W42 T42.out (by decide) wv1.1).mono ?_
  rintro e W43 ⟨rfl, b43⟩
  have K44 := Lib.hid (TxL.below T42.out b43)
  clear T42
  have B43 := Lib.hid (below_step B42.out b43)
  have C43 := Lib.hid (Ch.below H C42.out b43)
  clear C42
  clear b43 B42 
  clear K44
  go_wp2_with fail
  have hcall := c_list H C43.out
  rw [wk9.2.2] at hcall
  refine (hcall).mono ?_
  rintro e W45 ⟨A45, c45, rfl, -, -, b45⟩
  clear hcall
  have B45 := Lib.hid (below_step B43.out b45)
  have C45 := Lib.hid (Ch.below H C43.out b45)
  clear C43
  clear b45 B43 
  dsimp only [List.length_nil, List.length_cons, Nat.reduceAdd, Nat.zero_add]
  go_wp2_with fail
  go_ret
  exact ⟨rfl, B45.out⟩
end Go.Proofs.Ytfinmfmbbgakhaa.ch

/- A slice of structs whose fields are one cell each, opened at every index and field. Nothing here speaks of the program. -/
namespace Go.Proofs.Ytfinmfmbbgakhaa
open Go Go.ChangeShapes Go.WideShapes Go.Deep
set_option maxRecDepth 100000

theorem open_slice_fields {H : Type} {enc : TypeId × Value → H} {P : Program} {w : World} {base : Nat} {spare : Nat → Bool} {held : Bool} {t e : TypeId} {fs : Array Field} {fuel : Nat} {cs : List Value} {x : DataW H × List MemPlace}
    (ht : P.underlying t = some (.slice e)) (he : P.underlying e = some (.struct fs)) (hone : ∀ (i : Nat) (f : Field), fs[i]? = some f → f.offset = i ∧ P.cellsOf f.type = 1) (ce : P.cellsOf e = fs.size)
    (h : DataW.trod enc P w base spare held fuel t cs = some x) :
    (cs = [.slice none 0 0] ∧ x = (.nil, [])) ∨
    ∃ (a : Addr) (len cap m : Nat), cs = [.slice (some a) len cap] ∧ base ≤ a.block ∧ len ≤ cap ∧ cap ≤ maxLen ∧ m = (if spare a.block then cap else len) ∧
      ∀ i, i < m → ∀ k f, fs[k]? = some f → ∃ v y n, w.cell? (a.add (i * fs.size + k)) = some v ∧ DataW.trod enc P w base spare held n f.type [v] = some y := by
  rcases open_slice ht h with h0 | ⟨a, len, cap, m, n, D, Pl, rfl, hb, hl, hm, hmm, rfl, hx⟩
  · exact Or.inl h0
  right
  refine ⟨a, len, cap, m, rfl, hb, hl, hm, hmm, fun i hi k f hk => ?_⟩
  obtain ⟨cs', h1, h2⟩ := hx i hi
  rw [ce] at h1
  obtain ⟨_, hlen, hcell⟩ := World.cells?_some h1
  obtain ⟨xs, n', _, _, _, hxl, hf⟩ := DataW.trod_struct he h2
  have hlt : k < fs.size := (Array.getElem?_eq_some_iff.1 hk).1
  obtain ⟨ho, hc1⟩ := hone k f hk
  have g := hf k f hk
  rw [ho, hc1, take1_drop cs' k undef (by omega), List.getElem?_eq_getElem (by omega)] at g
  have hcl := hcell k hlt
  rw [add_add, List.getElem?_eq_getElem (by omega)] at hcl
  refine ⟨cs'.getD k undef, _, n', ?_, g⟩
  rw [hcl]
  simp [List.getD, List.getElem?_eq_getElem (show k < cs'.length by omega)]
end Go.Proofs.Ytfinmfmbbgakhaa

/- What comes in for the statements on chains: puts, lists of puts, guids. -/
namespace Go.Proofs.Ytfinmfmbbgakhaa.ch
open Go Go.RowKit Go.ChangeShapes Go.WideShapes Go.Deep Go.Proofs.Ytfinmfmbbgakhaa.ib
set_option maxRecDepth 100000

theorem spot0 {w : World} {a : Addr} {v : Value} (h : w.cell? (a.add 0) = some v) : ∃ b o, a = ⟨b, o, none⟩ ∧ b < w.heap.size := by
  have hs := World.cell?_spot h
  obtain ⟨b, o, s⟩ := a
  have hs0 : s = none := by simpa [Addr.add] using hs
  subst hs0
  exact ⟨b, o, rfl, World.block_lt_of_cell? w _ h⟩

theorem choose_list {α : Type} {p : Nat → α → Prop} : ∀ (n : Nat), (∀ i, i < n → ∃ x, p i x) → ∃ l : List α, l.length = n ∧ ∀ i (h : i < l.length), p i l[i]
  | 0, _ => ⟨[], rfl, fun i h => absurd h (by simp)⟩
  | n + 1, h => by
    obtain ⟨l, hl, hp⟩ := choose_list n (fun i hi => h i (by omega))
    obtain ⟨x, hx⟩ := h n (by omega)
    refine ⟨l ++ [x], by simp [hl], fun i hi => ?_⟩
    by_cases hin : i < l.length
    · rw [List.getElem_append_left hin]
      exact hp i hin
    · have : i = l.length := by simp at hi; omega
      subst this
      rw [List.getElem_append_right (Nat.le_refl _)]
      simpa [hl] using hx

theorem u8_of {x : Int} (h : (Lit.int .u8 x).wf = true) : ∃ c : UInt8, x = (c.toNat : Int) := by
  have hb := bounds_u8 h
  exact ⟨UInt8.ofNat x.toNat, by rw [UInt8.toNat_ofNat']; omega⟩
theorem u64_of {x : Int} (h : (Lit.int .u64 x).wf = true) : ∃ c : Nat, x = (c : Int) ∧ c < 18446744073709551616 := by
  have hb := bounds_u64 h
  exact ⟨x.toNat, by omega, by omega⟩
theorem hone_of {P : Program} {fs : Array Field} (h : (List.range fs.size).all (fun i => match fs[i]? with | some f => decide (f.offset = i) && decide (P.cellsOf f.type = 1) | none => true) = true) : ∀ (i : Nat) (f : Field), fs[i]? = some f → f.offset = i ∧ P.cellsOf f.type = 1 := by
  intro i f hf
  have hi := (Array.getElem?_eq_some_iff.1 hf).1
  have := List.all_eq_true.1 h i (List.mem_range.2 hi)
  rw [hf] at this
  simpa using this

def PssL (w : World) (a : Option Addr) (zss : List (List (Int × UInt8))) : Prop :=
  ∀ i (h : i < zss.length), ∃ b o A c, a = some ⟨b, o, none⟩ ∧ b < w.heap.size ∧ w.cell? ⟨b, o + i, none⟩ = some (.slice A zss[i].length c) ∧ PtL w A zss[i] ∧ zss[i].length ≤ 9223372036854775807

section
variable {H : Type} {enc : TypeId × Value → H} {w : World} {held : Bool} {a : Option Addr} {l c : Nat} {d : DataW H} {pl : List MemPlace}

theorem puts8_cells {n : Nat} {v : Value} {y : DataW H × List MemPlace} (h : DataW.trod enc Try.prog w 0 (fun _ => true) held n 38 [v] = some y) : ∃ (A : Option Addr) (zs : List (Int × UInt8)) (c : Nat), v = .slice A zs.length c ∧ PtL w A zs ∧ zs.length ≤ 9223372036854775807 := by
  rcases open_slice_fields Try.underlying38 Try.underlying65 (hone_of (by kernel_rfl)) (by kernel_rfl) h with ⟨hcs, _⟩ | ⟨x, l', c', m, hcs, _, hl, hm, hmm, hi⟩
  · simp at hcs
    subst hcs
    exact ⟨none, [], 0, rfl, fun i h => absurd h (by simp), by simp⟩
  · simp at hcs
    subst hcs
    simp only [if_true] at hmm
    subst hmm
    unfold maxLen at hm
    obtain ⟨zs, hzl, hz⟩ := choose_list (p := fun i (z : Int × UInt8) => w.cell? (x.add (i * 2)) = some (.int .i64 z.1) ∧ w.cell? (x.add (i * 2 + 1)) = some (.int .u8 (z.2.toNat : Int)) ∧ b64 z.1) l' (fun i hil => by
      obtain ⟨v0, y0, n0, e0, g0⟩ := hi i (by omega) 0 _ rfl
      obtain ⟨v1, y1, n1, e1, g1⟩ := hi i (by omega) 1 _ rfl
      obtain ⟨k0, h0, _, b0⟩ := DataW.trod_int Try.underlying3 g0
      obtain ⟨k1, h1, _, b1⟩ := DataW.trod_int Try.underlying5 g1
      obtain ⟨c1, rfl⟩ := u8_of b1
      obtain rfl : v0 = _ := by simpa using h0
      obtain rfl : v1 = _ := by simpa using h1
      exact ⟨⟨k0, c1⟩, e0, e1, bounds_i64 b0⟩)
    subst hzl
    refine ⟨some x, zs, _, rfl, fun i hil => ?_, by omega⟩
    have h0 := (hz 0 (by omega)).1
    rw [Nat.zero_mul] at h0
    obtain ⟨b, o, rfl, hb⟩ := spot0 h0
    have := hz i hil
    rw [addr_add, addr_add] at this
    simp only [Nat.add_assoc] at this ⊢
    exact ⟨b, o, rfl, hb, this⟩

theorem pss8_of (h : DataW.Trod enc Try.prog w 0 (fun _ => true) held 43 (.slice a l c) d pl) : ∃ zs : List (List (Int × UInt8)), zs.length = l ∧ l ≤ 9223372036854775807 ∧ PssL w a zs := by
  obtain ⟨fuel, hf⟩ := h
  rcases open_slice1 Try.underlying43 (by kernel_rfl) hf with ⟨hcs, _⟩ | ⟨x, l', c', m, n, V, D, Pl, hcs, _, hl, hm, hmm, _, hi⟩
  · simp [Value.cells] at hcs
    obtain ⟨rfl, rfl, rfl⟩ := hcs
    exact ⟨[], rfl, by omega, fun i h => absurd h (by simp)⟩
  · simp [Value.cells] at hcs
    obtain ⟨rfl, rfl, rfl⟩ := hcs
    simp only [if_true] at hmm
    subst hmm
    unfold maxLen at hm
    obtain ⟨zs, hzl, hz⟩ := choose_list (p := fun i (z : List (Int × UInt8)) => ∃ A k, w.cell? (x.add i) = some (.slice A z.length k) ∧ PtL w A z ∧ z.length ≤ 9223372036854775807) l (fun i hil => by
      obtain ⟨h1, h2⟩ := hi i (by omega)
      obtain ⟨A, z, k, h3, h4, h5⟩ := puts8_cells h2
      exact ⟨z, A, k, by rw [h1, h3], h4, h5⟩)
    refine ⟨zs, hzl, by omega, fun i hil => ?_⟩
    obtain ⟨_, _, h0, _⟩ := hz 0 (by omega)
    obtain ⟨b, o, rfl, hb⟩ := spot0 h0
    obtain ⟨A, k, h1, h2, h3⟩ := hz i hil
    rw [addr_add] at h1
    exact ⟨b, o, A, k, rfl, hb, h1, h2, h3⟩

theorem gds_of (h : DataW.Trod enc Try.prog w 0 (fun _ => true) held 57 (.slice a l c) d pl) : ∃ zs : List Gd, zs.length = l ∧ l ≤ 9223372036854775807 ∧ GdL w a zs := by
  obtain ⟨fuel, hf⟩ := h
  rcases open_slice_fields Try.underlying57 Try.underlying37 (hone_of (by kernel_rfl)) (by kernel_rfl) hf with ⟨hcs, _⟩ | ⟨x, l', c', m, hcs, _, hl, hm, hmm, hi⟩
  · simp [Value.cells] at hcs
    obtain ⟨rfl, rfl, rfl⟩ := hcs
    exact ⟨[], rfl, by omega, fun i h => absurd h (by simp)⟩
  · simp [Value.cells] at hcs
    obtain ⟨rfl, rfl, rfl⟩ := hcs
    simp only [if_true] at hmm
    subst hmm
    unfold maxLen at hm
    obtain ⟨zs, hzl, hz⟩ := choose_list (p := fun i (z : Gd) => w.cell? (x.add (i * 2)) = some (.int .u64 (z.1 : Int)) ∧ w.cell? (x.add (i * 2 + 1)) = some (.int .u64 (z.2 : Int)) ∧ gdB z) l (fun i hil => by
      obtain ⟨v0, y0, n0, e0, g0⟩ := hi i (by omega) 0 _ rfl
      obtain ⟨v1, y1, n1, e1, g1⟩ := hi i (by omega) 1 _ rfl
      obtain ⟨k0, h0, _, b0⟩ := DataW.trod_int Try.underlying35 g0
      obtain ⟨k1, h1, _, b1⟩ := DataW.trod_int Try.underlying35 g1
      obtain ⟨c0, rfl, l0⟩ := u64_of b0
      obtain ⟨c1, rfl, l1⟩ := u64_of b1
      obtain rfl : v0 = _ := by simpa using h0
      obtain rfl : v1 = _ := by simpa using h1
      exact ⟨⟨c0, c1⟩, e0, e1, l0, l1⟩)
    refine ⟨zs, hzl, by omega, fun i hil => ?_⟩
    have h0 := (hz 0 (by omega)).1
    rw [Nat.zero_mul] at h0
    obtain ⟨b, o, rfl, hb⟩ := spot0 h0
    have := hz i hil
    rw [addr_add, addr_add] at this
    simp only [Nat.add_assoc] at this ⊢
    exact ⟨b, o, rfl, hb, this⟩
end
end Go.Proofs.Ytfinmfmbbgakhaa.ch

