/- ChainKnown: the chapter's examples, limits, chains that are none. -/
import Derived.Test.YtfinmfmbbgakhaaQ12
import Derived.Test.YtfinmfmbbgakhaaQ13
import Derived.Test.YtfinmfmbbgakhaaRows
import Derived.Deep.DeepHandedRow
import Derived.ProofKit
import Derived.OpenShut
import Derived.ShutString
import Derived.SizedLaws
/- The walk of ChainKnown (written by a script). -/
namespace Go.Proofs.Ytfinmfmbbgakhaa.ch
open Go Go.RowKit Go.Sort Go.Proofs.Ytfinmfmbbgakhaa.ib
set_option maxRecDepth 100000

def lb : Bt := dat 98
def lc : Bt := dat 99
def kv : List Bt := [la, zz, zz, zz, zz, zz, zz, lb]
def q1 : CH := ⟨kv, [⟨(0, 1), kv, false⟩]⟩
def q2 : CH := ⟨kv, [⟨(0, 1), kv, true⟩]⟩
def q3 : CH := ⟨[lc, zz, zz, zz, zz, zz, zz, lb], [⟨(0, 1), kv, true⟩]⟩
def q4 : CH := ⟨kv, [⟨(0, 1), kv, true⟩, ⟨(1, 0), kv, false⟩]⟩
theorem kv_len : kv.length = 8 := rfl
theorem kv_is : volOf (bl ⟨#[97, 48, 48, 48, 48, 48, 48, 98]⟩) = kv := by kernel_rfl
theorem kk1 : (chNew 8).write 8 la = (chNew 8, 2) := by kernel_rfl
theorem kk2 : (chNew 8).write (-1) la = (chNew 8, 2) := by kernel_rfl
theorem kk3 : (chNew 8).write 0 [97] = (chNew 8, 2) := by kernel_rfl
theorem kk4 : (chNew 8).roll 1 = (chNew 8, 2) := by kernel_rfl
theorem kk5 : (chNew 8).roll (-1) = (chNew 8, 2) := by kernel_rfl
theorem kk6 : (chNew 8).add (0, 1) (chOf [((0 : Int), (97 : UInt8)), ((0 : Int), (98 : UInt8))]) = (chNew 8, 2) := by kernel_rfl
theorem kk7 : (chNew 8).add (0, 1) (chOf [((8 : Int), (97 : UInt8))]) = (chNew 8, 2) := by kernel_rfl
theorem kk8 : (chNew 8).add (0, 1) (chOf [((0 : Int), (255 : UInt8))]) = (chNew 8, 2) := by kernel_rfl
theorem kk9 : (chNew 8).add (0, 1) (chOf [((0 : Int), (97 : UInt8)), ((7 : Int), (98 : UInt8))]) = (q1, 0) := by kernel_rfl
theorem kk10 : q1.hide (0, 1) = (q2, 0) := by kernel_rfl
theorem kk11 : q2.changes 0 = ([(0, la), (7, lb)], 0) := by kernel_rfl
theorem kk12 : q2.write 0 lc = (q3, 0) := by kernel_rfl
theorem kk13 : q3.add (1, 0) [] = (q4, 0) := by kernel_rfl
theorem kk14 : q4.live = kv := rfl
theorem kk15 : q4.changes 1 = ([], 0) ∧ q4.changes (-1) = ([], 5) := by refine ⟨?_, ?_⟩ <;> kernel_rfl

set_option maxHeartbeats 25600000 in
theorem chainKnown_walk {Is : IsT} (H : Impl Is) (w : World) : Calls Try.prog 7 #[] w (okTrue w) := by
  have HD : Hid (∀ W, Calls Try.prog 14 #[.int .u8 97] W (okS la W)) := fun W => data_any 97 W
  have HDC : Hid (∀ W, Calls Try.prog 14 #[.int .u8 99] W (okS lc W)) := fun W => data_any 99 W
  go_enter Try.func7, Try.ntmps7
  go_wp2_with fail
  refine (H.new_some 8 w (by decide) (by decide)).mono ?_
  rintro e V ⟨p, own, rfl, hi, hb, ho⟩
  have B0 := Lib.hid hb
  have C0 : Hid (Ch Is V w.heap.size p (chNew 8)) := ⟨own, hi, ho⟩
  clear hi hb ho
  go_wp2_with fail
  refine (HD.out V).mono ?_
  rintro e W1 ⟨rfl, b1⟩
  have B1 := Lib.hid (below_step B0.out b1)
  have C1 := Lib.hid (Ch.below H C0.out b1)
  clear C0
  clear b1 B0 
  go_wp2_with fail
  have hcall := c_write H C1.out B1.out.size 8 la (by unfold b64; omega)
  rw [kk1] at hcall
  refine hcall.mono ?_
  clear hcall
  rintro e W2 ⟨rfl, c2, b2⟩
  dsimp only at c2
  have B2 := Lib.hid (B1.out.trans b2)
  have C2 := Lib.hid c2
  clear b2 c2 B1 C1 
  dsimp only
  go_wp2_with fail
  refine (HD.out W2).mono ?_
  rintro e W3 ⟨rfl, b3⟩
  have B3 := Lib.hid (below_step B2.out b3)
  have C3 := Lib.hid (Ch.below H C2.out b3)
  clear C2
  clear b3 B2 
  go_wp2_with fail
  have hcall := c_write H C3.out B3.out.size (-1) la (by unfold b64; omega)
  rw [kk2] at hcall
  refine hcall.mono ?_
  clear hcall
  rintro e W4 ⟨rfl, c4, b4⟩
  dsimp only at c4
  have B4 := Lib.hid (B3.out.trans b4)
  have C4 := Lib.hid c4
  clear b4 c4 B3 C3 
  dsimp only
  go_wp2_with fail
  have hcall := c_write H C4.out B4.out.size 0 [97] (by unfold b64; omega)
  rw [kk3] at hcall
  refine hcall.mono ?_
  clear hcall
  rintro e W5 ⟨rfl, c5, b5⟩
  dsimp only at c5
  have B5 := Lib.hid (B4.out.trans b5)
  have C5 := Lib.hid c5
  clear b5 c5 B4 C4 
  dsimp only
  go_wp2_with fail
  have hcall := c_roll H C5.out B5.out.size 1 (by unfold b64; omega)
  rw [kk4] at hcall
  refine hcall.mono ?_
  clear hcall
  rintro e W6 ⟨rfl, c6, b6⟩
  dsimp only at c6
  have B6 := Lib.hid (B5.out.trans b6)
  have C6 := Lib.hid c6
  clear b6 c6 B5 C5 
  dsimp only
  go_wp2_with fail
  have hcall := c_roll H C6.out B6.out.size (-1) (by unfold b64; omega)
  rw [kk5] at hcall
  refine hcall.mono ?_
  clear hcall
  rintro e W7 ⟨rfl, c7, b7⟩
  dsimp only at c7
  have B7 := Lib.hid (B6.out.trans b7)
  have C7 := Lib.hid c7
  clear b7 c7 B6 C6 
  dsimp only
  go_wp2_with fail
  refine (guid_any 0 1 W7).mono ?_
  rintro e W8 ⟨rfl, b8⟩
  have B8 := Lib.hid (below_step B7.out b8)
  have C8 := Lib.hid (Ch.below H C7.out b8)
  clear C7
  clear b8 B7 
  have b9 := (Below.refl W8.heap.size W8).alloc (Nat.le_refl _) (.cells #[.int .i64 0, .int .u8 97, .int .i64 0, .int .u8 98] 65)
  obtain ⟨W9, hW9⟩ : ∃ x, W8.alloc (.cells #[.int .i64 0, .int .u8 97, .int .i64 0, .int .u8 98] 65) = x := ⟨_, rfl⟩
  have hx : PtL _ _ [((0 : Int), (97 : UInt8)), ((0 : Int), (98 : UInt8))] := ptl_two W8 0 0 97 98 (by unfold b64; omega) (by unfold b64; omega)
  have hu := Ch.below H C8.out b9
  have B9 := Lib.hid (below_step B8.out b9)
  replace hW9 : W8.alloc (.cells #[.int .i64 0, .int .u8 ((97 : UInt8).toNat : Int), .int .i64 0, .int .u8 ((98 : UInt8).toNat : Int)] 65) = W9 := hW9
  rw [hW9] at hx
  replace hW9 : W8.alloc (.cells #[.int .i64 0, .int .u8 97, .int .i64 0, .int .u8 98] 65) = W9 := hW9
  rw [hW9] at hu B9
  have HX := Lib.hid hx
  have C9 := Lib.hid hu
  clear hx hu b9 B8 C8
  go_wp2_with fail
  have cu := Lib.hid (Ch.upto H C9.out)
  refine (changes_any _ 2 [((0 : Int), (97 : UInt8)), ((0 : Int), (98 : UInt8))] W9 HX.out (by decide)).mono ?_
  rintro e W10 ⟨v10, rfl, ho10, b10⟩
  have hu := ChU.below H cu.out b10
  obtain ⟨A10, c10, rfl, hx10, hn10⟩ := ho10.view2 (by intro x hx; simp [chOf] at hx; rcases hx with rfl | rfl <;> (unfold b64; omega))
  have HY : Hid (ChL W10 A10 (chOf [((0 : Int), (97 : UInt8)), ((0 : Int), (98 : UInt8))])) := hx10
  have HN := Lib.hid hn10
  have HU := Lib.hid hu
  clear hu ho10 hx10 hn10 cu HX
  have B10 := Lib.hid (below_step B9.out b10)
  have C10 := Lib.hid (Ch.below H C9.out b10)
  clear C9
  clear b10 B9 hW9
  rw [show (chOf [((0 : Int), (97 : UInt8)), ((0 : Int), (98 : UInt8))]).length = 2 from rfl]
  go_wp2_with fail
  have hcall := c_add H HU.out B10.out.size (0, 1) ⟨by decide, by decide⟩ A10 c10 (chOf [((0 : Int), (97 : UInt8)), ((0 : Int), (98 : UInt8))]) HY.out (by decide) (fun b o e => .inr (HN.out b o e).1)
  rw [kk6] at hcall
  refine hcall.mono ?_
  clear hcall
  rintro e W11 ⟨rfl, c11, b11⟩
  dsimp only at c11
  have B11 := Lib.hid (B10.out.trans b11)
  have C11 := Lib.hid c11
  clear b11 c11 HY HN HU B10 C10
  dsimp only
  go_wp2_with fail
  refine (guid_any 0 1 W11).mono ?_
  rintro e W12 ⟨rfl, b12⟩
  have B12 := Lib.hid (below_step B11.out b12)
  have C12 := Lib.hid (Ch.below H C11.out b12)
  clear C11
  clear b12 B11 
  have b13 := (Below.refl W12.heap.size W12).alloc (Nat.le_refl _) (.cells #[.int .i64 8, .int .u8 97] 65)
  obtain ⟨W13, hW13⟩ : ∃ x, W12.alloc (.cells #[.int .i64 8, .int .u8 97] 65) = x := ⟨_, rfl⟩
  have hx : PtL _ _ [((8 : Int), (97 : UInt8))] := ptl_one W12 8 97 (by unfold b64; omega)
  have hu := Ch.below H C12.out b13
  have B13 := Lib.hid (below_step B12.out b13)
  replace hW13 : W12.alloc (.cells #[.int .i64 8, .int .u8 ((97 : UInt8).toNat : Int)] 65) = W13 := hW13
  rw [hW13] at hx
  replace hW13 : W12.alloc (.cells #[.int .i64 8, .int .u8 97] 65) = W13 := hW13
  rw [hW13] at hu B13
  have HX := Lib.hid hx
  have C13 := Lib.hid hu
  clear hx hu b13 B12 C12
  go_wp2_with fail
  have cu := Lib.hid (Ch.upto H C13.out)
  refine (changes_any _ 1 [((8 : Int), (97 : UInt8))] W13 HX.out (by decide)).mono ?_
  rintro e W14 ⟨v14, rfl, ho14, b14⟩
  have hu := ChU.below H cu.out b14
  obtain ⟨A14, c14, rfl, hx14, hn14⟩ := ho14.view2 (by intro x hx; simp [chOf] at hx; rcases hx with rfl; unfold b64; omega)
  have HY : Hid (ChL W14 A14 (chOf [((8 : Int), (97 : UInt8))])) := hx14
  have HN := Lib.hid hn14
  have HU := Lib.hid hu
  clear hu ho14 hx14 hn14 cu HX
  have B14 := Lib.hid (below_step B13.out b14)
  have C14 := Lib.hid (Ch.below H C13.out b14)
  clear C13
  clear b14 B13 hW13
  rw [show (chOf [((8 : Int), (97 : UInt8))]).length = 1 from rfl]
  go_wp2_with fail
  have hcall := c_add H HU.out B14.out.size (0, 1) ⟨by decide, by decide⟩ A14 c14 (chOf [((8 : Int), (97 : UInt8))]) HY.out (by decide) (fun b o e => .inr (HN.out b o e).1)
  rw [kk7] at hcall
  refine hcall.mono ?_
  clear hcall
  rintro e W15 ⟨rfl, c15, b15⟩
  dsimp only at c15
  have B15 := Lib.hid (B14.out.trans b15)
  have C15 := Lib.hid c15
  clear b15 c15 HY HN HU B14 C14
  dsimp only
  go_wp2_with fail
  refine (guid_any 0 1 W15).mono ?_
  rintro e W16 ⟨rfl, b16⟩
  have B16 := Lib.hid (below_step B15.out b16)
  have C16 := Lib.hid (Ch.below H C15.out b16)
  clear C15
  clear b16 B15 
  have b17 := (Below.refl W16.heap.size W16).alloc (Nat.le_refl _) (.cells #[.int .i64 0, .int .u8 255] 65)
  obtain ⟨W17, hW17⟩ : ∃ x, W16.alloc (.cells #[.int .i64 0, .int .u8 255] 65) = x := ⟨_, rfl⟩
  have hx : PtL _ _ [((0 : Int), (255 : UInt8))] := ptl_one W16 0 255 (by unfold b64; omega)
  have hu := Ch.below H C16.out b17
  have B17 := Lib.hid (below_step B16.out b17)
  replace hW17 : W16.alloc (.cells #[.int .i64 0, .int .u8 ((255 : UInt8).toNat : Int)] 65) = W17 := hW17
  rw [hW17] at hx
  replace hW17 : W16.alloc (.cells #[.int .i64 0, .int .u8 255] 65) = W17 := hW17
  rw [hW17] at hu B17
  have HX := Lib.hid hx
  have C17 := Lib.hid hu
  clear hx hu b17 B16 C16
  go_wp2_with fail
  have cu := Lib.hid (Ch.upto H C17.out)
  refine (changes_any _ 1 [((0 : Int), (255 : UInt8))] W17 HX.out (by decide)).mono ?_
  rintro e W18 ⟨v18, rfl, ho18, b18⟩
  have hu := ChU.below H cu.out b18
  obtain ⟨A18, c18, rfl, hx18, hn18⟩ := ho18.view2 (by intro x hx; simp [chOf] at hx; rcases hx with rfl; unfold b64; omega)
  have HY : Hid (ChL W18 A18 (chOf [((0 : Int), (255 : UInt8))])) := hx18
  have HN := Lib.hid hn18
  have HU := Lib.hid hu
  clear hu ho18 hx18 hn18 cu HX
  have B18 := Lib.hid (below_step B17.out b18)
  have C18 := Lib.hid (Ch.below H C17.out b18)
  clear C17
  clear b18 B17 hW17
  rw [show (chOf [((0 : Int), (255 : UInt8))]).length = 1 from rfl]
  go_wp2_with fail
  have hcall := c_add H HU.out B18.out.size (0, 1) ⟨by decide, by decide⟩ A18 c18 (chOf [((0 : Int), (255 : UInt8))]) HY.out (by decide) (fun b o e => .inr (HN.out b o e).1)
  rw [kk8] at hcall
  refine hcall.mono ?_
  clear hcall
  rintro e W19 ⟨rfl, c19, b19⟩
  dsimp only at c19
  have B19 := Lib.hid (B18.out.trans b19)
  have C19 := Lib.hid c19
  clear b19 c19 HY HN HU B18 C18
  dsimp only
  go_wp2_with fail
  refine (guid_any 0 1 W19).mono ?_
  rintro e W20 ⟨rfl, b20⟩
  have B20 := Lib.hid (below_step B19.out b20)
  have C20 := Lib.hid (Ch.below H C19.out b20)
  clear C19
  clear b20 B19 
  have b21 := (Below.refl W20.heap.size W20).alloc (Nat.le_refl _) (.cells #[.int .i64 0, .int .u8 97, .int .i64 7, .int .u8 98] 65)
  obtain ⟨W21, hW21⟩ : ∃ x, W20.alloc (.cells #[.int .i64 0, .int .u8 97, .int .i64 7, .int .u8 98] 65) = x := ⟨_, rfl⟩
  have hx : PtL _ _ [((0 : Int), (97 : UInt8)), ((7 : Int), (98 : UInt8))] := ptl_two W20 0 7 97 98 (by unfold b64; omega) (by unfold b64; omega)
  have hu := Ch.below H C20.out b21
  have B21 := Lib.hid (below_step B20.out b21)
  replace hW21 : W20.alloc (.cells #[.int .i64 0, .int .u8 ((97 : UInt8).toNat : Int), .int .i64 7, .int .u8 ((98 : UInt8).toNat : Int)] 65) = W21 := hW21
  rw [hW21] at hx
  replace hW21 : W20.alloc (.cells #[.int .i64 0, .int .u8 97, .int .i64 7, .int .u8 98] 65) = W21 := hW21
  rw [hW21] at hu B21
  have HX := Lib.hid hx
  have C21 := Lib.hid hu
  clear hx hu b21 B20 C20
  go_wp2_with fail
  have cu := Lib.hid (Ch.upto H C21.out)
  refine (changes_any _ 2 [((0 : Int), (97 : UInt8)), ((7 : Int), (98 : UInt8))] W21 HX.out (by decide)).mono ?_
  rintro e W22 ⟨v22, rfl, ho22, b22⟩
  have hu := ChU.below H cu.out b22
  obtain ⟨A22, c22, rfl, hx22, hn22⟩ := ho22.view2 (by intro x hx; simp [chOf] at hx; rcases hx with rfl | rfl <;> (unfold b64; omega))
  have HY : Hid (ChL W22 A22 (chOf [((0 : Int), (97 : UInt8)), ((7 : Int), (98 : UInt8))])) := hx22
  have HN := Lib.hid hn22
  have HU := Lib.hid hu
  clear hu ho22 hx22 hn22 cu HX
  have B22 := Lib.hid (below_step B21.out b22)
  have C22 := Lib.hid (Ch.below H C21.out b22)
  clear C21
  clear b22 B21 hW21
  rw [show (chOf [((0 : Int), (97 : UInt8)), ((7 : Int), (98 : UInt8))]).length = 2 from rfl]
  go_wp2_with fail
  have hcall := c_add H HU.out B22.out.size (0, 1) ⟨by decide, by decide⟩ A22 c22 (chOf [((0 : Int), (97 : UInt8)), ((7 : Int), (98 : UInt8))]) HY.out (by decide) (fun b o e => .inr (HN.out b o e).1)
  rw [kk9] at hcall
  refine hcall.mono ?_
  clear hcall
  rintro e W23 ⟨rfl, c23, b23⟩
  dsimp only at c23
  have B23 := Lib.hid (B22.out.trans b23)
  have C23 := Lib.hid c23
  clear b23 c23 HY HN HU B22 C22
  dsimp only
  go_wp2_with fail
  refine (guid_any 0 1 W23).mono ?_
  rintro e W24 ⟨rfl, b24⟩
  have B24 := Lib.hid (below_step B23.out b24)
  have C24 := Lib.hid (Ch.below H C23.out b24)
  clear C23
  clear b24 B23 
  go_wp2_with fail
  have hcall := c_hide H C24.out B24.out.size (0, 1) ⟨by decide, by decide⟩
  rw [kk10] at hcall
  refine hcall.mono ?_
  clear hcall
  rintro e W25 ⟨rfl, c25, b25⟩
  dsimp only at c25
  have B25 := Lib.hid (B24.out.trans b25)
  have C25 := Lib.hid c25
  clear b25 c25 B24 C24 
  dsimp only
  go_wp2_with fail
  have hcall := c_changes H C25.out 0 (by unfold b64; omega)
  rw [kk11] at hcall
  refine (hcall).mono ?_
  rintro e W26 ⟨A26, c26, rfl, -, -, b26⟩
  clear hcall
  have B26 := Lib.hid (below_step B25.out b26)
  have C26 := Lib.hid (Ch.below H C25.out b26)
  clear C25
  clear b26 B25 
  dsimp only [List.length_nil, List.length_cons, Nat.reduceAdd, Nat.zero_add]
  go_wp2_with fail
  refine (HDC.out W26).mono ?_
  rintro e W27 ⟨rfl, b27⟩
  have B27 := Lib.hid (below_step B26.out b27)
  have C27 := Lib.hid (Ch.below H C26.out b27)
  clear C26
  clear b27 B26 
  go_wp2_with fail
  have hcall := c_write H C27.out B27.out.size 0 lc (by unfold b64; omega)
  rw [kk12] at hcall
  refine hcall.mono ?_
  clear hcall
  rintro e W28 ⟨rfl, c28, b28⟩
  dsimp only at c28
  have B28 := Lib.hid (B27.out.trans b28)
  have C28 := Lib.hid c28
  clear b28 c28 B27 C27 
  dsimp only
  go_wp2_with fail
  refine (guid_any 1 0 W28).mono ?_
  rintro e W29 ⟨rfl, b29⟩
  have B29 := Lib.hid (below_step B28.out b29)
  have C29 := Lib.hid (Ch.below H C28.out b29)
  clear C28
  clear b29 B28 
  go_wp2_with fail
  have hcall := c_add H (Ch.upto H C29.out) B29.out.size (1, 0) ⟨by decide, by decide⟩ none 0 [] (ChL.nil _ _) (by decide) (fun b o e => by cases e)
  rw [kk13] at hcall
  refine hcall.mono ?_
  clear hcall
  rintro e W30 ⟨rfl, c30, b30⟩
  dsimp only at c30
  have B30 := Lib.hid (B29.out.trans b30)
  have C30 := Lib.hid c30
  clear b30 c30 B29 C29
  dsimp only
  go_wp2_with fail
  have hcall := c_live H C30.out
  rw [kk14] at hcall
  refine (hcall).mono ?_
  rintro e W31 ⟨A31, c31, rfl, ht31, -, b31⟩
  clear hcall
  have T31 := Lib.hid ht31
  clear ht31
  have B31 := Lib.hid (below_step B30.out b31)
  have C31 := Lib.hid (Ch.below H C30.out b31)
  clear C30
  clear b31 B30 
  rw [kv_len]
  go_wp2_with fail
  have hbk := fun W (h : TxL W A31 kv) => blocks_any A31 c31 kv _ W h (by rw [kv_len]; decide) kv_is
  rw [kv_len] at hbk
  refine (hbk W31 T31.out).mono ?_
  rintro e W32 ⟨rfl, b32⟩
  clear hbk
  have K33 := Lib.hid (TxL.below T31.out b32)
  clear T31
  have B32 := Lib.hid (below_step B31.out b32)
  have C32 := Lib.hid (Ch.below H C31.out b32)
  clear C31
  clear b32 B31 
  clear K33
  go_wp2_with fail
  have hcall := c_changes H C32.out 1 (by unfold b64; omega)
  rw [kk15.1] at hcall
  refine (hcall).mono ?_
  rintro e W34 ⟨A34, c34, rfl, -, -, b34⟩
  clear hcall
  have B34 := Lib.hid (below_step B32.out b34)
  have C34 := Lib.hid (Ch.below H C32.out b34)
  clear C32
  clear b34 B32 
  dsimp only [List.length_nil, List.length_cons, Nat.reduceAdd, Nat.zero_add]
  go_wp2_with fail
  have hcall := c_changes H C34.out (-1) (by unfold b64; omega)
  rw [kk15.2] at hcall
  refine (hcall).mono ?_
  rintro e W35 ⟨A35, c35, rfl, -, -, b35⟩
  clear hcall
  have B35 := Lib.hid (below_step B34.out b35)
  have C35 := Lib.hid (Ch.below H C34.out b35)
  clear C34
  clear b35 B34 
  dsimp only [List.length_nil, List.length_cons, Nat.reduceAdd, Nat.zero_add]
  go_wp2_with fail
  refine (guid_any 1 1 W35).mono ?_
  rintro e W36 ⟨rfl, b36⟩
  have B36 := Lib.hid (below_step B35.out b36)
  have C36 := Lib.hid (Ch.below H C35.out b36)
  clear C35
  clear b36 B35 
  go_wp2_with fail
  refine (H.nread (1, 1) W36 ⟨by decide, by decide⟩).mono ?_
  rintro e W37 ⟨A37, c37, rfl, -, -, b37⟩
  have B37 := Lib.hid (below_step B36.out b37)
  have C37 := Lib.hid (Ch.below H C36.out b37)
  clear C36
  clear b37 B36 
  dsimp only [List.length_nil, List.length_cons, Nat.reduceAdd, Nat.zero_add]
  go_wp2_with fail
  refine (H.nchanges 0 W37 (by unfold b64; omega)).mono ?_
  rintro e W38 ⟨A38, c38, rfl, -, -, b38⟩
  have B38 := Lib.hid (below_step B37.out b38)
  have C38 := Lib.hid (Ch.below H C37.out b38)
  clear C37
  clear b38 B37 
  dsimp only [List.length_nil, List.length_cons, Nat.reduceAdd, Nat.zero_add]
  go_wp2_with fail
  refine (works_any H W38).mono ?_
  rintro e W39 ⟨rfl, b39⟩
  have B39 := Lib.hid (below_step B38.out b39)
  have C39 := Lib.hid (Ch.below H C38.out b39)
  clear C38
  clear b39 B38 
  go_wp2_with fail
  refine (HD.out W39).mono ?_
  rintro e W40 ⟨rfl, b40⟩
  have B40 := Lib.hid (below_step B39.out b40)
  have C40 := Lib.hid (Ch.below H C39.out b40)
  clear C39
  clear b40 B39 
  go_wp2_with fail
  refine (H.nwrite 0 la W40 (by unfold b64; omega)).mono ?_
  rintro e W41 ⟨rfl, b41⟩
  have B41 := Lib.hid (below_step B40.out b41)
  have C41 := Lib.hid (Ch.below H C40.out b41)
  clear C40
  clear b41 B40 
  go_wp2_with fail
  refine (guid_any 1 1 W41).mono ?_
  rintro e W42 ⟨rfl, b42⟩
  have B42 := Lib.hid (below_step B41.out b42)
  have C42 := Lib.hid (Ch.below H C41.out b42)
  clear C41
  clear b42 B41 
  go_wp2_with fail
  refine (H.nsnap (1, 1) W42 ⟨by decide, by decide⟩).mono ?_
  rintro e W43 ⟨rfl, b43⟩
  have B43 := Lib.hid (below_step B42.out b43)
  have C43 := Lib.hid (Ch.below H C42.out b43)
  clear C42
  clear b43 B42 
  go_wp2_with fail
  refine (guid_any 1 1 W43).mono ?_
  rintro e W44 ⟨rfl, b44⟩
  have B44 := Lib.hid (below_step B43.out b44)
  have C44 := Lib.hid (Ch.below H C43.out b44)
  clear C43
  clear b44 B43 
  go_wp2_with fail
  refine (H.nadd (1, 1) none 0 [] W44 ⟨by decide, by decide⟩ (ChL.nil _ _) (by decide)).mono ?_
  rintro e W45 ⟨rfl, b45⟩
  have B45 := Lib.hid (below_step B44.out b45)
  have C45 := Lib.hid (Ch.below H C44.out b45)
  clear C44
  clear b45 B44 
  go_wp2_with fail
  refine (H.nroll 0 W45 (by unfold b64; omega)).mono ?_
  rintro e W46 ⟨rfl, b46⟩
  have B46 := Lib.hid (below_step B45.out b46)
  have C46 := Lib.hid (Ch.below H C45.out b46)
  clear C45
  clear b46 B45 
  go_wp2_with fail
  refine (guid_any 1 1 W46).mono ?_
  rintro e W47 ⟨rfl, b47⟩
  have B47 := Lib.hid (below_step B46.out b47)
  have C47 := Lib.hid (Ch.below H C46.out b47)
  clear C46
  clear b47 B46 
  go_wp2_with fail
  refine (H.nhide (1, 1) W47 ⟨by decide, by decide⟩).mono ?_
  rintro e W48 ⟨rfl, b48⟩
  have B48 := Lib.hid (below_step B47.out b48)
  have C48 := Lib.hid (Ch.below H C47.out b48)
  clear C47
  clear b48 B47 
  go_wp2_with fail
  refine (H.nlist W48).mono ?_
  rintro e W49 ⟨A49, c49, rfl, -, -, b49⟩
  have B49 := Lib.hid (below_step B48.out b49)
  have C49 := Lib.hid (Ch.below H C48.out b49)
  clear C48
  clear b49 B48 
  dsimp only [List.length_nil, List.length_cons, Nat.reduceAdd, Nat.zero_add]
  go_wp2_with fail
  refine (H.nlive W49).mono ?_
  rintro e W50 ⟨A50, c50, rfl, -, -, b50⟩
  have B50 := Lib.hid (below_step B49.out b50)
  have C50 := Lib.hid (Ch.below H C49.out b50)
  clear C49
  clear b50 B49 
  dsimp only [List.length_nil, List.length_cons, Nat.reduceAdd, Nat.zero_add]
  go_wp2_with fail
  refine (H.ncopy W50).mono ?_
  rintro e W51 ⟨rfl, b51⟩
  have B51 := Lib.hid (below_step B50.out b51)
  have C51 := Lib.hid (Ch.below H C50.out b51)
  clear C50
  clear b51 B50 
  go_wp2_with fail
  refine (H.new_none 0 W51 (by unfold b64; omega) (by omega)).mono ?_
  rintro e W52 ⟨rfl, b52⟩
  have B52 := Lib.hid (below_step B51.out b52)
  have C52 := Lib.hid (Ch.below H C51.out b52)
  clear C51
  clear b52 B51 
  go_wp2_with fail
  refine (H.new_none 9 W52 (by unfold b64; omega) (by omega)).mono ?_
  rintro e W53 ⟨rfl, b53⟩
  have B53 := Lib.hid (below_step B52.out b53)
  have C53 := Lib.hid (Ch.below H C52.out b53)
  clear C52
  clear b53 B52 
  go_wp2_with fail
  refine (H.new_some 1 W53 (by decide) (by decide)).mono ?_
  rintro e WZ ⟨q, own2, rfl, -, bz, -⟩
  have BZ := Lib.hid (below_step B53.out bz)
  clear bz
  go_wp2_with fail
  go_ret
  exact ⟨rfl, BZ.out⟩
end Go.Proofs.Ytfinmfmbbgakhaa.ch

/- ChainKnown: the chapter's examples, limits, chains that are none. -/
namespace Go.Proofs.Ytfinmfmbbgakhaa.chainKnown
open Go.ChangeShapes Go.WideShapes Go.ChangeAt Go.RowKit
open Go.ChangeMaps (open_string shut_string)
open Go.Proofs.Ytfinmfmbbgakhaa.ib Go.Proofs.Ytfinmfmbbgakhaa.ch

theorem own : ownKnob Try.prog.godebug = none := by kernel_rfl

theorem witness (os : Os) {H : Type} (enc : TypeId × Value → H) :
    (OpenSpec.ofChange Rows.chainKnownSpec).preRow enc Try.prog Try.f7 Rows.chainKnownRow.domain false Rows.chainKnownRow.laid ((World.holding Try.prog os ⟨#[], #[], []⟩).forCall (fun _ _ => 0) ⟨#[], #[], []⟩).memory #[] := by
  have hw : (DataW.whole enc Try.prog ((World.holding Try.prog os ⟨#[], #[], []⟩).forCall (fun _ _ => 0) ⟨#[], #[], []⟩).memory Try.f7.params.toList (OpenSpec.ofChange Rows.chainKnownSpec).vars false (#[] : Array Value).toList 8).map (fun x => (x.1, x.2.1)) =
      some ([], []) := by kernel_rfl
  obtain ⟨⟨x1, x2, x3⟩, hx, hx1⟩ := Option.map_eq_some_iff.1 hw
  simp only [Prod.mk.injEq] at hx1
  obtain ⟨rfl, rfl⟩ := hx1
  exact OpenSpec.preRow_of_cond 8 hx (by kernel_rfl) (fun k hk => by cases hk) (by kernel_rfl) (laidMetH_nil _ _)

set_option maxRecDepth 100000 in
set_option maxHeartbeats 1600000 in
theorem lifted (os : Os) (started : os.Started) (H : Type) (enc : TypeId × Value → H) (F : Stop.Interp) :
    ReturnsInHanded {} Try.checked os 7 .any ((OpenSpec.ofChange Rows.chainKnownSpec).preRow enc Try.prog Try.f7 Rows.chainKnownRow.domain false Rows.chainKnownRow.laid) (((OpenSpec.ofChange Rows.chainKnownSpec).at F).post enc Try.prog Try.f7 false true false false) := by
  refine returnsInHanded_of_row (C := Try.checked) (s := OpenSpec.ofChange Rows.chainKnownSpec) own started (by kernel_rfl) Try.func7
    (witness_row_at (enc := enc) (C := Try.checked) false (World.holding Try.prog os ⟨#[], #[], []⟩) #[] rfl (by kernel_rfl) (by kernel_rfl) (by kernel_rfl) (witness os enc)) ?_
  intro W base args ds gs before hval0 hW _ _ hsz0 hL _ _
  have hW' := hW
  obtain ⟨p, q, hA0, hV, rfl, hfz, hnd⟩ := hW
  have hA : DataW.TrodAll enc Try.prog W 0 (fun _ => true) true Try.f7.params.toList args.toList ds p := hA0
  rw [Try.params7] at hA
  obtain ⟨hargs, rfl, rfl⟩ := trodAll_nil hA
  obtain rfl : args = #[] := by cases args; simp_all
  obtain ⟨rfl, rfl⟩ := trodVars_none hV
  clear hA0 hval0 hsz0
  refine (chainKnown_walk hImpl W).mono fun e W' ⟨he, hg⟩ => ?_
  subst he
  exact ⟨_, rfl, _, _, _, [], [], [], hW', trodAll_mk1 (shut_bool Try.underlying4 _), trodAll_mk0, rfl, hg.frame _, fun h => by cases h⟩

theorem over : Rows.ChainKnownSaid :=
  OpenClaim.holds_of_cond 7 Try.f7 rfl rfl rfl rfl rfl rfl rfl ⟨rfl, rfl, rfl, rfl, rfl⟩ rfl rfl rfl rfl rfl (by kernel_rfl) Try.func7 (by kernel_rfl)
    (of_decide_eq_true (by kernel_rfl)) (by unfold Func.isWrapper; first | (rw [if_pos (by decide +kernel)]; kernel_rfl) | (rw [if_neg (by decide +kernel)]; exact ⟨rfl, rfl⟩))
    (fun os started H enc _ F => by rw [OpenClaim.pre_eq_preRow]; exact lifted os started H enc F)

theorem proved : Rows.ChainKnownSaid :=
  over
#print axioms proved
end Go.Proofs.Ytfinmfmbbgakhaa.chainKnown

