/- The walk of CrcKnown: the chapter's examples. -/
import Derived.Test.YthmmdmmgabmgiaaDoorCWorks
namespace Go.Proofs.YthmmdmmgabmgiaaDoor
open Go.RowKit

set_option maxHeartbeats 1600000 in
theorem crcKnown_walk (w : World) (ht : CTab w) : Calls Tryd.prog 8 #[] w (okTrue w) := by
  have HT := Lib.hid ht
  have hg := ht.1
  clear ht
  go_enter Tryd.func8, Tryd.ntmps8
  go_wp2_with (go_at_call 14; refine (copen_none ⟨#[]⟩ _ (by decide) HT.out (by decide +kernel)).mono ?_)
  rintro e W1 ⟨rfl, b1⟩
  have h1 := HT.out.below b1 hg
  have H1 := Lib.hid h1
  clear h1
  go_wp2_with (go_at_call 14; refine (copen_none ⟨#[0, 0, 0]⟩ _ (by decide) H1.out (by decide +kernel)).mono ?_)
  rintro e W2 ⟨rfl, b2⟩
  have b12 := below_step b1 b2
  have h2 := HT.out.below b12 hg
  have H2 := Lib.hid h2
  clear h2 b1 b2 H1
  go_wp2_with (go_at_call 14; refine (copen_is ⟨#[0, 0, 0, 0]⟩ ⟨#[]⟩ _ (by decide) H2.out (by decide +kernel)).mono ?_)
  rintro e W3 ⟨rfl, b3⟩
  have b13 := below_step b12 b3
  have h3 := HT.out.below b13 hg
  have H3 := Lib.hid h3
  clear h3 b12 b3 H2
  go_wp2_with (go_at_call 14; refine (copen_none ⟨#[49, 50, 51, 52, 53, 54, 55, 56, 57, 38, 57, 244, 203]⟩ _ (by decide) H3.out (by decide +kernel)).mono ?_)
  rintro e W4 ⟨rfl, b4⟩
  have b14 := below_step b13 b4
  have h4 := HT.out.below b14 hg
  have H4 := Lib.hid h4
  clear h4 b13 b4 H3
  go_wp2_with (go_at_call 13; refine (cworks_any _ H4.out).mono ?_)
  rintro e W5 ⟨rfl, b5⟩
  have b15 := below_step b14 b5
  have h5 := HT.out.below b15 hg
  have H5 := Lib.hid h5
  clear h5 b14 b5 H4
  go_wp2_with (go_at_call 11; refine (cseal_is ⟨#[]⟩ ⟨#[0, 0, 0, 0]⟩ _ (by decide) H5.out (by decide +kernel)).mono ?_)
  rintro e W6 ⟨rfl, b6⟩
  have b16 := below_step b15 b6
  have h6 := HT.out.below b16 hg
  have H6 := Lib.hid h6
  clear h6 b15 b6 H5
  go_wp2_with (go_at_call 9; refine (csum_is ⟨#[97]⟩ 3904355907 _ (by decide) H6.out (by decide +kernel)).mono ?_)
  rintro e W7 ⟨rfl, b7⟩
  have b17 := below_step b16 b7
  have h7 := HT.out.below b17 hg
  have H7 := Lib.hid h7
  clear h7 b16 b7 H6
  go_wp2_with (go_at_call 9; refine (csum_is ⟨#[97, 98, 99]⟩ 891568578 _ (by decide) H7.out (by decide +kernel)).mono ?_)
  rintro e W8 ⟨rfl, b8⟩
  have b18 := below_step b17 b8
  have h8 := HT.out.below b18 hg
  have H8 := Lib.hid h8
  clear h8 b17 b8 H7
  go_wp2_with (go_at_call 9; refine (csum_is ⟨#[84, 104, 101, 32, 113, 117, 105, 99, 107, 32, 98, 114, 111, 119, 110, 32, 102, 111, 120, 32, 106, 117, 109, 112, 115, 32, 111, 118, 101, 114, 32, 116, 104, 101, 32, 108, 97, 122, 121, 32, 100, 111, 103]⟩ 1095738169 _ (by decide) H8.out (by decide +kernel)).mono ?_)
  rintro e W9 ⟨rfl, b9⟩
  have b19 := below_step b18 b9
  clear b18 b9 H8
  go_wp2
  go_ret
  exact ⟨rfl, b19⟩

end Go.Proofs.YthmmdmmgabmgiaaDoor
