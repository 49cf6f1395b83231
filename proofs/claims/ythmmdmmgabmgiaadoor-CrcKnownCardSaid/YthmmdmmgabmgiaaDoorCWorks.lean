/- The small sample that each law asks first: the chapter's rows. -/
import Derived.Test.YthmmdmmgabmgiaaDoorCOpen
namespace Go.Proofs.YthmmdmmgabmgiaaDoor
open Go.RowKit Go.Sort

theorem csum_is (s : ByteArray) (n : Int) (w : World) (hs : s.size ≤ 1000000) (ht : CTab w) (h : (crcSum (bl s) : Int) = n) :
    Calls Tryd.prog 9 #[.string s] w fun e w' => e = .returned (.int .u32 n) ∧ Below w.heap.size w w' := by
  subst h
  exact csum_any s w (by omega) ht

theorem cseal_is (s t : ByteArray) (w : World) (hs : s.size ≤ 1000000) (ht : CTab w) (h : str (sealB (bl s)) = t) :
    Calls Tryd.prog 11 #[.string s] w (okStr t w) := by
  subst h
  exact seal_any s w (by omega) ht

theorem copen_is (s t : ByteArray) (w : World) (hs : s.size ≤ 1000000) (ht : CTab w) (h : openB (bl s) = some (bl t)) :
    Calls Tryd.prog 14 #[.string s] w fun e w' => e = .returned (.tuple #[.string t, .bool true]) ∧ Below w.heap.size w w' := by
  have := copen_some s (bl t) w (by omega) ht h
  rwa [str_bl] at this

set_option maxHeartbeats 800000 in
theorem cworks_any (w : World) (ht : CTab w) : Calls Tryd.prog 13 #[] w (okTrue w) := by
  have HT := Lib.hid ht
  have hg := ht.1
  clear ht
  go_enter Tryd.func13, Tryd.ntmps13
  go_wp2_with (go_at_call 11; refine (cseal_is ⟨#[120]⟩ ⟨#[120, 140, 220, 22, 131]⟩ _ (by decide) HT.out (by decide +kernel)).mono ?_)
  rintro e W1 ⟨rfl, b1⟩
  have h1 := HT.out.below b1 hg
  have H1 := Lib.hid h1
  clear h1
  go_wp2_with (go_at_call 14; refine (copen_is ⟨#[120, 140, 220, 22, 131]⟩ ⟨#[120]⟩ _ (by decide) H1.out (by decide +kernel)).mono ?_)
  rintro e W2 ⟨rfl, b2⟩
  have b12 := below_step b1 b2
  have h2 := HT.out.below b12 hg
  have H2 := Lib.hid h2
  clear h2 b1 b2 H1
  go_wp2_with (go_at_call 14; refine (copen_none ⟨#[120, 0, 0, 0, 0]⟩ _ (by decide) H2.out (by decide +kernel)).mono ?_)
  rintro e W3 ⟨rfl, b3⟩
  have b13 := below_step b12 b3
  have h3 := HT.out.below b13 hg
  have H3 := Lib.hid h3
  clear h3 b12 b3 H2
  go_wp2_with (go_at_call 9; refine (csum_is ⟨#[]⟩ 0 _ (by decide) H3.out (by decide +kernel)).mono ?_)
  rintro e W4 ⟨rfl, b4⟩
  have b14 := below_step b13 b4
  have h4 := HT.out.below b14 hg
  have H4 := Lib.hid h4
  clear h4 b13 b4 H3
  go_wp2_with (go_at_call 9; refine (csum_is ⟨#[49, 50, 51, 52, 53, 54, 55, 56, 57]⟩ 3421780262 _ (by decide) H4.out (by decide +kernel)).mono ?_)
  rintro e W5 ⟨rfl, b5⟩
  have b15 := below_step b14 b5
  have h5 := HT.out.below b15 hg
  have H5 := Lib.hid h5
  clear h5 b14 b5 H4
  go_wp2_with (go_at_call 9; refine (csum_is ⟨#[0]⟩ 3523407757 _ (by decide) H5.out (by decide +kernel)).mono ?_)
  rintro e W6 ⟨rfl, b6⟩
  have b16 := below_step b15 b6
  have h6 := HT.out.below b16 hg
  have H6 := Lib.hid h6
  clear h6 b15 b6 H5
  go_wp2_with (go_at_call 11; refine (cseal_is ⟨#[49, 50, 51, 52, 53, 54, 55, 56, 57]⟩ ⟨#[49, 50, 51, 52, 53, 54, 55, 56, 57, 203, 244, 57, 38]⟩ _ (by decide) H6.out (by decide +kernel)).mono ?_)
  rintro e W7 ⟨rfl, b7⟩
  have b17 := below_step b16 b7
  clear b16 b7 H6
  go_wp2
  go_ret
  exact ⟨rfl, b17⟩

end Go.Proofs.YthmmdmmgabmgiaaDoor
