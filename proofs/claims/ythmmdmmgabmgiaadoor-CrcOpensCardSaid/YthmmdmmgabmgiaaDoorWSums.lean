/- The walks of CrcSums and CrcOpens. -/
import Derived.Test.YthmmdmmgabmgiaaDoorCWorks
import Derived.Test.YthmmdmmgabmgiaaDoorCRefO
namespace Go.Proofs.YthmmdmmgabmgiaaDoor
open Go.RowKit

set_option maxHeartbeats 400000 in
theorem crcSums_walk (s : ByteArray) (hs : s.size ≤ 140737488351232) (w : World) (ht : CTab w) :
    Calls Tryd.prog 3 #[.string s] w (okTrue w) := by
  have HT := Lib.hid ht
  have hg := ht.1
  clear ht
  go_enter Tryd.func3, Tryd.ntmps3
  go_wp2_with (go_at_call 9; refine (csum_any s _ (by omega) HT.out).mono ?_)
  rintro e W1 ⟨rfl, b1⟩
  have h1 := HT.out.below b1 hg
  have H1 := Lib.hid h1
  clear h1
  go_wp2_with (go_at_call 10; refine (rsum_any s _ (by omega)).mono ?_; rintro e w' ⟨rfl, rfl⟩)
  go_wp2_with (go_at_call 11; refine (seal_any s _ (by omega) H1.out).mono ?_)
  rintro e W2 ⟨rfl, b2⟩
  have b12 := below_step b1 b2
  clear b1 b2
  go_wp2_with (go_at_call 12; refine (rseal_any s _ (by omega)).mono ?_)
  rintro e W3 ⟨rfl, b3⟩
  have b13 := below_step b12 b3
  have h3 := HT.out.below b13 hg
  have H3 := Lib.hid h3
  clear b12 b3 h3 H1
  go_wp2_with (go_at_call 13; refine (cworks_any _ H3.out).mono ?_)
  rintro e W4 ⟨rfl, b4⟩
  have b14 := below_step b13 b4
  go_wp2
  go_ret
  exact ⟨rfl, b14⟩


theorem ropen_some (s : ByteArray) (m : List UInt8) (w : World) (hr : s.size ≤ 140737488355328) (h : openB (bl s) = some m) :
    Calls Tryd.prog 15 #[.string s] w fun e w' => e = .returned (.tuple #[.string (str m), .bool true]) ∧ Below w.heap.size w w' :=
  (ropen_any s w hr).mono fun e w' hh => by unfold OpenIs at hh; rw [h] at hh; exact hh

theorem ropen_none (s : ByteArray) (w : World) (hr : s.size ≤ 140737488355328) (h : openB (bl s) = none) :
    Calls Tryd.prog 15 #[.string s] w fun e w' => e = .returned (.tuple #[.string ⟨#[]⟩, .bool false]) ∧ Below w.heap.size w w' :=
  (ropen_any s w hr).mono fun e w' hh => by unfold OpenIs at hh; rw [h] at hh; exact hh

set_option maxHeartbeats 400000 in
theorem crcOpens_walk (s : ByteArray) (hs : s.size ≤ 140737488351232) (w : World) (ht : CTab w) :
    Calls Tryd.prog 4 #[.string s] w (okTrue w) := by
  have HT := Lib.hid ht
  have hg := ht.1
  clear ht
  cases ho : openB (bl s) with
  | none =>
    have Ho := Lib.hid ho
    clear ho
    go_enter Tryd.func4, Tryd.ntmps4
    go_wp2_with (go_at_call 14; refine (copen_none s _ (by omega) HT.out Ho.out).mono ?_)
    rintro e W1 ⟨rfl, b1⟩
    go_wp2_with (go_at_call 15; refine (ropen_none s _ (by omega) Ho.out).mono ?_)
    rintro e W2 ⟨rfl, b2⟩
    have b12 := below_step b1 b2
    have h2 := HT.out.below b12 hg
    have H2 := Lib.hid h2
    clear b1 b2 h2
    go_wp2_with (go_at_call 13; refine (cworks_any _ H2.out).mono ?_)
    rintro e W3 ⟨rfl, b3⟩
    have b13 := below_step b12 b3
    clear b12 b3
    go_wp2
    go_ret
    exact ⟨rfl, b13⟩
  | some m =>
    have Ho := Lib.hid ho
    clear ho
    go_enter Tryd.func4, Tryd.ntmps4
    go_wp2_with (go_at_call 14; refine (copen_some s m _ (by omega) HT.out Ho.out).mono ?_)
    rintro e W1 ⟨rfl, b1⟩
    go_wp2_with (go_at_call 15; refine (ropen_some s m _ (by omega) Ho.out).mono ?_)
    rintro e W2 ⟨rfl, b2⟩
    have b12 := below_step b1 b2
    have h2 := HT.out.below b12 hg
    have H2 := Lib.hid h2
    clear b1 b2 h2
    go_wp2_with (go_at_call 13; refine (cworks_any _ H2.out).mono ?_)
    rintro e W3 ⟨rfl, b3⟩
    have b13 := below_step b12 b3
    clear b12 b3
    go_wp2
    go_ret
    exact ⟨rfl, b13⟩

end Go.Proofs.YthmmdmmgabmgiaaDoor
