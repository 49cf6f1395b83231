/- The walk of FramePacks. -/
import Derived.Test.YtpjjmaknajjimaaDoorFWorks
import Derived.Test.YtpjjmaknajjimaaDoorFRPack
import Derived.Test.YtpjjmaknajjimaaDoorFTexts
namespace Go.Proofs.YtpjjmaknajjimaaDoor
open Go.RowKit

theorem texts_same (v u : Value) (A B : Nat) (ps : List (List UInt8)) (w w' : World) (hv : OwnsStrs w A v ps) (hb : Below w.heap.size w w') (hu : OwnsStrs w' B u ps) (hl : ps.length ≤ 1000) :
    Calls Tryd.prog 10 #[v, u] w' (okTrue w') := by
  obtain ⟨a, c, rfl, _, _, hs, _, _⟩ := hv.view
  obtain ⟨b, d, rfl, _, _, hr, _, _⟩ := hu.view
  have := texts_any a b c d ps ps w' (hs.below hb (Nat.le_refl _)) hr (by omega) (by omega)
  rw [show decide (ps = ps) = true from by simp] at this
  exact this

theorem texts_nil (w : World) : Calls Tryd.prog 10 #[.slice none 0 0, .slice none 0 0] w (okTrue w) := by
  have := texts_any none none 0 0 [] [] w (StrsAt.nil _ _) (StrsAt.nil _ _) (by simp) (by simp)
  exact this

set_option maxHeartbeats 800000 in
theorem framePacks_walk (a0 : ByteArray) (s0 : a0.size ≤ 140737488351232) (w : World) (ht : CTab w) :
    Calls Tryd.prog 3 #[.string a0] w (okTrue w) := by
  have HT := Lib.hid ht
  have hg := ht.1
  clear ht
  have hm0 : (0 : Int) ≤ min (a0.size : Int) 9000 := by omega
  have hm1 : min (a0.size : Int) 9000 ≤ (a0.size : Int) := by omega
  have hxs : (a0.extract 0 (min (a0.size : Int) 9000).toNat).size ≤ 9000 := by simp; omega
  by_cases hlt : 8192 < (a0.extract 0 (min (a0.size : Int) 9000).toNat).size
  · have hpk := Lib.hid (fun W => pack_long (a0.extract 0 (min (a0.size : Int) 9000).toNat) W hlt)
    have hrk := Lib.hid (fun W => rpack_long (a0.extract 0 (min (a0.size : Int) 9000).toNat) W hlt)
    have hsz := Lib.hid (fun W => fsize_any (a0.extract 0 (min (a0.size : Int) 9000).toNat) W (by omega))
    have hrz := Lib.hid (fun W => rsize_any (a0.extract 0 (min (a0.size : Int) 9000).toNat) W (by omega))
    go_enter Tryd.func3, Tryd.ntmps3
    go_wp2_with (go_at_call 8; refine (hpk.out _).mono ?_)
    rintro e W1 ⟨rfl, b1⟩
    go_wp2_with (go_at_call 9; refine (hrk.out _).mono ?_)
    rintro e W2 ⟨rfl, b2⟩
    have b12 := below_step b1 b2
    clear b1 b2
    go_wp2_with (go_at_call 10; refine (texts_nil _).mono ?_)
    rintro e W3 ⟨rfl, b3⟩
    have b13 := below_step b12 b3
    have h3 := Lib.hid (HT.out.below b13 hg)
    clear b12 b3
    go_wp2_with (first | (go_at_call 11; refine (hsz.out _).mono ?_; rintro e w' ⟨rfl, rfl⟩) | (go_at_call 12; refine (hrz.out _).mono ?_; rintro e w' ⟨rfl, rfl⟩) | (go_at_call 13; refine (fworks_any _ h3.out).mono ?_))
    rintro e W4 ⟨rfl, b4⟩
    have b14 := below_step b13 b4
    go_wp2
    go_ret
    exact ⟨rfl, b14⟩
  · have hpk := Lib.hid (fun W hW => pack_any (a0.extract 0 (min (a0.size : Int) 9000).toNat) W (by omega) hW)
    have hrk := Lib.hid (fun W => rpack_any (a0.extract 0 (min (a0.size : Int) 9000).toNat) W (by omega))
    have hsz := Lib.hid (fun W => fsize_any (a0.extract 0 (min (a0.size : Int) 9000).toNat) W (by omega))
    have hrz := Lib.hid (fun W => rsize_any (a0.extract 0 (min (a0.size : Int) 9000).toNat) W (by omega))
    have hsl := secs_length (bl (a0.extract 0 (min (a0.size : Int) 9000).toNat))
    rw [bl_len] at hsl
    have hsl2 : (secs (bl (a0.extract 0 (min (a0.size : Int) 9000).toNat))).length ≤ 1000 := by rw [hsl]; unfold nsec; omega
    have Hsl2 := Lib.hid hsl2
    clear hsl hsl2
    go_enter Tryd.func3, Tryd.ntmps3
    go_wp2_with (go_at_call 8; refine (hpk.out _ HT.out).mono ?_)
    rintro e W1 ⟨v, rfl, hv, b1⟩
    have Hv := Lib.hid hv
    clear hv
    go_wp2_with (go_at_call 9; refine (hrk.out _).mono ?_)
    rintro e W2 ⟨u, rfl, hu, b2⟩
    have Hu := Lib.hid hu
    have b12 := below_step b1 b2
    have Htx := Lib.hid (texts_same v u _ _ _ W1 W2 Hv.out b2 hu Hsl2.out)
    clear hu b1 b2
    go_wp2_with (go_at_call 10; refine Htx.out.mono ?_)
    rintro e W3 ⟨rfl, b3⟩
    have b13 := below_step b12 b3
    have h3 := Lib.hid (HT.out.below b13 hg)
    clear b12 b3
    go_wp2_with (first | (go_at_call 11; refine (hsz.out _).mono ?_; rintro e w' ⟨rfl, rfl⟩) | (go_at_call 12; refine (hrz.out _).mono ?_; rintro e w' ⟨rfl, rfl⟩) | (go_at_call 13; refine (fworks_any _ h3.out).mono ?_))
    rintro e W4 ⟨rfl, b4⟩
    have b14 := below_step b13 b4
    go_wp2
    go_ret
    exact ⟨rfl, b14⟩

end Go.Proofs.YtpjjmaknajjimaaDoor
