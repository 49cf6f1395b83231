/- The walk of CrcOne, where the bytes are unlike. -/
import Derived.Test.YthmmdmmgabmgiaaDoorWOne
namespace Go.Proofs.YthmmdmmgabmgiaaDoor
open Go.RowKit

set_option maxHeartbeats 1600000 in
theorem one_other (a b : UInt8) (hne : a ≠ b) (w : World) (ht : CTab w) : Calls Tryd.prog 7 #[.int .u8 (a.toNat : Int), .int .u8 (b.toNat : Int)] w (okTrue w) := by
  have HT := Lib.hid ht
  have hg := ht.1
  clear ht
  have hs : ((crcSum [a] : Int) == (crcSum [b] : Int)) = false := by
    rw [beq_eq_false_iff_ne]
    intro h
    exact hne (crcSum_other [] [] a b (Int.ofNat.inj h))
  have hb : ((a.toNat : Int) == (b.toNat : Int)) = false := by
    rw [beq_eq_false_iff_ne]
    intro h
    exact hne (UInt8.toNat_inj.1 (by omega))
  clear hne
  have hcv := conv1c a
  have hcw := conv1c b
  go_enter Tryd.func7, Tryd.ntmps7
  go_wp2_with fail
  go_region_with (first
    | (go_at_call 13; refine (cworks_any _ (HT.out.below (Below.refl w.heap.size w).drew hg)).mono ?_; rintro e W1 ⟨rfl, hB0⟩; have hB := below_step (Below.refl w.heap.size w).drew hB0; clear hB0)
    | (go_at_call 9; refine (csum1 _ _ (HT.out.below (by first | exact hB | exact below_new hB _ | exact below_new (below_new hB _) _) hg)).mono ?_; rintro e W2 ⟨rfl, hB2⟩; have hB' := below_step (by first | exact hB | exact below_new hB _ | exact below_new (below_new hB _) _) hB2; (try (with_reducible have hx := conv_two _ _ _ _ hB2)); clear hB2 hB; have hB := hB'; clear hB'))
  all_goals (go_wp2; go_ret; exact ⟨rfl, hB⟩)

theorem crcOne_walk (a0 : Int) (w0 : (Lit.int .u8 a0).wf = true) (a1 : Int) (w1 : (Lit.int .u8 a1).wf = true) (w : World) (ht : CTab w) : Calls Tryd.prog 7 #[.int .u8 a0, .int .u8 a1] w (okTrue w) := by
  obtain ⟨a, rfl⟩ := byte_of a0 w0
  obtain ⟨b, rfl⟩ := byte_of a1 w1
  by_cases h : a = b
  · subst h
    exact one_same a w ht
  · exact one_other a b h w ht

end Go.Proofs.YthmmdmmgabmgiaaDoor
