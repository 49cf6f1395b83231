/- The walk of CrcOne. -/
import Derived.Test.YthmmdmmgabmgiaaDoorCWorks
import Derived.Deep.RegionWith
import Derived.OpenShut
namespace Go.Proofs.YthmmdmmgabmgiaaDoor
open Go.RowKit

theorem csum1 (c : UInt8) (w : World) (ht : CTab w) : Calls Tryd.prog 9 #[.string (str [c])] w (okCSum (crcSum [c]) w) := by
  have := csum_any (str [c]) w (by rw [str_size]; simp) ht
  rwa [bl_str] at this

theorem conv1c (c : UInt8) (p : Nat) (w : World) (h : w.cell? ⟨p, 0, none⟩ = some (.int .u8 (c.toNat : Int))) :
    (convert 29 9 (.slice (some ⟨p, 0, none⟩) 1 1)).run Tryd.prog w = .ok (.string (str [c])) w := by
  refine run_convert_bytes_back (P := Tryd.prog) _ 29 9 5 ⟨p, 0, none⟩ 1 [c] Tryd.underlying29 Tryd.underlying5 Tryd.underlying9 ?_
  intro j hj
  have : j = 0 := by simpa using hj
  subst this
  rw [addr_add]
  exact h

/-- Two slices of one byte each that were made ahead of a call, read as texts behind it. -/
theorem conv_two (a b : UInt8) (A B : World) (h : Below ((A.alloc (.cells #[.int .u8 (a.toNat : Int)] 5)).alloc (.cells #[.int .u8 (b.toNat : Int)] 5)).heap.size ((A.alloc (.cells #[.int .u8 (a.toNat : Int)] 5)).alloc (.cells #[.int .u8 (b.toNat : Int)] 5)) B) :
    (convert 29 9 (.slice (some ⟨A.heap.size, 0, none⟩) 1 1)).run Tryd.prog B = .ok (.string (str [a])) B ∧ (convert 29 9 (.slice (some ⟨A.heap.size + 1, 0, none⟩) 1 1)).run Tryd.prog B = .ok (.string (str [b])) B := by
  have h0 := h.cell (p := ⟨A.heap.size, 0, none⟩) (by simp; omega)
  have h1 := h.cell (p := ⟨A.heap.size + 1, 0, none⟩) (by simp)
  exact ⟨conv1c a _ _ (h0.trans (by go_simp)), conv1c b _ _ (h1.trans (by go_simp))⟩

theorem byte_of (a : Int) (w : (Lit.int .u8 a).wf = true) : ∃ c : UInt8, a = (c.toNat : Int) := by
  have hb := bounds_u8 w
  refine ⟨UInt8.ofNat a.toNat, ?_⟩
  rw [ofNat_small _ (by omega)]
  omega

set_option maxHeartbeats 1600000 in
theorem one_same (c : UInt8) (w : World) (ht : CTab w) : Calls Tryd.prog 7 #[.int .u8 (c.toNat : Int), .int .u8 (c.toNat : Int)] w (okTrue w) := by
  have HT := Lib.hid ht
  have hg := ht.1
  clear ht
  have hcv := conv1c c
  go_enter Tryd.func7, Tryd.ntmps7
  go_wp2_with fail
  go_region_with (first
    | (go_at_call 13; refine (cworks_any _ (HT.out.below (Below.refl w.heap.size w).drew hg)).mono ?_; rintro e W1 ⟨rfl, hB0⟩; have hB := below_step (Below.refl w.heap.size w).drew hB0; clear hB0)
    | (go_at_call 9; refine (csum1 c _ (HT.out.below (by first | exact hB | exact below_new hB _ | exact below_new (below_new hB _) _) hg)).mono ?_; rintro e W2 ⟨rfl, hB2⟩; have hB' := below_step (by first | exact hB | exact below_new hB _ | exact below_new (below_new hB _) _) hB2; (try (with_reducible have hx := conv_two _ _ _ _ hB2)); clear hB2 hB; have hB := hB'; clear hB'))
  all_goals (go_wp2; go_ret; exact ⟨rfl, hB⟩)

end Go.Proofs.YthmmdmmgabmgiaaDoor
