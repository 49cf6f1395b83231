/- What tail and Seal of package crc do. -/
import Derived.Test.YthmmdmmgabmgiaaDoorCSum
namespace Go.Proofs.YthmmdmmgabmgiaaDoor
open Go.RowKit

theorem conv4 (n : Nat) (hn : n < 4294967296) (w : World) :
    (convert 29 9 (.slice (some ⟨w.heap.size, 0, none⟩) 4 4)).run Tryd.prog (w.alloc (.cells #[.int .u8 ((n : Int) / 16777216), .int .u8 ((n : Int) / 65536 % 256), .int .u8 ((n : Int) / 256 % 256), .int .u8 ((n : Int) % 256)] 5)) =
      .ok (.string (str (be4 n))) (w.alloc (.cells #[.int .u8 ((n : Int) / 16777216), .int .u8 ((n : Int) / 65536 % 256), .int .u8 ((n : Int) / 256 % 256), .int .u8 ((n : Int) % 256)] 5)) := by
  refine run_convert_bytes_back (P := Tryd.prog) _ 29 9 5 ⟨w.heap.size, 0, none⟩ 4 (be4 n) Tryd.underlying29 Tryd.underlying5 Tryd.underlying9 ?_
  intro j hj
  rw [be4_length] at hj
  have e0 : (UInt8.ofNat (n / 16777216 % 256)).toNat = n / 16777216 := by rw [ofNat_small _ (by omega)]; omega
  have e1 := ofNat_small (n / 65536 % 256) (by omega)
  have e2 := ofNat_small (n / 256 % 256) (by omega)
  have e3 := ofNat_small (n % 256) (by omega)
  have h : j = 0 ∨ j = 1 ∨ j = 2 ∨ j = 3 := by omega
  rcases h with rfl | rfl | rfl | rfl <;> simp only [be4, addr_add, List.getElem_cons_zero, List.getElem_cons_succ, e0, e1, e2, e3] <;> simp [World.cell?, World.alloc, -World.alloc_eq]

set_option maxHeartbeats 400000 in
theorem ctail_any (s : ByteArray) (w : World) (hs : s.size ≤ 9223372036854775807) (ht : CTab w) :
    Calls Tryd.prog 17 #[.string s] w (okStr (str (tailB (bl s))) w) := by
  have HT := Lib.hid ht
  clear ht
  go_enter Tryd.func17, Tryd.ntmps17
  go_wp2_with (go_at_call 9; refine (csum_any s _ hs HT.out).mono ?_)
  rintro e W1 ⟨rfl, b1⟩
  have hn := crcSum_lt (bl s)
  have ht : tailB (bl s) = be4 (crcSum (bl s)) := rfl
  have Ht := Lib.hid ht
  clear ht
  generalize crcSum (bl s) = n at *
  have hcv := conv4 n hn W1
  go_wp2
  go_ret
  exact ⟨by rw [Ht.out]; rfl, below_new b1 _⟩

theorem str_append (s : ByteArray) (l : List UInt8) : s ++ str l = str (bl s ++ l) := by
  apply ByteArray.ext
  apply Array.ext'
  simp [str, bl]

set_option maxHeartbeats 400000 in
theorem seal_any (s : ByteArray) (w : World) (hs : s.size ≤ 9223372036854775000) (ht : CTab w) :
    Calls Tryd.prog 11 #[.string s] w (okStr (str (sealB (bl s))) w) := by
  have HT := Lib.hid ht
  have hz : (str (tailB (bl s))).size = 4 := rfl
  have Hz := Lib.hid hz
  have hap : s ++ str (tailB (bl s)) = str (sealB (bl s)) := str_append _ _
  have Hap := Lib.hid hap
  clear ht hz hap
  go_enter Tryd.func11, Tryd.ntmps11
  go_wp2_with (go_at_call 17; refine (ctail_any s _ (by omega) HT.out).mono ?_)
  rintro e W1 ⟨rfl, b1⟩
  generalize str (tailB (bl s)) = t at *
  have hz := Hz.out
  go_wp2
  go_ret
  exact ⟨by rw [← Hap.out]; rfl, b1⟩

end Go.Proofs.YthmmdmmgabmgiaaDoor
