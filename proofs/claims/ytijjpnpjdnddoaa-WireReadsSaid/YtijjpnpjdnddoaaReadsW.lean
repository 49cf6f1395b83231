/- The walk of WireReads: any bytes are read, by any calls, as the document says. -/
import Derived.Test.YtijjpnpjdnddoaaRefT
import Derived.Test.YtijjpnpjdnddoaaWorks
namespace Go.Proofs.Ytijjpnpjdnddoaa
open Go.RowKit

def BoolsAt (w : World) (a : Option Addr) (n : Nat) : Prop :=
  ∀ i, i < n → ∃ (b o : Nat) (x : Bool), a = some ⟨b, o, none⟩ ∧ b < w.heap.size ∧ w.cell? ⟨b, o + i, none⟩ = some (.bool x)

def ReadsRel (w : World) (b c l1 : Nat) (i : Value) (wr : World) : Prop :=
  ∃ (k : Nat) (ok en : Bool), k ≤ l1 ∧ k ≤ 40 ∧ i = .int .i64 (k : Int) ∧ RQ b c ok en wr ∧ Below w.heap.size w wr

set_option maxRecDepth 100000 in
set_option maxHeartbeats 1600000 in
theorem reads_walk (a0 : ByteArray) (a1 : Option Addr) (l1 c1 : Nat) (w : World) (w0 : a0.size ≤ 9223372036854775807) (_hl1 : l1 ≤ 9223372036854775807) (hB : BoolsAt w a1 l1) :
    Calls Try.prog 4 #[.string a0, .slice a1 l1 c1] w (okTrue w) := by
  have hz0 : (a0.extract 0 (min (a0.size : Int) 1000).toNat).size ≤ 1000 := by simp; omega
  have HB := Lib.hid hB
  clear hB
  go_enter Try.func4, Try.ntmps4
  go_wp2_with fail
  generalize a0.extract 0 (min (a0.size : Int) 1000).toNat = s at *
  refine (new_any s _ (by omega)).mono ?_
  rintro e W1 ⟨b, rfl, hb, hr, b1⟩
  go_wp2
  have hrq : RQ b W1.heap.size true (bl s).isEmpty (W1.alloc (.cells #[.string s, .bool false] 32)) := by
    refine ⟨bl s, s, hr.below ((Below.refl _ _).alloc (Nat.le_refl _) _), ⟨?_, by omega⟩, fun _ => rfl, by simp⟩
    show (W1.heap.push _)[W1.heap.size]? = _
    simp
  have hb0 := below_new b1 (.cells #[.string s, .bool false] 32)
  go_loopw [7] (fun i wr => ReadsRel w b W1.heap.size l1 i wr) (fun i _ => 40 - (intOf i).toNat)
  case atStart => exact ⟨0, true, _, Nat.zero_le _, Nat.zero_le _, rfl, hrq, hb0⟩
  case round =>
    clear hrq hb0 hr
    obtain ⟨k, ok, en, hk, hk40, rfl, hR, hB⟩ := hrel
    by_cases hlt : k < l1 ∧ k < 40
    · obtain ⟨hlt1, hlt2⟩ := hlt
      obtain ⟨b3, o3, x, rfl, hb3, hcell3⟩ := HB.out k hlt1
      have hcell : wr.cell? ⟨b3, o3 + k, none⟩ = some (.bool x) := by rw [hB.cell (p := ⟨b3, o3 + k, none⟩) hb3]; exact hcell3
      clear hcell3
      cases x with
      | true =>
        go_wp2_with (go_at_call 14; refine (rq_num b W1.heap.size ok en _ hR).mono ?_)
        rintro e V1 ⟨n, rfl, hM, hg1⟩
        have hB1 := grown_below hB hb hg1
        clear hB hg1 hR hcell
        go_wp2_with (go_at_call 15; refine (rq_numq b W1.heap.size n _ hM).mono ?_)
        rintro e V2 ⟨rfl, ⟨ok2, en2, hR2⟩, hg2⟩
        have hB2 := grown_below hB1 b1.size hg2
        clear hB1 hg2 hM
        go_wp2_with (go_at_call 18; refine (rq_ok b W1.heap.size ok2 en2 _ hR2).mono ?_; rintro e w' ⟨rfl, rfl⟩)
        go_wp2_with (go_at_call 19; refine (rq_okq b W1.heap.size ok2 en2 _ hR2).mono ?_; rintro e w' ⟨rfl, rfl⟩)
        go_wp2_with (go_at_call 20; refine (rq_end b W1.heap.size ok2 en2 _ hR2).mono ?_; rintro e w' ⟨rfl, rfl⟩)
        go_wp2_with (go_at_call 21; refine (rq_endq b W1.heap.size ok2 en2 _ hR2).mono ?_; rintro e w' ⟨rfl, rfl⟩)
        go_roundw
        case rel => exact ⟨k + 1, ok2, en2, by omega, by omega, by go_num, hR2, hB2⟩
        case measure => simp [intOf]; omega
      | false =>
        go_wp2_with (go_at_call 16; refine (rq_text b W1.heap.size ok en _ hR).mono ?_)
        rintro e V1 ⟨t, rfl, hM, hg1⟩
        have hB1 := grown_below hB hb hg1
        clear hB hg1 hR hcell
        go_wp2_with (go_at_call 17; refine (rq_textq b W1.heap.size t _ hM).mono ?_)
        rintro e V2 ⟨rfl, ⟨ok2, en2, hR2⟩, hg2⟩
        have hB2 := grown_below hB1 b1.size hg2
        clear hB1 hg2 hM
        go_wp2_with (go_at_call 18; refine (rq_ok b W1.heap.size ok2 en2 _ hR2).mono ?_; rintro e w' ⟨rfl, rfl⟩)
        go_wp2_with (go_at_call 19; refine (rq_okq b W1.heap.size ok2 en2 _ hR2).mono ?_; rintro e w' ⟨rfl, rfl⟩)
        go_wp2_with (go_at_call 20; refine (rq_end b W1.heap.size ok2 en2 _ hR2).mono ?_; rintro e w' ⟨rfl, rfl⟩)
        go_wp2_with (go_at_call 21; refine (rq_endq b W1.heap.size ok2 en2 _ hR2).mono ?_; rintro e w' ⟨rfl, rfl⟩)
        go_roundw
        case rel => exact ⟨k + 1, ok2, en2, by omega, by omega, by go_num, hR2, hB2⟩
        case measure => simp [intOf]; omega
    · by_cases hlt1 : k < l1
      · have hlt2 : ¬ k < 40 := by omega
        clear hlt
        go_wp2_with (go_at_call 12; refine (works_any _).mono ?_)
        rintro e V3 ⟨rfl, b6⟩
        have b7 := below_step hB b6
        go_wp2
        go_ret
        exact ⟨rfl, b7⟩
      · clear hlt
        go_wp2_with (go_at_call 12; refine (works_any _).mono ?_)
        rintro e V3 ⟨rfl, b6⟩
        have b7 := below_step hB b6
        go_wp2
        go_ret
        exact ⟨rfl, b7⟩

end Go.Proofs.Ytijjpnpjdnddoaa
