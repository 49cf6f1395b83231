/- A string's bytes in memory, one of them set, read as a string again. -/
import Derived.Test.YtpjjmaknajjimaaDoorStr
import Derived.Test.YtpjjmaknajjimaaDoorProg
import Derived.WalkKit
import Derived.OpenShut
import Derived.Lib.ConvBytes
namespace Go.Proofs.YtpjjmaknajjimaaDoor
open Go.RowKit

theorem byte_of (a : Int) (w : (Lit.int .u8 a).wf = true) : ∃ c : UInt8, a = (c.toNat : Int) := by
  have hb := bounds_u8 w
  refine ⟨UInt8.ofNat a.toNat, ?_⟩
  rw [ofNat_small _ (by omega)]
  omega

theorem bytesWorld_below (w : World) (s : ByteArray) : Below w.heap.size w (Lib.bytesWorld w 5 s) :=
  ⟨rfl, rfl, rfl, by rw [Lib.bytesWorld_size]; omega, fun k hk => Lib.bytesWorld_at_old w 5 s k hk⟩

theorem bytesWorld_at (w : World) (s : ByteArray) (i : Nat) (h : i < s.size) : (Lib.bytesWorld w 5 s).cell? ⟨w.heap.size, i, none⟩ = some (.int .u8 (((bl s)[i]'(by rw [bl_len]; exact h)).toNat : Int)) := by
  rw [Lib.bytesWorld_cell w 5 s i h]
  have : s.data.toList.getD i 0 = (bl s)[i]'(by rw [bl_len]; exact h) := by simp [bl, h]
  rw [this]

theorem bytesWorld_free (w : World) (s : ByteArray) (i : Nat) (h : i < s.size) : (Lib.bytesWorld w 5 s).frozen? ⟨w.heap.size, i, none⟩ = false := by
  have hc := grownCap_ge w s.size 0 5
  have hs : s.size ≤ (Lib.bytesCells w 5 s).size := by
    have : s.size = s.data.size := rfl
    simp [Lib.bytesCells]
  simp [World.frozen?, Lib.bytesWorld_at_new]
  omega

/-- A string's bytes, one of them set, read as a string again. -/
theorem conv_set (w : World) (s : ByteArray) (i cap : Nat) (x : UInt8) (h : i < s.size) :
    (convert 33 9 (.slice (some ⟨w.heap.size, 0, none⟩) s.size cap)).run Tryd.prog ((Lib.bytesWorld w 5 s).setCell ⟨w.heap.size, i, none⟩ (.int .u8 (x.toNat : Int))) =
      .ok (.string (str ((bl s).set i x))) ((Lib.bytesWorld w 5 s).setCell ⟨w.heap.size, i, none⟩ (.int .u8 (x.toNat : Int))) := by
  have hl : ((bl s).set i x).length = s.size := by rw [List.length_set, bl_len]
  have := run_convert_bytes_back (P := Tryd.prog) ((Lib.bytesWorld w 5 s).setCell ⟨w.heap.size, i, none⟩ (.int .u8 (x.toNat : Int))) 33 9 5 ⟨w.heap.size, 0, none⟩ cap ((bl s).set i x) Tryd.underlying33 Tryd.underlying5 Tryd.underlying9 ?_
  · rw [hl] at this
    exact this
  · intro j hj
    have hj' : j < s.size := by omega
    rw [addr_add, Nat.zero_add]
    by_cases e : i = j
    · subst e
      rw [World.cell?_setCell_same _ _ _ (bytesWorld_at w s i h), List.getElem_set_self]
    · rw [World.cell?_setCell_other _ _ _ _ (fun h' => e (by simpa using congrArg Addr.off h')), bytesWorld_at w s j hj', List.getElem_set_ne e]

end Go.Proofs.YtpjjmaknajjimaaDoor
