/- Strings of the program as lists of bytes; and small words that all walks use. -/
import Derived.Below
import Derived.Lib.Hide
import Derived.Lib.Strings
namespace Go.Proofs.Ytadobhfmhcaofaa
open Go Go.RowKit
set_option maxRecDepth 100000

def str (l : List UInt8) : ByteArray := ⟨l.toArray⟩
def bl (s : ByteArray) : List UInt8 := s.data.toList

theorem bl_str (l : List UInt8) : bl (str l) = l := by simp [bl, str]
theorem str_bl (s : ByteArray) : str (bl s) = s := by obtain ⟨⟨l⟩⟩ := s; rfl
theorem str_size (l : List UInt8) : (str l).size = l.length := by simp [str, ByteArray.size]
theorem bl_len (s : ByteArray) : (bl s).length = s.size := by obtain ⟨⟨l⟩⟩ := s; simp [bl, ByteArray.size]
theorem str_inj {l m : List UInt8} (h : str l = str m) : l = m := by
  have := congrArg bl h
  rwa [bl_str, bl_str] at this

theorem toList_bl (s : ByteArray) : s.toList = bl s := Lib.toList_data s
theorem bl_extract (s : ByteArray) (a b : Nat) : bl (s.extract a b) = ((bl s).drop a).take (b - a) := Lib.extract_data s a b
theorem bl_upto (s : ByteArray) (k : Nat) : bl (s.extract 0 k) = (bl s).take k := by rw [bl_extract]; simp
theorem bl_from (s : ByteArray) (k : Nat) : bl (s.extract k s.size) = (bl s).drop k := by
  rw [bl_extract, List.take_of_length_le]
  rw [List.length_drop, bl_len]; omega
theorem beq_bl (s : ByteArray) (l : List UInt8) : (s.toList == (str l).toList) = decide (bl s = l) := by
  rw [toList_bl, toList_bl, bl_str, Bool.eq_iff_iff]; simp

theorem ofNat_small (k : Nat) (h : k < 256) : (UInt8.ofNat k).toNat = k := by
  simp [UInt8.toNat_ofNat']; omega

theorem addr_add (b o j : Nat) : (⟨b, o, none⟩ : Addr).add j = ⟨b, o + j, none⟩ := by
  unfold Addr.add
  split
  · subst_vars; rfl
  · rfl

theorem below_step {w A B : World} (h : Below w.heap.size w A) (g : Below A.heap.size A B) : Below w.heap.size w B := h.trans (g.mono h.size)
theorem below_new {w A : World} (h : Below w.heap.size w A) (o : Obj) : Below w.heap.size w (A.alloc o) := h.alloc h.size o

def okTrue (w : World) (e : Ending) (w' : World) : Prop := e = .returned (.bool true) ∧ Below w.heap.size w w'
def okStr (r : ByteArray) (w : World) (e : Ending) (w' : World) : Prop := e = .returned (.string r) ∧ Below w.heap.size w w'

end Go.Proofs.Ytadobhfmhcaofaa
