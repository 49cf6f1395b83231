/- What the document's own whole does: a text's frame. -/
import Derived.Test.YtpjjmaknajjimaaDoorFIns
import Derived.Test.YtpjjmaknajjimaaDoorCRSum
import Derived.Deep.RegionWith
namespace Go.Proofs.YtpjjmaknajjimaaDoor
open Go.RowKit

def sixCells (l n : Nat) : Array Value := #[.int .u8 ((l : Int) / 256 % 256), .int .u8 ((l : Int) % 256), .int .u8 ((n : Int) / 16777216), .int .u8 ((n : Int) / 65536 % 256), .int .u8 ((n : Int) / 256 % 256), .int .u8 ((n : Int) % 256)]

theorem sixCells_eq (l n : Nat) (hn : n < 4294967296) : sixCells l n = (Lib.byteCells (len2 l ++ be4 n)).toArray := by
  have e0 := ofNat_small (l / 256 % 256) (by omega)
  have e1 := ofNat_small (l % 256) (by omega)
  have e2 : (UInt8.ofNat (n / 16777216 % 256)).toNat = n / 16777216 := by rw [ofNat_small _ (by omega)]; omega
  have e3 := ofNat_small (n / 65536 % 256) (by omega)
  have e4 := ofNat_small (n / 256 % 256) (by omega)
  have e5 := ofNat_small (n % 256) (by omega)
  simp only [Lib.byteCells, len2, be4, List.cons_append, List.nil_append, List.map_cons, List.map_nil, e0, e1, e2, e3, e4, e5]
  rfl

/-- Bytes that fill a block, read as a string. -/
theorem conv_block (P : List UInt8) (b k : Nat) (w : World) (hk : P.length = k) (h : w.heap[b]? = some (.cells (Lib.byteCells P).toArray 5 (0, 0))) :
    (convert 33 9 (.slice (some ⟨b, 0, none⟩) k k)).run Tryd.prog w = .ok (.string (str P)) w := by
  subst hk
  refine run_convert_bytes_back (P := Tryd.prog) w 33 9 5 ⟨b, 0, none⟩ P.length P Tryd.underlying33 Tryd.underlying5 Tryd.underlying9 ?_
  intro j hj
  rw [addr_add, Nat.zero_add, cell_of_row w b j _ _ _ h]
  simp [Lib.byteCells, hj]

theorem zeros_cells (z : Nat) : madeCells #[Value.int .u8 0] z = (Lib.byteCells (List.replicate z 0)).toArray := by
  apply Array.ext'
  apply List.ext_getElem?
  intro j
  by_cases hj : j < z <;> simp [madeCells, Lib.byteCells, hj, Nat.mod_one]

theorem make_zeros (e : Int) (z : Nat) (w : World) (he : e = (z : Int)) (hz : z ≤ 1000000) :
    (Instr.makeSlice 33 (.int .i64 e) (.int .i64 e)).run Tryd.prog w = .ok (.slice (some ⟨w.heap.size, 0, none⟩) z z) (w.alloc (.cells (Lib.byteCells (List.replicate z 0)).toArray 5)) := by
  subst he
  obtain ⟨i0, hi, hz0, hz1, hz2⟩ := info_parts Tryd.info5
  have hmk := run_make (P := Tryd.prog) w 33 5 i0 (.int .u8 0) Tryd.underlying33 hi hz0 .i64 .i64 (z : Int) (z : Int) (by omega) (by omega) (by rw [hz2]; omega) (by omega)
  rw [hz1] at hmk
  rw [← zeros_cells]
  simpa [Value.cells] using hmk

theorem str_add (a b : List UInt8) : str a ++ str b = str (a ++ b) := by
  apply ByteArray.ext
  apply Array.ext'
  simp [str]

theorem drew_new (w : World) (o : Obj) : (w.alloc o).drew.heap[w.heap.size]? = some o := heap_alloc_new w o
theorem drew_new2 (w : World) (o o' : Obj) : ((w.alloc o).alloc o').drew.heap[w.heap.size]? = some o := by
  have h : ((w.alloc o).alloc o').heap[w.heap.size]? = (w.alloc o).heap[w.heap.size]? := heap_alloc_old _ _ (by simp)
  exact h.trans (heap_alloc_new w o)
theorem drew_last (w : World) (o o' : Obj) : ((w.alloc o).alloc o').drew.heap[w.heap.size + 1]? = some o' := by
  have h := heap_alloc_new (w.alloc o) o'
  have e : (w.alloc o).heap.size = w.heap.size + 1 := by simp
  rw [e] at h
  exact h

set_option maxHeartbeats 1600000 in
theorem whole_any (s : ByteArray) (w : World) (hs : s.size ≤ 100000) :
    Calls Tryd.prog 20 #[.string s] w (okStr (str (wholeB (bl s))) w) := by
  have hn := crcSum_lt (bl s)
  have hw : wholeB (bl s) = len2 s.size ++ be4 (crcSum (bl s)) ++ bl s ++ List.replicate (nsec s.size * 32 - 6 - s.size) 0 := by
    simp only [wholeB, rawB, headB, bl_len]
  have hns : nsec s.size ≤ 4000 := by unfold nsec; omega
  have hnl := nsec_le s.size
  rw [hw]
  generalize hc : crcSum (bl s) = n at *
  have HR : Hid (∀ W, Calls Tryd.prog 26 #[.string s] W fun e w' => e = .returned (.int .u32 (n : Int)) ∧ W = w') := by
    intro W
    have := rsum_any s W (by omega)
    rwa [hc] at this
  clear hc
  obtain ⟨z, hz⟩ : ∃ z, z = nsec s.size * 32 - 6 - s.size := ⟨_, rfl⟩
  rw [← hz]
  have he : IntKind.i64.wrap (IntKind.i64.wrap (IntKind.i64.wrap (((nsec s.size : Nat) : Int) * 32) - 6) - (s.size : Int)) = (z : Int) := by
    rw [show ((nsec s.size : Nat) : Int) * 32 = ((nsec s.size * 32 : Nat) : Int) from by omega, wrap_i64_nat _ (by omega),
      show ((nsec s.size * 32 : Nat) : Int) - 6 = ((nsec s.size * 32 - 6 : Nat) : Int) from by omega, wrap_i64_nat _ (by omega),
      show ((nsec s.size * 32 - 6 : Nat) : Int) - (s.size : Int) = (z : Int) from by omega, wrap_i64_nat _ (by omega)]
  have he2 : ((nsec s.size : Nat) : Int) * 32 - 6 - (s.size : Int) = (z : Int) := by omega
  have hze : z ≤ 1000000 := by omega
  have h6 : (len2 s.size ++ be4 n).length = 6 := rfl
  have hW : w.alloc (.cells (sixCells s.size n) 5) = w.alloc (.cells (Lib.byteCells (len2 s.size ++ be4 n)).toArray 5) := by rw [sixCells_eq _ _ hn]
  have hc1 := conv_block (len2 s.size ++ be4 n) w.heap.size 6 (w.alloc (.cells (sixCells s.size n) 5)).drew h6 (by rw [hW]; exact drew_new _ _)
  have hc2 := conv_block (len2 s.size ++ be4 n) w.heap.size 6 ((w.alloc (.cells (sixCells s.size n) 5)).alloc (.cells (Lib.byteCells (List.replicate z 0)).toArray 5)).drew h6 (by rw [hW]; exact drew_new2 _ _ _)
  have hm := make_zeros _ z (w.alloc (.cells (sixCells s.size n) 5)).drew he hze
  have hm2 := make_zeros _ z (w.alloc (.cells (sixCells s.size n) 5)).drew he2 hze
  have hc3 := conv_block (List.replicate z 0) (w.heap.size + 1) z ((w.alloc (.cells (sixCells s.size n) 5)).alloc (.cells (Lib.byteCells (List.replicate z 0)).toArray 5)).drew (by simp) (drew_last _ _ _)
  have hsz : (w.alloc (.cells (sixCells s.size n) 5)).drew.heap.size = w.heap.size + 1 := by simp
  rw [hsz] at hm hm2
  have hb : Below w.heap.size w ((w.alloc (.cells (sixCells s.size n) 5)).alloc (.cells (Lib.byteCells (List.replicate z 0)).toArray 5)).drew := (below_new (below_new (Below.refl _ _) _) _).drew
  have hz6 : (str (len2 s.size ++ be4 n)).size = 6 := rfl
  have hzz : (str (List.replicate z 0)).size = z := by rw [str_size]; simp
  have hfin : (str (len2 s.size ++ be4 n) ++ s) ++ str (List.replicate z 0) = str (len2 s.size ++ be4 n ++ bl s ++ List.replicate z 0) := by
    rw [show str (len2 s.size ++ be4 n) ++ s = str (len2 s.size ++ be4 n) ++ str (bl s) from by rw [str_bl], str_add, str_add]
  have Hfin := Lib.hid hfin
  have He := Lib.hid he
  clear hW hz hfin h6 hsz he hw he2
  unfold sixCells at *
  generalize str (len2 s.size ++ be4 n ++ bl s ++ List.replicate z 0) = T at *
  generalize str (len2 s.size ++ be4 n) = H at *
  generalize str (List.replicate z 0) = Z at *
  generalize (Lib.byteCells (List.replicate z 0)).toArray = zc at *
  go_enter Tryd.func20, Tryd.ntmps20
  go_wp2_with (go_at_call 26; refine (HR.out _).mono ?_; rintro e w' ⟨rfl, rfl⟩)
  go_region_with (go_at_call 12; refine (rsize_any s _ (by omega)).mono ?_; rintro e w' ⟨rfl, rfl⟩)
  all_goals
    go_wp2
    go_ret
    exact ⟨by rw [← Hfin.out]; rfl, hb⟩

end Go.Proofs.YtpjjmaknajjimaaDoor
