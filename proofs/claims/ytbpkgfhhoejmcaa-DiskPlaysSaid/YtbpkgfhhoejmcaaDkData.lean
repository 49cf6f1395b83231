/- What data of the statements does: a letter, 32 times; or too short. -/
import Derived.Test.YtbpkgfhhoejmcaaDkNew
import Derived.Test.YtbpkgfhhoejmcaaInfo
import Derived.LoopTactic
namespace Go.Proofs.Ytbpkgfhhoejmcaa.dk
open Go Go.RowKit

theorem zeros_cells (z : Nat) : madeCells #[Value.int .u8 0] z = (Lib.byteCells (List.replicate z 0)).toArray := by
  apply Array.ext'
  apply List.ext_getElem?
  intro j
  by_cases hj : j < z <;> simp [madeCells, Lib.byteCells, hj, Nat.mod_one]

theorem make_zeros (e : Int) (z : Nat) (w : World) (he : e = (z : Int)) (hz : z ≤ 1000000) :
    (Instr.makeSlice 67 (.int .i64 e) (.int .i64 e)).run Try.prog w = .ok (.slice (some ⟨w.heap.size, 0, none⟩) z z) (w.alloc (.cells (Lib.byteCells (List.replicate z 0)).toArray 5)) := by
  subst he
  obtain ⟨i0, hi, hz0, hz1, hz2⟩ := info_parts Try.info5
  have hmk := run_make (P := Try.prog) w 67 5 i0 (.int .u8 0) Try.underlying67 hi hz0 .i64 .i64 (z : Int) (z : Int) (by omega) (by omega) (by rw [hz2]; omega) (by omega)
  rw [hz1] at hmk
  rw [← zeros_cells]
  simpa [Value.cells] using hmk

theorem exec_make32 {ρ : Operand → Value} {o : Oper} {w : World} (x y : Operand) (z : Nat) (ho : o.op = .makeSlice 67 x y) (hx : ρ x = .int .i64 (z : Int)) (hy : ρ y = .int .i64 (z : Int)) (hz : z ≤ 1000000) :
    (execOp ρ o).run Try.prog w = .ok (.value (.slice (some ⟨w.heap.size, 0, none⟩) z z)) (w.alloc (.cells (Lib.byteCells (List.replicate z 0)).toArray 5)) := by
  have hr := make_zeros (z : Int) z w rfl hz
  simp [execOp, ho, hx, hy, hr, Result.andThen]

theorem conv_part (P : Bt) (cs : Array Value) (b cap : Nat) (t : TypeId) (w : World) (h : w.heap[b]? = some (.cells cs t (0, 0))) (hc : ∀ (j : Nat) (u : Value), (Lib.byteCells P)[j]? = some u → cs[j]? = some u) :
    (convert 67 9 (.slice (some ⟨b, 0, none⟩) P.length cap)).run Try.prog w = .ok (.string (str P)) w := by
  refine run_convert_bytes_back (P := Try.prog) w 67 9 5 ⟨b, 0, none⟩ cap P Try.underlying67 Try.underlying5 Try.underlying9 ?_
  intro j hj
  rw [addr_add, Nat.zero_add, cell_of_row w b j _ _ _ h]
  exact hc j _ (by simp [Lib.byteCells, hj])

def okS (v : Bt) (w : World) (e : Ending) (w' : World) : Prop := e = .returned (.string (str v)) ∧ Below w.heap.size w w'

def part (c : UInt8) (k : Nat) : Array Value := (Lib.byteCells (List.replicate k c ++ List.replicate (32 - k) 0)).toArray

theorem part_zero (c : UInt8) : part c 0 = (Lib.byteCells (List.replicate 32 0)).toArray := rfl
theorem part_size (c : UInt8) (k : Nat) (h : k ≤ 32) : (part c k).size = 32 := by simp [part, Lib.byteCells]; omega
theorem part_set (c : UInt8) (k : Nat) (h : k < 32) : (part c k).setIfInBounds k (.int .u8 (c.toNat : Int)) = part c (k + 1) := by
  unfold part Lib.byteCells
  simp only [List.setIfInBounds_toArray, List.map_append, List.map_replicate]
  rw [List.set_append_right _ _ (by simp)]
  congr 1
  rw [show 32 - k = (32 - (k + 1)) + 1 by omega, List.replicate_succ, List.replicate_succ']
  simp
theorem rep_length (c : UInt8) (n : Nat) : (rep c n).length = n := by simp [rep]
theorem part_full (c : UInt8) : part c 32 = (Lib.byteCells (rep c 32)).toArray := by simp [part, rep]

set_option maxRecDepth 100000 in
set_option maxHeartbeats 800000 in
theorem data_any (c : UInt8) (w : World) : Calls Try.prog 11 #[.int .u8 (c.toNat : Int)] w (okS (dat c) w) := by
  have hc0 : (0 : Int) ≤ (c.toNat : Int) := by omega
  have hc1 : (c.toNat : Int) < 256 := by have := c.toNat_lt; omega
  go_enter Try.func11, Try.ntmps11
  go_wp2_with (at_make; refine wpList_value rfl (exec_make32 _ _ 32 rfl rfl rfl (by decide)) ?_; rw [← part_zero c])
  have hb0 : Blk (w.alloc (.cells (part c 0) 5)) w.heap.size 5 (part c 0) := Blk.new _ _ _
  have hB0 : Below w.heap.size w (w.alloc (.cells (part c 0) 5)) := (Below.refl _ w).alloc (Nat.le_refl _) _
  have Hb0 := Lib.hid hb0
  have HB0 := Lib.hid hB0
  clear hb0 hB0
  generalize w.alloc (.cells (part c 0) 5) = W0 at *
  go_loopw [4] (fun i wr => ∃ k : Nat, k ≤ 32 ∧ i = .int .i64 (k : Int) ∧ Blk wr w.heap.size 5 (part c k) ∧ Below w.heap.size w wr) (fun i _ => 32 - (intOf i).toNat)
  case atStart => exact ⟨0, by omega, rfl, Hb0.out, HB0.out⟩
  case round =>
    obtain ⟨k, hk, rfl, hbk, hBk⟩ := hrel
    have HBK := Lib.hid hbk
    have HB := Lib.hid hBk
    by_cases hlt : k < 32
    · have hcell : (wr.cell? ⟨w.heap.size, k, none⟩).isSome = true := by
        rw [hbk.cell k, Array.getElem?_eq_getElem (by rw [part_size c k hk]; exact hlt)]
        rfl
      obtain ⟨u, hu⟩ := Option.isSome_iff_exists.1 hcell
      have hf := hbk.frozen k
      clear hbk hBk hcell
      go_wp2_with fail
      go_roundw
      case rel => exact ⟨k + 1, by omega, by go_num, by rw [← part_set c k hlt]; exact HBK.out.set_ k _, HB.out.setCell (Nat.le_refl _) _⟩
      case measure => simp [intOf]; omega
    · have hk32 : k = 32 := by omega
      clear hbk hBk hk hlt
      subst hk32
      have hP := HBK.out
      rw [part_full] at hP
      have HP := Lib.hid hP
      clear hP
      by_cases h250 : c.toNat ≤ 250
      · have hcv := conv_block (rep c 32) w.heap.size 32 5 wr (rep_length _ _) HP.out
        have hd : dat c = rep c 32 := by unfold dat; rw [if_pos h250]
        have HD := Lib.hid hd
        have h250' : ¬ 250 < (c.toNat : Int) := by omega
        clear hd h250
        go_wp2_with fail
        go_ret
        exact ⟨(by rw [HD.out]; rfl), HB.out⟩
      · have hd : dat c = rep c (c.toNat % 31) := by unfold dat; rw [if_neg h250]
        have HD := Lib.hid hd
        have hm : c.toNat % 31 < 31 := Nat.mod_lt _ (by decide)
        have hcv := conv_part (rep c (c.toNat % 31)) _ w.heap.size 32 5 wr HP.out (by
          intro j u hu
          have hj : j < c.toNat % 31 := by have := (List.getElem?_eq_some_iff.1 hu).1; simpa [Lib.byteCells, rep] using this
          simp only [Lib.byteCells, rep, List.map_replicate, List.getElem?_toArray, List.getElem?_replicate] at hu ⊢
          rw [if_pos hj] at hu
          rw [if_pos (by omega)]
          exact hu)
        rw [rep_length] at hcv
        have h250' : 250 < (c.toNat : Int) := by omega
        have hmi : ((c.toNat : Int) % 31).toNat = c.toNat % 31 := by omega
        have hmi0 : 0 ≤ (c.toNat : Int) % 31 := by omega
        have hmi1 : (c.toNat : Int) % 31 ≤ 32 := by omega
        clear hd h250
        go_wp2_with fail
        go_ret
        exact ⟨(by rw [HD.out]; rfl), HB.out⟩

end Go.Proofs.Ytbpkgfhhoejmcaa.dk
