/- A write's row of 66 cells: made, its parts set, read whole. -/
import Derived.Test.YtbpkgfhhoejmcaaDkLose
import Derived.Laws.CopyRow
import Derived.Test.YtbpkgfhhoejmcaaInfo
namespace Go.Proofs.Ytbpkgfhhoejmcaa.dk
open Go Go.RowKit

theorem info70z : (Try.prog.info? 61).map (fun i => (i.zero, i.size)) = some (some (.agg (wrCells (0, zz, zz, false)).toArray), 66) := by kernel_rfl
theorem info70 : (Try.prog.info? 61).map (fun i => (i.zero, i.size, i.bytes)) = some (some (.agg (wrCells (0, zz, zz, false)).toArray), 66, 80) := by kernel_rfl
theorem size70 : (Try.prog.info? 61).map (·.size) = some 66 := by kernel_rfl

theorem wrCells_len (x : Nat × Bt × Bt × Bool) (h1 : x.2.1.length = 32) (h2 : x.2.2.1.length = 32) : (wrCells x).length = 66 := by
  simp [wrCells, Lib.byteCells, h1, h2]

theorem wrCells_one (x : Nat × Bt × Bt × Bool) : ∀ u ∈ wrCells x, u.oneCell' = true := by
  intro u hu
  simp only [wrCells, List.mem_cons, List.mem_append, List.not_mem_nil, or_false] at hu
  rcases hu with rfl | hu | hu | rfl
  · rfl
  · exact Lib.byteCells_one _ u hu
  · exact Lib.byteCells_one _ u hu
  · rfl

theorem wr_all (x : Nat × Bt × Bt × Bool) : (wrCells x).toArray.all (·.oneCell') = true := by
  rw [Array.all_eq_true']
  intro u hu
  exact wrCells_one x u (by simpa using hu)

theorem exec_alloc70 {ρ : Operand → Value} {o : Oper} {w : World} (ho : o.op = .alloc 61) :
    (execOp ρ o).run Try.prog w = .ok (.value (.pointer (some ⟨w.heap.size, 0, none⟩))) (w.alloc (.cells (wrCells (0, zz, zz, false)).toArray 61)) := by
  obtain ⟨hz, _⟩ := zero_of_info info70z
  simp [execOp, ho, Instr.alloc, hz, Result.andThen, go_sem, Value.cells]

theorem exec_build70 {ρ : Operand → Value} {o : Oper} {w : World} (x : Operand) (k : Nat) (ho : o.op = .build 61 #[(0, x)]) (hx : ρ x = .int .i64 (k : Int)) :
    (execOp ρ o).run Try.prog w = .ok (.value (.agg (wrCells (k, zz, zz, false)).toArray)) w := by
  obtain ⟨hz, _⟩ := zero_of_info info70z
  have hb : (Instr.build 61 #[(0, .int .i64 (k : Int))]).run Try.prog w = .ok (.agg (wrCells (k, zz, zz, false)).toArray) w := by
    have e : (wrCells (k, zz, zz, false)).toArray = (wrCells (0, zz, zz, false)).toArray.set! 0 (.int .i64 (k : Int)) := rfl
    rw [e]
    have hne : (wrCells (0, zz, zz, false)).toArray ≠ #[] := by simp [wrCells]
    generalize (wrCells (0, zz, zz, false)).toArray = z0 at *
    simp [Instr.build, hz, Result.andThen, go_sem, Value.cells]
    rw [if_neg hne]
    rfl
  simp [execOp, ho, hx, hb, Result.andThen]

theorem run_storeVar_part {P : Program} (w : World) (g o : Nat) (t ty : TypeId) (cur : Array Value) (xs : List Value) (hg : w.heap[g]? = some (.cells cur t (0, 0))) (hi : (P.info? ty).map (·.size) = some xs.length) (hl : o + xs.length ≤ cur.size) (h1 : ∀ v ∈ xs, v.oneCell' = true) :
    (storeVar ty ⟨g, o, none⟩ (.agg xs.toArray)).run P w = .ok () (w.setRow g (cur.toList.take o ++ xs ++ cur.toList.drop (o + xs.length)).toArray) := by
  have := run_storeCells_at P g o t xs 0 cur w hg (by simpa using hl) h1
  cases hq : P.info? ty with
  | none => simp [hq] at hi
  | some i =>
    have hs : i.size = xs.length := by simpa [hq] using hi
    simp only [Nat.add_zero] at this
    simp [storeVar, sizeOf, typeInfo, hq, Value.cells, hs, this]

theorem set_data (k : Nat) (v b : Bt) (f : Bool) (u : Bt) (h : u.length = 32) (hv : v.length = 32) :
    (wrCells (k, u, b, f)).take 1 ++ Lib.byteCells v ++ (wrCells (k, u, b, f)).drop (1 + 32) = wrCells (k, v, b, f) := by
  have e1 : (Lib.byteCells u).length = 32 := by rw [Lib.byteCells_length, h]
  have e2 : (Lib.byteCells v).length = 32 := by rw [Lib.byteCells_length, hv]
  simp only [wrCells, List.take_succ_cons, List.take_zero, show 1 + 32 = 32 + 1 from rfl, List.drop_succ_cons]
  rw [List.drop_left' e1]
  simp

theorem set_before (k : Nat) (v b : Bt) (f : Bool) (u : Bt) (hv : v.length = 32) (h : u.length = 32) (hb : b.length = 32) :
    (wrCells (k, v, u, f)).take 33 ++ Lib.byteCells b ++ (wrCells (k, v, u, f)).drop (33 + 32) = wrCells (k, v, b, f) := by
  have e1 : (Lib.byteCells u).length = 32 := by rw [Lib.byteCells_length, h]
  have e2 : (Lib.byteCells v).length = 32 := by rw [Lib.byteCells_length, hv]
  simp only [wrCells, show 33 = 32 + 1 from rfl, List.take_succ_cons, show 32 + 1 + 32 = (32 + 32) + 1 from rfl, List.drop_succ_cons]
  rw [List.take_left' e2, List.drop_append, e2, List.drop_eq_nil_of_le (by omega), show 32 + 32 - 32 = 32 from rfl, List.drop_left' e1]
  simp

theorem set_written (k : Nat) (v b : Bt) (f g : Bool) (hv : v.length = 32) (hb : b.length = 32) : (wrCells (k, v, b, f)).toArray.setIfInBounds 65 (.bool g) = (wrCells (k, v, b, g)).toArray := by
  have e1 : (Lib.byteCells v).length = 32 := by rw [Lib.byteCells_length, hv]
  have e2 : (Lib.byteCells b).length = 32 := by rw [Lib.byteCells_length, hb]
  simp only [List.setIfInBounds_toArray, wrCells, show 65 = 64 + 1 from rfl, List.set_cons_succ]
  rw [List.set_append_right _ _ (by omega), e1, List.set_append_right _ _ (by omega), e2]
  rfl

/-- 'copy(w.data[:], data)'. -/
theorem exec_copy70 {ρ : Operand → Value} {o : Oper} (w : World) (x y : Operand) (k : Nat) (s : ByteArray) (ho : o.op = .call { callee := .builtin .copy, args := #[x, y], argTypes := #[67, 9] })
    (hx : ρ x = .slice (some ⟨w.heap.size, 1, none⟩) 32 32) (hy : ρ y = .string s) (hs : s.size = 32) :
    (execOp ρ o).run Try.prog (w.alloc (.cells (wrCells (k, zz, zz, false)).toArray 61)) = .ok (.value (.int .i64 32)) (w.alloc (.cells (wrCells (k, bl s, zz, false)).toArray 61)) := by
  obtain ⟨i0, hi, hz0, hz1, hz2⟩ := info_parts Try.info5
  have hl : (bl s).length = 32 := by rw [bl_len, hs]
  have hst := run_storeCells_at Try.prog w.heap.size 1 61 (Lib.byteCells (bl s)) 0 (wrCells (k, zz, zz, false)).toArray (w.alloc (.cells (wrCells (k, zz, zz, false)).toArray 61)) (heap_alloc_new w _) (by simp [wrCells_len, Lib.byteCells_length, hl, zz_length]) (Lib.byteCells_one _)
  rw [World.setRow_alloc_new, Lib.byteCells_length, hl] at hst
  simp only [Nat.add_zero] at hst
  rw [set_data k (bl s) zz false zz zz_length hl] at hst
  have htk : List.take 32 (List.map (fun b : UInt8 => Value.int IntKind.u8 (b.toNat : Int)) s.data.toList) = Lib.byteCells (bl s) := by
    rw [List.take_of_length_le]
    · rfl
    · simp only [List.length_map]
      have : s.data.toList.length = 32 := hl
      omega
  have hc : (Builtin.copy_ #[67, 9] o.type #[.slice (some ⟨w.heap.size, 1, none⟩) 32 32, .string s]).run Try.prog (w.alloc (.cells (wrCells (k, zz, zz, false)).toArray 61)) = .ok (.int .i64 32) (w.alloc (.cells (wrCells (k, bl s, zz, false)).toArray 61)) := by
    simp [Builtin.copy_, run_underlying Try.underlying67, Builtin.lenOf, Builtin.firstCells, sizeOf, typeInfo, hi, hs]
    rw [htk, hst]
    simp [Result.andThen]
    rfl
  simp [execOp, ho, resolve, invoke, builtin, hx, hy, hc, Result.andThen]

/-- 'w.before = ..'. -/
theorem exec_store_before {ρ : Operand → Value} {o : Oper} (w : World) (x y : Operand) (k : Nat) (v b : Bt) (f : Bool) (ho : o.op = .store 58 x y) (hx : ρ x = .pointer (some ⟨w.heap.size, 33, none⟩)) (hy : ρ y = cVal b) (hv : v.length = 32) (hb : b.length = 32) :
    (execOp ρ o).run Try.prog (w.alloc (.cells (wrCells (k, v, zz, f)).toArray 61)) = .ok .skip (w.alloc (.cells (wrCells (k, v, b, f)).toArray 61)) := by
  have e2 : (Lib.byteCells b).length = 32 := by rw [Lib.byteCells_length, hb]
  have hr := run_storeVar_part (P := Try.prog) (w.alloc (.cells (wrCells (k, v, zz, f)).toArray 61)) w.heap.size 33 61 58 (wrCells (k, v, zz, f)).toArray (Lib.byteCells b) (heap_alloc_new w _) (by rw [info67, e2]) (by simp [wrCells_len, hv, zz_length, e2]) (Lib.byteCells_one _)
  rw [World.setRow_alloc_new, e2] at hr
  simp only at hr
  rw [set_before k v b f zz hv zz_length hb] at hr
  have h2 : (Instr.storeAt 58 (.pointer (some ⟨w.heap.size, 33, none⟩)) (cVal b)).run Try.prog (w.alloc (.cells (wrCells (k, v, zz, f)).toArray 61)) = .ok () (w.alloc (.cells (wrCells (k, v, b, f)).toArray 61)) := by
    simp only [Instr.storeAt, Instr.sureAddr, Sem.run_bind, Sem.run_pure, Result.andThen]
    exact hr
  simp [execOp, ho, hx, hy, h2, Result.andThen]

/-- 'w.written = ..'. -/
theorem exec_store_written {ρ : Operand → Value} {o : Oper} (w : World) (x y : Operand) (k : Nat) (v b : Bt) (f : Bool) (ho : o.op = .store 4 x y) (hx : ρ x = .pointer (some ⟨w.heap.size, 65, none⟩)) (hy : ρ y = .bool f) (hv : v.length = 32) (hb : b.length = 32) :
    (execOp ρ o).run Try.prog (w.alloc (.cells (wrCells (k, v, b, false)).toArray 61)) = .ok .skip (w.alloc (.cells (wrCells (k, v, b, f)).toArray 61)) := by
  have hB : Blk (w.alloc (.cells (wrCells (k, v, b, false)).toArray 61)) w.heap.size 61 (wrCells (k, v, b, false)).toArray := Blk.new _ _ _
  have hc : (w.alloc (.cells (wrCells (k, v, b, false)).toArray 61)).cell? ⟨w.heap.size, 65, none⟩ = some (.bool false) := by
    rw [hB.cell 65]
    exact (rowOf (k, v, b, false) hv hb).written
  have hf := hB.frozen 65
  have hW : (w.alloc (.cells (wrCells (k, v, b, false)).toArray 61)).setCell ⟨w.heap.size, 65, none⟩ (.bool f) = w.alloc (.cells (wrCells (k, v, b, f)).toArray 61) := by
    rw [setCell_eq_setRow _ _ _ _ _ _ _ (heap_alloc_new w _), World.setRow_alloc_new, set_written k v b false f hv hb]
  unfold execOp
  rw [ho]
  simp only [hx, hy]
  rw [← hW]
  generalize w.alloc (.cells (wrCells (k, v, b, false)).toArray 61) = W at *
  go_simp

end Go.Proofs.Ytbpkgfhhoejmcaa.dk
