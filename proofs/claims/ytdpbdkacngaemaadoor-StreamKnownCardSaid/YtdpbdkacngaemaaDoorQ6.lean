/- Parts, StBox, StCut, StRCut. -/
import Derived.Test.YtdpbdkacngaemaaDoorQ1
import Derived.Test.YtdpbdkacngaemaaDoorQ5
import Derived.Maps.AppendAt
import Derived.Tactics
import Derived.WalkSpells
import Derived.WalkLawsBesides
import Derived.BigCall
import Derived.Deep.WholeRow
import Derived.Great.BuildSlice
import Derived.Laws.CopyRow
import Derived.Lib.BufferWrite
set_option linter.unusedVariables false
set_option linter.unusedSimpArgs false
/- Parts of rows: a value of many cells loaded from, stored into, copied into a part of a block; literals of such. Nothing here speaks of the program. -/
namespace Go.Proofs.YtdpbdkacngaemaaDoor.ib
open Go Go.RowKit
set_option maxRecDepth 100000

theorem fold_put (o : Nat) : ∀ (l : List Value) (k : Nat) (acc : Array Value), o + k + l.length ≤ acc.size →
    (l.zipIdx k).foldl (fun a x => a.setIfInBounds (o + x.2) x.1) acc = (acc.toList.take (o + k) ++ l ++ acc.toList.drop (o + k + l.length)).toArray
  | [], k, acc, _ => by simp
  | x :: l, k, acc, h => by
    have hk : o + k < acc.size := by simp at h; omega
    have hk' : o + k < acc.toList.length := by simpa using hk
    rw [List.zipIdx_cons, List.foldl_cons, fold_put o l (k + 1) _ (by simp at h ⊢; omega)]
    congr 1
    simp only [Array.toList_setIfInBounds, List.length_cons]
    rw [List.drop_set_of_lt (by omega), show o + (k + 1) + l.length = o + k + (l.length + 1) by omega, show o + (k + 1) = o + k + 1 by omega]
    have e : (acc.toList.set (o + k) x).take (o + k + 1) = acc.toList.take (o + k) ++ [x] := by
      rw [List.take_succ_eq_append_getElem (by simpa using hk)]
      simp only [List.getElem_set_self, List.take_set]
      rw [List.set_eq_of_length_le (by simp; omega)]
    rw [e]
    simp

theorem fill_step (place : Nat → Option (Nat × Nat)) (acc : Array Value) (i off size : Nat) (cs : Array Value) (rest : List (Nat × Value)) (hp : place i = some (off, size)) (hs : cs.size = size) (hb : off + size ≤ acc.size) :
    Instr.fill place acc ((i, .agg cs) :: rest) = Instr.fill place (acc.toList.take off ++ cs.toList ++ acc.toList.drop (off + size)).toArray rest := by
  have hl : cs.toList.length = size := by simpa using hs
  have hf := fold_put off cs.toList 0 acc (by simp; omega)
  have hc : (decide (cs.size ≠ size) || decide (off + cs.size > acc.size)) = false := by simp [hs]; omega
  have e : Instr.fill place acc ((i, .agg cs) :: rest) = if (decide (cs.size ≠ size) || decide (off + cs.size > acc.size)) = true then none else Instr.fill place (cs.zipIdx.foldl (fun a x => a.setIfInBounds (off + x.2) x.1) acc) rest := by
    rw [Instr.fill, hp]
    rfl
  rw [e, hc]
  simp only [Bool.false_eq_true, if_false]
  congr 1
  rw [← Array.foldl_toList, Array.toList_zipIdx]
  rw [hl, Nat.add_zero] at hf
  exact hf

/-- A part of a row, as one value. -/
theorem run_loadVar_part {P : Program} (w : World) (g o : Nat) (t ty : TypeId) (cs : Array Value) (xs : List Value) (fr : Nat × Nat) (d : TypeDesc) (hg : w.heap[g]? = some (.cells cs t fr))
    (hu : P.underlying ty = some d) (hd : (match d with | .struct _ | .array _ _ => true | _ => false) = true) (hi : (P.info? ty).map (·.size) = some xs.length) (hx : ∀ j u, xs[j]? = some u → cs[o + j]? = some u) :
    (loadVar ty ⟨g, o, none⟩).run P w = .ok (.agg xs.toArray) w := by
  have hl : (loadCells ⟨g, o, none⟩ xs.length).run P w = .ok xs.toArray w :=
    run_loadCells_list (P := P) w ⟨g, o, none⟩ xs (fun j v hv => by
      rw [addr_add, cell_of_row w g (o + j) cs t fr hg]
      exact hx j v hv)
  cases hq : P.info? ty with
  | none => simp [hq] at hi
  | some i =>
    have hs : i.size = xs.length := by simpa [hq] using hi
    have hagg : (isAgg ty).run P w = .ok true w := by
      unfold isAgg
      rw [Sem.run_bind, run_underlying hu w]
      cases d <;> simp_all
    simp [loadVar, Sem.run_bind, hagg, sizeOf, typeInfo, hq, hs, hl]

theorem exec_load_part {ρ : Operand → Value} {o : Oper} {P : Program} {w : World} (ty : TypeId) (x : Operand) (ho : o.op = .load ty x) (g i : Nat) (hx : ρ x = .pointer (some ⟨g, i, none⟩)) (t : TypeId) (cs : Array Value) (xs : List Value) (fr : Nat × Nat) (d : TypeDesc)
    (hg : w.heap[g]? = some (.cells cs t fr)) (hu : P.underlying ty = some d) (hd : (match d with | .struct _ | .array _ _ => true | _ => false) = true) (hi : (P.info? ty).map (·.size) = some xs.length) (hc : ∀ j u, xs[j]? = some u → cs[i + j]? = some u) :
    (execOp ρ o).run P w = .ok (.value (.agg xs.toArray)) w := by
  simp only [execOp, ho, hx, Instr.loadAt, Instr.sureAddr, Sem.run_bind, Sem.run_pure, Result.andThen_ok, run_loadVar_part w g i t ty cs xs fr d hg hu hd hi hc]

theorem run_storeVar_part {P : Program} (w : World) (g o : Nat) (t ty : TypeId) (cur : Array Value) (xs : List Value) (hg : w.heap[g]? = some (.cells cur t (0, 0))) (hi : (P.info? ty).map (·.size) = some xs.length) (hl : o + xs.length ≤ cur.size) (h1 : ∀ v ∈ xs, v.oneCell' = true) :
    (storeVar ty ⟨g, o, none⟩ (.agg xs.toArray)).run P w = .ok () (w.setRow g (cur.toList.take o ++ xs ++ cur.toList.drop (o + xs.length)).toArray) := by
  have := run_storeCells_at P g o t xs 0 cur w hg (by simpa using hl) h1
  cases hq : P.info? ty with
  | none => simp [hq] at hi
  | some i =>
    have hs : i.size = xs.length := by simpa [hq] using hi
    simp only [Nat.add_zero] at this
    simp [storeVar, sizeOf, typeInfo, hq, Value.cells, hs, this]

theorem exec_store_part {ρ : Operand → Value} {o : Oper} {P : Program} (w : World) (ty : TypeId) (x y : Operand) (ho : o.op = .store ty x y) (g i : Nat) (hx : ρ x = .pointer (some ⟨g, i, none⟩)) (xs : List Value) (hy : ρ y = .agg xs.toArray) (t : TypeId) (cur : Array Value)
    (hg : Blk w g t cur) (hi : (P.info? ty).map (·.size) = some xs.length) (hl : i + xs.length ≤ cur.size) (h1 : ∀ v ∈ xs, v.oneCell' = true) :
    (execOp ρ o).run P w = .ok .skip (w.setRow g (cur.toList.take i ++ xs ++ cur.toList.drop (i + xs.length)).toArray) := by
  have hr := run_storeVar_part (P := P) w g i t ty cur xs hg hi hl h1
  have h2 : (Instr.storeAt ty (.pointer (some ⟨g, i, none⟩)) (.agg xs.toArray)).run P w = .ok () (w.setRow g (cur.toList.take i ++ xs ++ cur.toList.drop (i + xs.length)).toArray) := by
    simp only [Instr.storeAt, Instr.sureAddr, Sem.run_bind, Sem.run_pure, Result.andThen]
    exact hr
  simp [execOp, ho, hx, hy, h2, Result.andThen]

/-- A whole value into the block that was made last. -/
theorem exec_store_new {ρ : Operand → Value} {o : Oper} {P : Program} (w : World) (t : TypeId) (c c' : Array Value) (x y : Operand) (ho : o.op = .store t x y) (hx : ρ x = .pointer (some ⟨w.heap.size, 0, none⟩)) (hy : ρ y = .agg c')
    (hi : (P.info? t).map (·.size) = some c'.size) (hoc : c.size = c'.size) (h1 : c'.all (·.oneCell') = true) :
    (execOp ρ o).run P (w.alloc (.cells c t)) = .ok .skip (w.alloc (.cells c' t)) := by
  have hr := run_storeAt_new (P := P) w t c c' hi hoc h1
  simp [execOp, ho, hx, hy, hr, Result.andThen]

theorem cells_all {l : List Value} (h : ∀ v ∈ l, v.oneCell' = true) : l.toArray.all (·.oneCell') = true := by
  rw [Array.all_eq_true']
  intro u hu
  exact h u (by simpa using hu)

theorem exec_alloc {ρ : Operand → Value} {o : Oper} {P : Program} {w : World} (t : TypeId) (i : TypeInfo) (z : Array Value) (ho : o.op = .alloc t) (hi : P.info? t = some i) (hz : i.zero = some (.agg z)) :
    (execOp ρ o).run P w = .ok (.value (.pointer (some ⟨w.heap.size, 0, none⟩))) (w.alloc (.cells z t)) := by
  have hz : ∀ w, (zeroValue t).run P w = .ok (.agg z) w := fun w => by simp [zeroValue, typeInfo, hi, hz]
  simp [execOp, ho, Instr.alloc, hz, Result.andThen, go_sem, Value.cells]

/-- A struct's or an array's value into a cell of its own. -/
theorem exec_box {ρ : Operand → Value} {o : Oper} {P : Program} {w : World} (t : TypeId) (x : Operand) (cs : Array Value) (ho : o.op = .box t x) (hx : ρ x = .agg cs) (hs : (P.info? t).map (·.size) = some cs.size) (h1 : cs.all (·.oneCell') = true) :
    (execOp ρ o).run P w = .ok (.value (.pointer (some ⟨w.heap.size, 0, none⟩))) (w.alloc (.cells cs t)) := by
  simp [execOp, ho, hx, Instr.box, Result.andThen, go_sem, Value.cells]

/-- A slice literal of one. -/
theorem exec_one {ρ : Operand → Value} {o : Oper} {P : Program} {w : World} (st t : TypeId) (x : Operand) (cs : Array Value) (size : Nat) (ho : o.op = .buildSlice st 1 #[(0, x)]) (hx : ρ x = .agg cs)
    (hu : P.underlying st = some (.slice t)) (i : TypeInfo) (z : Value) (hi : P.info? t = some i) (hz : i.zero = some z) (hs : i.size = size) (h0 : 0 < size) (hm : size ≤ 2 ^ 24) (hc : cs.size = size) :
    (execOp ρ o).run P w = .ok (.value (.slice (some ⟨w.heap.size, 0, none⟩) 1 1)) (w.alloc (.cells cs t)) := by
  have hr := run_buildSlice (P := P) w st t 1 #[(0, .agg cs)] cs i z hu hi hz (by rw [hs]; omega) (by rw [hs]; omega) (by
    rw [hs, fill_step _ _ 0 0 size cs [] (by simp) hc (by simp)]
    simp [Instr.fill]
    rw [List.drop_eq_nil_of_le (by simp)]
    simp)
  simp [execOp, ho, hx, hr, Result.andThen]

/-- Bytes of a text copied into a part of a row. -/
theorem exec_copy_part {ρ : Operand → Value} {o : Oper} {P : Program} (w : World) (x y : Operand) (bt st ut : TypeId) (s : ByteArray) (g i n c : Nat) (t : TypeId) (cur : Array Value) (iu : TypeInfo) (ho : o.op = .call { callee := .builtin .copy, args := #[x, y], argTypes := #[bt, st] })
    (hx : ρ x = .slice (some ⟨g, i, none⟩) n c) (hy : ρ y = .string s) (hs : s.size = n) (hg : Blk w g t cur) (hl : i + n ≤ cur.size) (hu : P.underlying bt = some (.slice ut)) (hi : P.info? ut = some iu) (hz : iu.size = 1) :
    (execOp ρ o).run P w = .ok (.value (.int .i64 (n : Int))) (w.setRow g (cur.toList.take i ++ Lib.byteCells (bl s) ++ cur.toList.drop (i + n)).toArray) := by
  have hlen : (bl s).length = n := by rw [bl_len, hs]
  have hst := run_storeCells_at P g i t (Lib.byteCells (bl s)) 0 cur w hg (by rw [Lib.byteCells_length, hlen]; simpa using hl) (Lib.byteCells_one _)
  rw [Lib.byteCells_length, hlen] at hst
  simp only [Nat.add_zero] at hst
  have htk : List.take n (List.map (fun b : UInt8 => Value.int IntKind.u8 (b.toNat : Int)) s.data.toList) = Lib.byteCells (bl s) := by
    rw [List.take_of_length_le]
    · rfl
    · simp only [List.length_map]
      have : s.data.toList.length = n := hlen
      omega
  have hc : (Builtin.copy_ #[bt, st] o.type #[.slice (some ⟨g, i, none⟩) n c, .string s]).run P w = .ok (.int .i64 (n : Int)) (w.setRow g (cur.toList.take i ++ Lib.byteCells (bl s) ++ cur.toList.drop (i + n)).toArray) := by
    simp [Builtin.copy_, run_underlying hu, Builtin.lenOf, Builtin.firstCells, sizeOf, typeInfo, hi, hz, hs]
    rw [htk, hst]
    simp [Result.andThen]
    rfl
  simp [execOp, ho, resolve, invoke, builtin, hx, hy, hc, Result.andThen]

/-- append to a slice that has no room: all of it lies in a new block. -/
theorem run_append_full {P : Program} (w : World) (t ty e : TypeId) (i : TypeInfo) (z : Value) (size bytes : Nat) (ht : P.underlying t = some (.slice e)) (hi : P.info? e = some i) (hz : i.zero = some z) (hsize : i.size = size) (hby : i.bytes = bytes)
    (A : Option Addr) (n : Nat) (xs : List Value) (hxl : xs.length = n * size) (hA : A = none → n = 0) (holds : ∀ b, A = some b → ∀ j u, xs[j]? = some u → w.cell? (b.add j) = some u)
    (a : Addr) (m c : Nat) (news : List Value) (hl : news.length = m * size) (hnews : ∀ j u, news[j]? = some u → w.cell? (a.add j) = some u) (h0 : 0 < m)
    (h63 : n + m ≤ maxLen) (hbytes : (n + m) * bytes ≤ 140737488355328) :
    ∃ cap cur w', (Builtin.append_ #[t, t] ty #[.slice A n n, .slice (some a) m c]).run P w = .ok (.slice (some ⟨w.heap.size, 0, none⟩) (n + m) cap) w' ∧ Below w.heap.size w w' ∧ Blk w' w.heap.size e cur ∧
      cur.toList.take ((n + m) * size) = xs ++ news ∧ n + m ≤ cap ∧ cap ≤ maxLen ∧ w'.heap.size = w.heap.size + 1 := by
  subst hsize
  subst hby
  have hsmall : n + m ≤ 9223372036854775807 := by simp only [maxLen] at h63; omega
  have hlen : (xs ++ news).length = (n + m) * i.size := by rw [List.length_append, hxl, hl, Nat.add_mul]
  have hbel : ∀ cs, Below w.heap.size w (w.drew.alloc (.cells cs e)) := fun cs => ⟨rfl, rfl, rfl, by simp, fun k hk => heap_alloc_old w.drew _ hk⟩
  cases A with
  | none =>
    obtain rfl := hA rfl
    have hx : xs = [] := List.eq_nil_of_length_eq_zero (by simpa using hxl)
    subst hx
    have hr := run_append_nil (P := P) w t ty e i z ht hi hz a m c news hl hnews h0 (by omega) (by have hb := hbytes; simp only [Nat.zero_add] at hb; omega)
    rw [Nat.zero_add, List.nil_append]
    refine ⟨_, _, _, hr, hbel _, heap_alloc_new w.drew _, ?_, grownCap_ge _ _ _ _, grownCap_le_maxLen _ _ _ _ (by omega), by simp⟩
    simp only [Array.toList_append]
    rw [← hl]
    exact List.take_left
  | some b =>
    have hr := run_append_grow (P := P) w t ty e i z ht hi hz b n n xs hxl (holds b rfl) a m c news hl hnews (by omega) (by omega) (growslice_fits (by omega) hbytes)
    refine ⟨_, _, _, hr, hbel _, heap_alloc_new w.drew _, ?_, grownCap_ge _ _ _ _, grownCap_le_maxLen _ _ _ _ h63, by simp⟩
    simp only [Array.toList_append, List.append_assoc]
    rw [← List.append_assoc, ← hlen]
    exact List.take_left

theorem wp_append_full {P : Program} {o : Oper} {a : Act} {w : World} {K : Act → World → Prop} {Q : Exit → Act → World → Prop} (s x : Operand) (t : TypeId)
    (ho : o.op = .call { callee := .builtin .append, args := #[s, x], argTypes := #[t, t] })
    (e : TypeId) (i : TypeInfo) (z : Value) (size bytes : Nat) (ht : P.underlying t = some (.slice e)) (hi : P.info? e = some i) (hz : i.zero = some z)
    (hsize : i.size = size) (hby : i.bytes = bytes) (A : Option Addr) (n : Nat) (xs : List Value) (hs : a.eval s = .slice A n n)
    (hxl : xs.length = n * size) (hA : A = none → n = 0) (holds : ∀ b, A = some b → ∀ j u, xs[j]? = some u → w.cell? (b.add j) = some u)
    (ad : Addr) (m c : Nat) (news : List Value) (hx : a.eval x = .slice (some ad) m c) (hl : news.length = m * size) (hnews : ∀ j u, news[j]? = some u → w.cell? (ad.add j) = some u) (h0 : 0 < m)
    (h63 : n + m ≤ maxLen) (hbytes : (n + m) * bytes ≤ 140737488355328)
    (h : ∀ cap cur w', Below w.heap.size w w' → Blk w' w.heap.size e cur → cur.toList.take ((n + m) * size) = xs ++ news → n + m ≤ cap → cap ≤ maxLen → w'.heap.size = w.heap.size + 1 → K (a.put o.dst (.slice (some ⟨w.heap.size, 0, none⟩) (n + m) cap)) w') : o.wp P a w K Q := by
  obtain ⟨cap, cur, w', hrun, h2, h3, h4, h5, h6, h7⟩ := run_append_full (P := P) w t o.type e i z size bytes ht hi hz hsize hby A n xs hxl hA holds ad m c news hl hnews h0 h63 hbytes
  unfold Oper.wp
  simp [execOp, ho, resolve, invoke, builtin, hs, hx, hrun, Result.andThen]
  exact h cap cur w' h2 h3 h4 h5 h6 h7

theorem wpList_append_full {P : Program} {ops : Array Oper} {rest : List Oper} {o : Oper} {a : Act} {w : World} {Q : Exit → Act → World → Prop} (hg : o.guard = none) (s x : Operand) (t : TypeId)
    (ho : o.op = .call { callee := .builtin .append, args := #[s, x], argTypes := #[t, t] })
    (e : TypeId) (i : TypeInfo) (z : Value) (size bytes : Nat) (ht : P.underlying t = some (.slice e)) (hi : P.info? e = some i) (hz : i.zero = some z)
    (hsize : i.size = size) (hby : i.bytes = bytes) (A : Option Addr) (n : Nat) (xs : List Value) (hs : a.eval s = .slice A n n)
    (hxl : xs.length = n * size) (hA : A = none → n = 0) (holds : ∀ b, A = some b → ∀ j u, xs[j]? = some u → w.cell? (b.add j) = some u)
    (ad : Addr) (m c : Nat) (news : List Value) (hx : a.eval x = .slice (some ad) m c) (hl : news.length = m * size) (hnews : ∀ j u, news[j]? = some u → w.cell? (ad.add j) = some u) (h0 : 0 < m)
    (h63 : n + m ≤ maxLen) (hbytes : (n + m) * bytes ≤ 140737488355328)
    (h : ∀ cap cur w', Below w.heap.size w w' → Blk w' w.heap.size e cur → cur.toList.take ((n + m) * size) = xs ++ news → n + m ≤ cap → cap ≤ maxLen → w'.heap.size = w.heap.size + 1 → wpList P ops Q rest (a.put o.dst (.slice (some ⟨w.heap.size, 0, none⟩) (n + m) cap)) w') : wpList P ops Q (o :: rest) a w :=
  wpList_plain hg fun K' hK' => wp_append_full s x t ho e i z size bytes ht hi hz hsize hby A n xs hs hxl hA holds ad m c news hx hl hnews h0 h63 hbytes fun cap cur w' h1 h2 h3 h4 h5 h6 => hK' _ _ (h cap cur w' h1 h2 h3 h4 h5 h6)

/-- One result that lies in memory. -/
theorem results_cell1 {fn : Func} {p : Tmp} {ty : TypeId} (h : fn.results = #[.cell p ty]) (tmps : Array Value) (P : Program) (w : World) (a : Addr) (v : Value)
    (hp : tmps.getD p undef = .pointer (some a)) (h1 : (loadVar ty a).run P w = .ok v w) : (results fn tmps).run P w = .ok v w := by
  simp only [results, h]
  simp only [Array.getD_eq_getD_getElem?] at hp
  simp [Sem.run_bind, Result.andThen, asAddr, hp, h1]

theorem setRow_blk {w : World} {g : Nat} {t : TypeId} {cur c : Array Value} (h : Blk w g t cur) : Blk (w.setRow g c) g t c := by
  unfold Blk at h ⊢
  unfold World.setRow
  rw [Array.getElem?_modify, if_pos rfl, h]
  rfl
theorem setRow_oth {w : World} {g k : Nat} {c : Array Value} (h : k ≠ g) : (w.setRow g c).heap[k]? = w.heap[k]? := by
  unfold World.setRow
  simp only [Array.getElem?_modify]
  rw [if_neg (Ne.symm h)]
theorem setRow_size (w : World) (g : Nat) (c : Array Value) : (w.setRow g c).heap.size = w.heap.size := by
  unfold World.setRow
  simp
theorem setRow_but (w : World) (g : Nat) (c : Array Value) : But (fun k => k = g) w (w.setRow g c) :=
  ⟨rfl, rfl, rfl, by rw [setRow_size]; exact Nat.le_refl _, fun k _ hn => setRow_oth hn⟩
end Go.Proofs.YtdpbdkacngaemaaDoor.ib

/- A part in a block: loaded, stored, answered beside an error. -/
namespace Go.Proofs.YtdpbdkacngaemaaDoor.st
open Go Go.RowKit Go.Sort Go.Proofs.YtdpbdkacngaemaaDoor.ib Go.Proofs.YtdpbdkacngaemaaDoor.wi Go.Proofs.YtdpbdkacngaemaaDoor.mt
open Go.Proofs.YtdpbdkacngaemaaDoor.ch (ChL OChs chVals infoCh)
set_option maxRecDepth 100000

/-- Seven cells. -/
def pC (g t : Gd) (fr all : Int) (v : Value) : Array Value := #[.int .u64 (g.1 : Int), .int .u64 (g.2 : Int), .int .u64 (t.1 : Int), .int .u64 (t.2 : Int), .int .i64 fr, .int .i64 all, v]
def pZ : Array Value := #[.int .u64 0, .int .u64 0, .int .u64 0, .int .u64 0, .int .i64 0, .int .i64 0, .slice none 0 0]
def nlS : Value := .slice none 0 0
theorem pZ_is : pZ = pC (0, 0) (0, 0) 0 0 nlS := rfl
def setPa (W : World) (b : Nat) (g t : Gd) (fr all : Int) (v : Value) : World :=
  ((((((W.setCell ⟨b, 0, none⟩ (.int .u64 (g.1 : Int))).setCell ⟨b, 1, none⟩ (.int .u64 (g.2 : Int))).setCell ⟨b, 2, none⟩ (.int .u64 (t.1 : Int))).setCell ⟨b, 3, none⟩ (.int .u64 (t.2 : Int))).setCell ⟨b, 4, none⟩ (.int .i64 fr)).setCell ⟨b, 5, none⟩ (.int .i64 all)).setCell ⟨b, 6, none⟩ v
theorem setPa_blk {W : World} {b : Nat} {g t g' t' : Gd} {fr all fr' all' : Int} {v v' : Value} (h : Blk W b 27 (pC g' t' fr' all' v')) : Blk (setPa W b g t fr all v) b 27 (pC g t fr all v) := by
  have h9 := ((((((h.set_ 0 (.int .u64 (g.1 : Int))).set_ 1 (.int .u64 (g.2 : Int))).set_ 2 (.int .u64 (t.1 : Int))).set_ 3 (.int .u64 (t.2 : Int))).set_ 4 (.int .i64 fr)).set_ 5 (.int .i64 all)).set_ 6 v
  simp only [pC, List.setIfInBounds_toArray, List.set_cons_succ, List.set_cons_zero] at h9
  exact h9
theorem setPa_kp {W : World} {b : Nat} {g t : Gd} {fr all : Int} {v : Value} {cs : Array Value} (h : Blk W b 27 cs) : Kp 27 W (setPa W b g t fr all v) := by
  have go : ∀ (k : Nat) (u : Value) {W' : World}, Kp 27 W W' ∧ (∃ cs, Blk W' b 27 cs) → Kp 27 W (W'.setCell ⟨b, k, none⟩ u) ∧ (∃ cs, Blk (W'.setCell ⟨b, k, none⟩ u) b 27 cs) := fun k u W' ⟨h1, cs, h2⟩ =>
    ⟨h1.trans (Kp.of_set k u h2), _, h2.set_ k u⟩
  exact (go 6 v (go 5 _ (go 4 _ (go 3 _ (go 2 _ (go 1 _ (go 0 _ ⟨Kp.refl _ _, _, h⟩))))))).1
theorem setPa_below {w W : World} {B b : Nat} {g t : Gd} {fr all : Int} {v : Value} (h : Below B w W) (hg : B ≤ b) : Below B w (setPa W b g t fr all v) :=
  ((((((h.setCell (p := ⟨b, 0, none⟩) hg _).setCell (p := ⟨b, 1, none⟩) hg _).setCell (p := ⟨b, 2, none⟩) hg _).setCell (p := ⟨b, 3, none⟩) hg _).setCell (p := ⟨b, 4, none⟩) hg _).setCell (p := ⟨b, 5, none⟩) hg _).setCell (p := ⟨b, 6, none⟩) hg v
theorem setPa_oth (W : World) (b : Nat) (g t : Gd) (fr all : Int) (v : Value) (k : Nat) (h : k ≠ b) : (setPa W b g t fr all v).heap[k]? = W.heap[k]? := by
  unfold setPa
  rw [set_oth _ _ _ _ _ h, set_oth _ _ _ _ _ h, set_oth _ _ _ _ _ h, set_oth _ _ _ _ _ h, set_oth _ _ _ _ _ h, set_oth _ _ _ _ _ h, set_oth _ _ _ _ _ h]
theorem setPa_size (W : World) (b : Nat) (g t : Gd) (fr all : Int) (v : Value) : (setPa W b g t fr all v).heap.size = W.heap.size := by
  unfold setPa
  simp only [World.size_setCell]
theorem load_pa {W : World} {b : Nat} {g t : Gd} {fr all : Int} {v : Value} (h : Blk W b 27 (pC g t fr all v)) : (loadVar 27 ⟨b, 0, none⟩).run Tryd.prog W = .ok (.agg (pC g t fr all v)) W :=
  run_loadVar_row W b 27 27 _ (0, 0) _ h Tryd.underlying27 rfl (by kernel_rfl)
theorem results_cellslot {fn : Func} {p q : Tmp} {ty : TypeId} (h : fn.results = #[.cell p ty, .tmp q]) (tmps : Array Value) (P : Program) (w : World) (a : Addr) (v1 v2 : Value)
    (hp : tmps.getD p undef = .pointer (some a)) (hq : tmps.getD q undef = v2) (h1 : (loadVar ty a).run P w = .ok v1 w) : (results fn tmps).run P w = .ok (.tuple #[v1, v2]) w := by
  simp only [results, h]
  simp only [Array.getD_eq_getD_getElem?] at hp hq
  simp [Sem.run_bind, Result.andThen, asAddr, hp, hq, h1]
/-- The end of a function that answers a part and an error. -/
theorem pa_end {w WE : World} {b : Nat} {r : Pa × Int} {A : Option Addr} {c : Nat} {fn : Func} {p q : Tmp} (hf : fn.results = #[.cell p 27, .tmp q]) (a : Act) (ha : a.defers = []) (hp : a.tmps.getD p undef = .pointer (some ⟨b, 0, none⟩)) (hq : a.tmps.getD q undef = .int .i64 r.2)
    (h : Blk WE b 27 (pC r.1.base r.1.target r.1.fr r.1.all (.slice A r.1.chs.length c))) (hm : PaL WE A c r.1) (hn : NewA w WE A) (hb : Below w.heap.size w WE) : bodyPost Tryd.prog fn (endP r w) .ret a WE := by
  have hl := load_pa h
  refine bodyPost_ret (v := .tuple #[.agg (paC r.1 A c), .int .i64 r.2]) ?_ ha ⟨A, c, rfl, hm, hn, hb⟩
  have e : paC r.1 A c = pC r.1.base r.1.target r.1.fr r.1.all (.slice A r.1.chs.length c) := rfl
  rw [e]
  clear h hm e
  generalize pC r.1.base r.1.target r.1.fr r.1.all (.slice A r.1.chs.length c) = X at *
  exact results_cellslot hf a.tmps _ _ ⟨b, 0, none⟩ _ _ hp hq hl
/-- .. of one that answers an empty one. -/
theorem pa_none {w WE : World} {b : Nat} {e : Int} {fn : Func} {p q : Tmp} (hf : fn.results = #[.cell p 27, .tmp q]) (a : Act) (ha : a.defers = []) (hp : a.tmps.getD p undef = .pointer (some ⟨b, 0, none⟩)) (hq : a.tmps.getD q undef = .int .i64 e)
    (h : Blk WE b 27 pZ) (hb : Below w.heap.size w WE) : bodyPost Tryd.prog fn (endP (pa0, e) w) .ret a WE :=
  pa_end (r := (pa0, e)) (A := none) (c := 0) hf a ha hp hq (by rw [pZ_is] at h; exact h) (pal0 _) (NewA.none _ _) hb
theorem pal_set {W : World} {b : Nat} {g t : Gd} {fr all : Int} {v : Value} {A : Option Addr} {c : Nat} {p : Pa} (h : PaL W A c p) (hn : ∀ b' o, A = some ⟨b', o, none⟩ → b' ≠ b) : PaL (setPa W b g t fr all v) A c p := by
  refine ⟨fun i hi => ?_, h.base, h.target, h.fr, h.all⟩
  obtain ⟨b', o, e1, e2, e3, e4, e5⟩ := h.chs i hi
  have hblk := setPa_oth W b g t fr all v b' (hn b' o e1)
  exact ⟨b', o, e1, by rw [setPa_size]; exact e2, by rw [World.cell?_of_block (a := ⟨b', o + i * 2, none⟩) hblk]; exact e3, by rw [World.cell?_of_block (a := ⟨b', o + i * 2 + 1, none⟩) hblk]; exact e4, e5⟩
end Go.Proofs.YtdpbdkacngaemaaDoor.st

/- A part is cut: the program's way. -/
namespace Go.Proofs.YtdpbdkacngaemaaDoor.st
open Go Go.RowKit Go.Sort Go.Proofs.YtdpbdkacngaemaaDoor.ib Go.Proofs.YtdpbdkacngaemaaDoor.wi Go.Proofs.YtdpbdkacngaemaaDoor.mt
open Go.Proofs.YtdpbdkacngaemaaDoor.ch (ChL OChs chVals infoCh)
set_option maxRecDepth 100000

theorem chl_drop {w : World} {b o : Nat} {l : List Ch} (h : ChL w (some ⟨b, o, none⟩) l) (k n : Nat) : ChL w (some ⟨b, o + k * 2, none⟩) ((l.drop k).take n) := by
  intro i hi
  have h1 : i < n ∧ k + i < l.length := by
    rw [List.length_take, List.length_drop] at hi
    omega
  obtain ⟨b', o', e, h2, h3, h4, h5⟩ := h (k + i) h1.2
  simp only [Option.some.injEq, Addr.mk.injEq, and_true] at e
  obtain ⟨rfl, rfl⟩ := e
  have hg : ((l.drop k).take n)[i] = l[k + i]'h1.2 := by rw [List.getElem_take, List.getElem_drop]
  rw [hg]
  exact ⟨b, o + k * 2, rfl, h2, by rw [show o + k * 2 + i * 2 = o + (k + i) * 2 by omega]; exact h3, by rw [show o + k * 2 + i * 2 = o + (k + i) * 2 by omega]; exact h4, h5⟩
theorem cut_len (l : List Ch) (k : Nat) : ((l.drop k).take 2).length = min (k + 2) l.length - k := by
  rw [List.length_take, List.length_drop]
  omega
theorem ochs_chl {w : World} {B : Nat} {v : Value} {l : List Ch} (h : OChs w B v l) (hz : ∀ x ∈ l, b64 x.1) : ∃ a c, v = .slice a l.length c ∧ ChL w a l ∧ ∀ b o, a = some ⟨b, o, none⟩ → B ≤ b ∧ b < w.heap.size := Go.Proofs.YtdpbdkacngaemaaDoor.ch.OChs.view2 h hz
theorem chl_b64 {w : World} {A : Option Addr} {l : List Ch} (h : ChL w A l) : ∀ x ∈ l, b64 x.1 := fun x hx => by
  obtain ⟨i, hi, rfl⟩ := List.getElem_of_mem hx
  obtain ⟨_, _, _, _, _, _, h⟩ := h i hi
  exact h
/-- A part whose row the call owns, and an error. -/
def endPO (r : Pa × Int) (w : World) (e : Ending) (w' : World) : Prop := ∃ A c, e = .returned (.tuple #[.agg (paC r.1 A c), .int .i64 r.2]) ∧ PaL w' A c r.1 ∧ OChs w' w.heap.size (.slice A r.1.chs.length c) r.1.chs ∧ NewA w w' A ∧ Below w.heap.size w w'
theorem endPO.less {r : Pa × Int} {w : World} {e : Ending} {w' : World} (h : endPO r w e w') : endP r w e w' := by
  obtain ⟨A, c, h1, h2, _, h3, h4⟩ := h
  exact ⟨A, c, h1, h2, h3, h4⟩
theorem pa_endO {w WE : World} {b : Nat} {r : Pa × Int} {A : Option Addr} {c : Nat} {fn : Func} {p q : Tmp} (hf : fn.results = #[.cell p 27, .tmp q]) (a : Act) (ha : a.defers = []) (hp : a.tmps.getD p undef = .pointer (some ⟨b, 0, none⟩)) (hq : a.tmps.getD q undef = .int .i64 r.2)
    (h : Blk WE b 27 (pC r.1.base r.1.target r.1.fr r.1.all (.slice A r.1.chs.length c))) (hm : PaL WE A c r.1) (ho : OChs WE w.heap.size (.slice A r.1.chs.length c) r.1.chs) (hn : NewA w WE A) (hb : Below w.heap.size w WE) : bodyPost Tryd.prog fn (endPO r w) .ret a WE := by
  have hl := load_pa h
  refine bodyPost_ret (v := .tuple #[.agg (paC r.1 A c), .int .i64 r.2]) ?_ ha ⟨A, c, rfl, hm, ho, hn, hb⟩
  have e : paC r.1 A c = pC r.1.base r.1.target r.1.fr r.1.all (.slice A r.1.chs.length c) := rfl
  rw [e]
  clear h hm e ho
  generalize pC r.1.base r.1.target r.1.fr r.1.all (.slice A r.1.chs.length c) = X at *
  exact results_cellslot hf a.tmps _ _ ⟨b, 0, none⟩ _ _ hp hq hl
theorem pa_noneO {w WE : World} {b : Nat} {e : Int} {fn : Func} {p q : Tmp} (hf : fn.results = #[.cell p 27, .tmp q]) (a : Act) (ha : a.defers = []) (hp : a.tmps.getD p undef = .pointer (some ⟨b, 0, none⟩)) (hq : a.tmps.getD q undef = .int .i64 e)
    (h : Blk WE b 27 pZ) (hb : Below w.heap.size w WE) : bodyPost Tryd.prog fn (endPO (pa0, e) w) .ret a WE :=
  pa_endO (r := (pa0, e)) (A := none) (c := 0) hf a ha hp hq (by rw [pZ_is] at h; exact h) (pal0 _) (World.ownsRow_nil _ _ _ _) (NewA.none _ _) hb

set_option maxHeartbeats 12800000 in
theorem cuto_any (g t : Gd) (A : Option Addr) (cp : Nat) (l : List Ch) (fr : Int) (w : World) (hg : gdB g) (ht : gdB t) (h : ChL w A l) (hl : l.length ≤ 1000) (hcp : l.length ≤ cp) (hA : (A = none ∧ cp = 0) ∨ ∃ b o, A = some ⟨b, o, none⟩) (hd : ∀ c ∈ l, c.2.length ≤ 1000000) (hfr : b64 fr) :
    Calls Tryd.prog 4 #[gv g, gv t, .slice A l.length cp, .int .i64 fr] w (endPO (pCut g t l fr) w) := by
  have HGB := Lib.hid hg
  have HTB := Lib.hid ht
  have HD := Lib.hid hd
  have HFR := Lib.hid hfr
  have b1 := (Below.refl w.heap.size w).alloc (Nat.le_refl _) (.cells #[.int .u64 (g.1 : Int), .int .u64 (g.2 : Int)] 24)
  have k1 := Blk.new w 24 #[.int .u64 (g.1 : Int), .int .u64 (g.2 : Int)]
  obtain ⟨W1, hW1⟩ : ∃ z, w.alloc (.cells #[.int .u64 (g.1 : Int), .int .u64 (g.2 : Int)] 24) = z := ⟨_, rfl⟩
  rw [hW1] at b1 k1
  have b2 := (Below.refl W1.heap.size W1).alloc (Nat.le_refl _) (.cells #[.int .u64 (t.1 : Int), .int .u64 (t.2 : Int)] 24)
  have k2 := Blk.new W1 24 #[.int .u64 (t.1 : Int), .int .u64 (t.2 : Int)]
  obtain ⟨W2, hW2⟩ : ∃ z, W1.alloc (.cells #[.int .u64 (t.1 : Int), .int .u64 (t.2 : Int)] 24) = z := ⟨_, rfl⟩
  rw [hW2] at b2 k2
  have b3 := (Below.refl W2.heap.size W2).alloc (Nat.le_refl _) (.cells pZ 27)
  have k3 := Blk.new W2 27 pZ
  obtain ⟨W3, hW3⟩ : ∃ z, W2.alloc (.cells pZ 27) = z := ⟨_, rfl⟩
  rw [hW3] at b3 k3
  have HB3 := Lib.hid (below_step (below_step b1 b2) b3)
  have HK1 := Lib.hid ((k1.below b2).below b3)
  have HK2 := Lib.hid (k2.below b3)
  have HR := Lib.hid k3
  have HC := Lib.hid (((h.below b1).below b2).below b3)
  have HGE : Hid (w.heap.size ≤ W2.heap.size) := (below_step b1 b2).size
  obtain ⟨g0, hg0⟩ : ∃ q, w.heap.size = q := ⟨_, rfl⟩
  obtain ⟨g1, hg1⟩ : ∃ q, W1.heap.size = q := ⟨_, rfl⟩
  obtain ⟨g2, hg2⟩ : ∃ q, W2.heap.size = q := ⟨_, rfl⟩
  rw [hg0] at HK1
  rw [hg1] at HK2
  rw [hg2] at HR HGE
  have HGE2 := Lib.hid HGE.out
  have HAB : Hid (∀ W, Calls Tryd.prog 28 #[gv t, gv g] W (endB (above t g) W)) := fun W => above_any _ _ W
  have HMAY : Hid (∀ W, Below W3.heap.size W3 W → Calls Tryd.prog 29 #[.slice A l.length cp] W (endB (may l) W)) := fun W hb => mayBe_any A cp l W (HC.out.below hb) (by omega)
  have HOWN : Hid (∀ (A' : Option Addr) (n c' : Nat) W, Below W3.heap.size W3 W → ChL W A' ((l.drop n).take 2) → Calls Tryd.prog 30 #[.slice A' ((l.drop n).take 2).length c'] W (endO ((l.drop n).take 2) W)) := fun A' n c' W hb hc => own_any A' c' _ W hc (by rw [cut_len]; omega) (fun x hx => HD.out x (List.mem_of_mem_drop (List.mem_of_mem_take hx)))
  have HPC : Hid (pCut g t l fr = if cutBad g t l fr = true then (pa0, 2) else (⟨g, t, fr, l.length, (l.drop fr.toNat).take 2⟩, 0)) := rfl
  have HBAD : Hid (above t g = false ∨ may l = false ∨ fr < 0 ∨ max (l.length : Int) 1 ≤ fr → pCut g t l fr = (pa0, 2)) := fun hx => by
    rw [HPC.out, if_pos]
    unfold cutBad
    simp only [Bool.or_eq_true, Bool.not_eq_true', decide_eq_true_eq]
    rcases hx with hx | hx | hx | hx <;> simp only [hx, true_or, or_true]
  have HOK : Hid (above t g = true → may l = true → ¬ fr < 0 → ¬ max (l.length : Int) 1 ≤ fr → pCut g t l fr = (⟨g, t, fr, l.length, (l.drop fr.toNat).take 2⟩, 0)) := fun h1 h2 h3 h4 => by
    rw [HPC.out, if_neg]
    unfold cutBad
    simp only [Bool.or_eq_true, Bool.not_eq_true', decide_eq_true_eq, h1, h2, h3, h4, Bool.true_eq_false, or_false, not_false_eq_true]
  have HLB : Hid (∀ n, ((l.drop n).take 2).length = min (n + 2) l.length - n) := fun n => cut_len l n
  have HB64 : Hid (∀ n, ∀ x ∈ (l.drop n).take 2, b64 x.1) := fun n x hx => chl_b64 h x (List.mem_of_mem_drop (List.mem_of_mem_take hx))
  have HDR : Hid (∀ W, Below W3.heap.size W3 W → ∀ b o, A = some ⟨b, o, none⟩ → ∀ k n, ChL W (some ⟨b, o + k * 2, none⟩) ((l.drop k).take n)) := fun W hb b o e k n => by
    have := HC.out.below hb
    rw [e] at this
    exact chl_drop this k n
  obtain ⟨P, hP⟩ : ∃ P, pCut g t l fr = P := ⟨_, rfl⟩
  rw [hP] at HBAD HOK ⊢
  obtain ⟨R, hR⟩ : ∃ R, above t g = R := ⟨_, rfl⟩
  rw [hR] at HAB HBAD HOK
  obtain ⟨M, hM⟩ : ∃ R, may l = R := ⟨_, rfl⟩
  rw [hM] at HMAY HBAD HOK
  obtain ⟨n, hn⟩ : ∃ n, l.length = n := ⟨_, rfl⟩
  have HN := Lib.hid hn
  rw [hn] at hl hcp HMAY HBAD HOK HLB ⊢
  clear b1 b2 b3 k1 k2 k3 h hg ht hd hP hR hM hn HPC HC hfr
  have p0 := HK1.out.cell 0
  have p1 := HK1.out.cell 1
  have q0 := HK2.out.cell 0
  have q1 := HK2.out.cell 1
  have hl1 := HK1.out.lt
  have hl2 := HK2.out.lt
  simp only [List.getElem?_toArray, List.getElem?_cons_zero, List.getElem?_cons_succ] at p0 p1 q0 q1
  unfold gv at HAB
  show Calls Tryd.prog 4 #[.agg #[.int .u64 (g.1 : Int), .int .u64 (g.2 : Int)], .agg #[.int .u64 (t.1 : Int), .int .u64 (t.2 : Int)], .slice A n cp, .int .i64 fr] w _
  unfold pZ at hW3
  go_enter Tryd.func4, Tryd.ntmps4
  go_upto_region 1 with fail
  try rw [hW3]
  try rw [hg0]
  try rw [hg1]
  try rw [hg2]
  clear hW1 hW2 hW3 hg0 hg1 hg2
  go_wp2_with fail
  refine (HAB.out W3).mono ?_
  rintro e W4 ⟨rfl, c4⟩
  have HB4 := Lib.hid (below_step HB3.out c4)
  have HS4 := Lib.hid c4
  have hr := HR.out.below c4
  have HR4 := Lib.hid hr
  clear c4 p0 p1 q0 q1 hl1 hl2 HAB
  cases R with
  | false =>
    obtain rfl : P = (pa0, 2) := HBAD.out (.inl rfl)
    clear HBAD HOK HMAY HOWN
    have hr := HR4.out
    have a0 := hr.cell 0
    have a1 := hr.cell 1
    have a2 := hr.cell 2
    have a3 := hr.cell 3
    have a4 := hr.cell 4
    have a5 := hr.cell 5
    have a6 := hr.cell 6
    have f0 := hr.frozen 0
    have f1 := hr.frozen 1
    have f2 := hr.frozen 2
    have f3 := hr.frozen 3
    have f4 := hr.frozen 4
    have f5 := hr.frozen 5
    have f6 := hr.frozen 6
    have hrl := hr.lt
    simp only [pZ, List.getElem?_toArray, List.getElem?_cons_zero, List.getElem?_cons_succ] at a0 a1 a2 a3 a4 a5 a6
    clear hr
    go_wp2_with fail
    show bodyPost _ _ _ _ _ (setPa W4 g2 (0, 0) (0, 0) 0 0 nlS)
    exact pa_noneO (b := g2) Tryd.results4 _ rfl (by simp) (by simp) (by rw [pZ_is]; exact setPa_blk (by rw [← pZ_is]; exact HR4.out)) (setPa_below HB4.out HGE2.out)
  | true =>
    go_wp2_with fail
    refine (HMAY.out W4 HS4.out).mono ?_
    rintro e W5 ⟨rfl, c5⟩
    have HB5 := Lib.hid (below_step HB4.out c5)
    have HS5 := Lib.hid (below_step HS4.out c5)
    have HR5 := Lib.hid (HR4.out.below c5)
    clear c5 hr HMAY HR4 HB4 HS4
    cases M with
    | false =>
      obtain rfl : P = (pa0, 2) := HBAD.out (.inr (.inl rfl))
      clear HBAD HOK HOWN
      have hr := HR5.out
      have a0 := hr.cell 0
      have a1 := hr.cell 1
      have a2 := hr.cell 2
      have a3 := hr.cell 3
      have a4 := hr.cell 4
      have a5 := hr.cell 5
      have a6 := hr.cell 6
      have f0 := hr.frozen 0
      have f1 := hr.frozen 1
      have f2 := hr.frozen 2
      have f3 := hr.frozen 3
      have f4 := hr.frozen 4
      have f5 := hr.frozen 5
      have f6 := hr.frozen 6
      have hrl := hr.lt
      simp only [pZ, List.getElem?_toArray, List.getElem?_cons_zero, List.getElem?_cons_succ] at a0 a1 a2 a3 a4 a5 a6
      clear hr
      go_wp2_with fail
      show bodyPost _ _ _ _ _ (setPa W5 g2 (0, 0) (0, 0) 0 0 nlS)
      exact pa_noneO (b := g2) Tryd.results4 _ rfl (by simp) (by simp) (by rw [pZ_is]; exact setPa_blk (by rw [← pZ_is]; exact HR5.out)) (setPa_below HB5.out HGE2.out)
    | true =>
      by_cases h1 : fr < 0
      · obtain rfl : P = (pa0, 2) := HBAD.out (.inr (.inr (.inl h1)))
        clear HBAD HOK HOWN
        have hr := HR5.out
        have a0 := hr.cell 0
        have a1 := hr.cell 1
        have a2 := hr.cell 2
        have a3 := hr.cell 3
        have a4 := hr.cell 4
        have a5 := hr.cell 5
        have a6 := hr.cell 6
        have f0 := hr.frozen 0
        have f1 := hr.frozen 1
        have f2 := hr.frozen 2
        have f3 := hr.frozen 3
        have f4 := hr.frozen 4
        have f5 := hr.frozen 5
        have f6 := hr.frozen 6
        have hrl := hr.lt
        simp only [pZ, List.getElem?_toArray, List.getElem?_cons_zero, List.getElem?_cons_succ] at a0 a1 a2 a3 a4 a5 a6
        clear hr
        go_wp2_with fail
        show bodyPost _ _ _ _ _ (setPa W5 g2 (0, 0) (0, 0) 0 0 nlS)
        exact pa_noneO (b := g2) Tryd.results4 _ rfl (by simp) (by simp) (by rw [pZ_is]; exact setPa_blk (by rw [← pZ_is]; exact HR5.out)) (setPa_below HB5.out HGE2.out)
      obtain ⟨mx, hmx⟩ : ∃ mx, max (n : Int) 1 = mx := ⟨_, rfl⟩
      have hmx2 : (if (n : Int) < 1 then (1 : Int) else (n : Int)) = mx := by rw [← hmx]; omega
      have hmx3 : (if (1 : Int) < (n : Int) then (n : Int) else (1 : Int)) = mx := by rw [← hmx]; omega
      have HMX := Lib.hid hmx
      rw [hmx] at HBAD HOK
      by_cases h2 : mx ≤ fr
      · obtain rfl : P = (pa0, 2) := HBAD.out (.inr (.inr (.inr h2)))
        clear HBAD HOK HOWN
        have hr := HR5.out
        have a0 := hr.cell 0
        have a1 := hr.cell 1
        have a2 := hr.cell 2
        have a3 := hr.cell 3
        have a4 := hr.cell 4
        have a5 := hr.cell 5
        have a6 := hr.cell 6
        have f0 := hr.frozen 0
        have f1 := hr.frozen 1
        have f2 := hr.frozen 2
        have f3 := hr.frozen 3
        have f4 := hr.frozen 4
        have f5 := hr.frozen 5
        have f6 := hr.frozen 6
        have hrl := hr.lt
        simp only [pZ, List.getElem?_toArray, List.getElem?_cons_zero, List.getElem?_cons_succ] at a0 a1 a2 a3 a4 a5 a6
        clear hr
        go_wp2_with fail
        show bodyPost _ _ _ _ _ (setPa W5 g2 (0, 0) (0, 0) 0 0 nlS)
        exact pa_noneO (b := g2) Tryd.results4 _ rfl (by simp) (by simp) (by rw [pZ_is]; exact setPa_blk (by rw [← pZ_is]; exact HR5.out)) (setPa_below HB5.out HGE2.out)
      have HP := Lib.hid (HOK.out (by first | rfl | trivial) (by first | rfl | trivial) (by omega) (by omega))
      obtain ⟨k, hk⟩ : ∃ k : Nat, fr = (k : Int) := ⟨fr.toNat, by omega⟩
      subst hk
      rw [Int.toNat_natCast] at HP
      have hkn : k ≤ n ∧ k ≤ 1000 := by omega
      have p0 := (HK1.out.below HS5.out).cell 0
      have p1 := (HK1.out.below HS5.out).cell 1
      have q0 := (HK2.out.below HS5.out).cell 0
      have q1 := (HK2.out.below HS5.out).cell 1
      have hl1 := (HK1.out.below HS5.out).lt
      have hl2 := (HK2.out.below HS5.out).lt
      simp only [List.getElem?_toArray, List.getElem?_cons_zero, List.getElem?_cons_succ] at p0 p1 q0 q1
      obtain ⟨W6, hW6⟩ : ∃ z, W5.alloc (.cells (pC g t (k : Int) (n : Int) nlS) 27) = z := ⟨_, rfl⟩
      have c6 : Below W5.heap.size W5 W6 := by rw [← hW6]; exact (Below.refl _ _).alloc (Nat.le_refl _) _
      have hM : Blk W6 W5.heap.size 27 (pC g t (k : Int) (n : Int) nlS) := by rw [← hW6]; exact Blk.new _ _ _
      have HB6 := Lib.hid (below_step HB5.out c6)
      have HS6 := Lib.hid (below_step HS5.out c6)
      have HR6 := Lib.hid (HR5.out.below c6)
      have HMG : Hid (g2 < W5.heap.size) := HR5.out.lt
      clear c6 HR5 HB5 HS5 HBAD HOK
      have hmxc : ¬ mx ≤ (k : Int) := h2
      unfold pC nlS at hW6
      have HW6 := Lib.hid hW6
      clear hW6
      go_upto_region 9 with fail
      try rw [HW6.out]
      obtain ⟨gm, hgm⟩ : ∃ q, W5.heap.size = q := ⟨_, rfl⟩
      rw [hgm] at hM HMG
      have HM6 := Lib.hid hM
      try rw [hgm]
      clear HW6 hM hgm p0 p1 q0 q1 hl1 hl2 hmx hmx2 hmx3
      obtain ⟨m, hm⟩ : ∃ m, min (k + 2) n = m := ⟨_, rfl⟩
      have hmi : min ((k : Int) + 2) (n : Int) = (m : Int) := by omega
      have hmi2 : (if (n : Int) < (k : Int) + 2 then (n : Int) else (k : Int) + 2) = (m : Int) := by omega
      have hmi3 : (if (k : Int) + 2 < (n : Int) then (k : Int) + 2 else (n : Int)) = (m : Int) := by omega
      have HLK : Hid (((l.drop k).take 2).length = m - k) := by unfold Hid; rw [HLB.out, hm]
      have hkm : k ≤ m ∧ m ≤ cp := by omega
      have hsl : ∃ A', (∀ W, (Instr.sliceAt 25 (.slice A n cp) (some (.int .i64 (k : Int))) (some (.int .i64 (m : Int))) none).run Tryd.prog W = .ok (.slice A' (m - k) (cp - k)) W) ∧ (∀ W, Below W3.heap.size W3 W → ChL W A' ((l.drop k).take 2)) := by
        have hu := Tryd.underlying25
        have he : Tryd.prog.elem 25 = 46 := by kernel_rfl
        rcases hA with ⟨rfl, hc0⟩ | ⟨b, o, rfl⟩
        · refine ⟨none, fun W => ?_, fun W hb => ?_⟩
          · have hs : (sizeOf 46).run Tryd.prog W = .ok 2 W := by simp [go_sem, Tryd.sizeOf46]
            rw [run_sliceAt_slice W _ _ _ _ _ (by rw [he]; exact hu), run_slice_lh W _ _ _ _ (by rw [he]; exact hu) _ _ _ _ (by omega) (by omega) (by omega), he, hs]
            have e1 : ((k : Int)).toNat = k := Int.toNat_natCast k
            have e2 : ((m : Int)).toNat = m := Int.toNat_natCast m
            simp only [Result.andThen, sliced, e1, e2]
            simp
          · have hz : (l.drop k).take 2 = [] := List.length_eq_zero_iff.1 (by rw [HLK.out]; omega)
            rw [hz]
            exact ChL.nil _ _
        · refine ⟨some ⟨b, o + k * 2, none⟩, fun W => ?_, fun W hb => HDR.out W hb b o rfl k 2⟩
          have hs : (sizeOf 46).run Tryd.prog W = .ok 2 W := by simp [go_sem, Tryd.sizeOf46]
          rw [run_sliceAt_slice W _ _ _ _ _ (by rw [he]; exact hu), run_slice_lh W _ _ _ _ (by rw [he]; exact hu) _ _ _ _ (by omega) (by omega) (by omega), he, hs]
          have e1 : ((k : Int)).toNat = k := Int.toNat_natCast k
          have e2 : ((m : Int)).toNat = m := Int.toNat_natCast m
          simp only [Result.andThen, sliced, e1, e2]
          by_cases hkc : cp = k
          · obtain rfl : k = 0 := by have := HMX.out; omega
            simp [hkc, Addr.add]
          · rw [if_neg hkc]
            simp [Addr.add]
      obtain ⟨A', hs1, hs2⟩ := hsl
      have HS2 := Lib.hid hs2
      have HP2 : Hid (P = (⟨g, t, (k : Int), (n : Int), (l.drop k).take 2⟩, 0)) := HP.out
      obtain ⟨L2, hL2⟩ : ∃ q, (l.drop k).take 2 = q := ⟨_, rfl⟩
      have HOW2 : Hid (∀ c' W, Below W3.heap.size W3 W → ChL W A' L2 → Calls Tryd.prog 30 #[.slice A' (m - k) c'] W (endO L2 W)) := fun c' W hb hc => by
        have := HOWN.out A' k c' W hb (by rw [hL2]; exact hc)
        rw [HLK.out, hL2] at this
        exact this
      have HB64' : Hid (∀ x ∈ L2, b64 x.1) := by rw [← hL2]; exact HB64.out k
      have HL2' : Hid (L2.length = m - k) := by rw [← hL2]; exact HLK.out
      rw [hL2] at HS2 HP2
      clear hs2 hL2 HOWN HLK HB64 HDR HP
      go_wp2_with fail
      refine (HOW2.out _ W6 HS6.out (HS2.out W6 HS6.out)).mono ?_
      rintro e W7 ⟨v, rfl, ho, c7⟩
      obtain ⟨A7, c77, rfl, hc7, hn7⟩ := ochs_chl ho HB64'.out
      have HB7 := Lib.hid (below_step HB6.out c7)
      have HR7 := Lib.hid (HR6.out.below c7)
      have hM7 := HM6.out.below c7
      have HM7 := Lib.hid hM7
      have HC7 := Lib.hid hc7
      have HN7 := Lib.hid hn7
      have HZ7 : Hid (W6.heap.size ≤ W7.heap.size ∧ gm < W6.heap.size ∧ g2 < W6.heap.size) := ⟨c7.size, HM6.out.lt, HR6.out.lt⟩
      have m6 := hM7.cell 6
      have f6 := hM7.frozen 6
      have hml := hM7.lt
      simp only [pC, List.getElem?_toArray, List.getElem?_cons_zero, List.getElem?_cons_succ] at m6
      obtain ⟨W8, hW8⟩ : ∃ q, W7.setCell ⟨gm, 6, none⟩ (.slice A7 L2.length c77) = q := ⟨_, rfl⟩
      have hM8 : Blk W8 gm 27 (pC g t (k : Int) (n : Int) (.slice A7 L2.length c77)) := by
        rw [← hW8]
        have := HM7.out.set_ 6 (.slice A7 L2.length c77)
        simp only [pC, List.setIfInBounds_toArray, List.set_cons_succ, List.set_cons_zero] at this
        exact this
      have hR8 : Blk W8 g2 27 pZ := by
        rw [← hW8]
        exact HR7.out.of_block (set_oth _ _ _ _ _ (by have := HMG.out; omega))
      have hB8 : Below w.heap.size w W8 := by
        rw [← hW8]
        exact HB7.out.setCell (show w.heap.size ≤ gm by have := HGE2.out; have := HMG.out; omega) _
      have hC8 : ChL W8 A7 L2 := by
        intro i hi
        obtain ⟨b, o, e1, e2, e3, e4, e5⟩ := HC7.out i hi
        have hne : b ≠ gm := by
          have := (HN7.out b o e1).1
          have := HZ7.out.2.1
          omega
        have hblk : W8.heap[b]? = W7.heap[b]? := by rw [← hW8]; exact set_oth _ _ _ _ _ hne
        exact ⟨b, o, e1, by rw [← hW8, World.size_setCell]; exact e2, by rw [World.cell?_of_block (a := ⟨b, o + i * 2, none⟩) hblk]; exact e3, by rw [World.cell?_of_block (a := ⟨b, o + i * 2 + 1, none⟩) hblk]; exact e4, e5⟩
      have HM8 := Lib.hid hM8
      have HR8 := Lib.hid hR8
      have HB8 := Lib.hid hB8
      have HC8 := Lib.hid hC8
      have HN8 : Hid (∀ b o, A7 = some ⟨b, o, none⟩ → w.heap.size ≤ b ∧ b < W8.heap.size ∧ b ≠ g2) := fun b o e => by
        have h1 := HN7.out b o e
        have h2 := HZ7.out
        have h3 := HB6.out.size
        refine ⟨by omega, by rw [← hW8, World.size_setCell]; exact h1.2, by omega⟩
      have HO8 : Hid (OChs W8 w.heap.size (.slice A7 L2.length c77) L2) := by
        unfold Hid
        rw [← hW8]
        exact row_of_block (row_base ho HB6.out.size) (fun j hj => set_oth _ _ _ _ _ (own_type ho HM7.out (by decide) j hj))
      have HW8 := Lib.hid hW8
      clear hM8 hR8 hB8 hC8 c7 hc7 hn7 ho hM7 hW8 hs1 hmi hmi2 hmi3 HOW2 HS2
      have r := HR8.out
      have a0 := r.cell 0
      have e0 := r.frozen 0
      have a1 := r.cell 1
      have e1 := r.frozen 1
      have a2 := r.cell 2
      have e2 := r.frozen 2
      have a3 := r.cell 3
      have e3 := r.frozen 3
      have a4 := r.cell 4
      have e4 := r.frozen 4
      have a5 := r.cell 5
      have e5 := r.frozen 5
      have a6 := r.cell 6
      have e6 := r.frozen 6
      have hrl := r.lt
      simp only [pZ, List.getElem?_toArray, List.getElem?_cons_zero, List.getElem?_cons_succ] at a0 a1 a2 a3 a4 a5 a6
      go_upto_region 10 with fail
      try rw [HW8.out]
      clear m6 f6 hml HW8 r
      have hm8 := HM8.out
      have m0 := hm8.cell 0
      have m1 := hm8.cell 1
      have m2 := hm8.cell 2
      have m3 := hm8.cell 3
      have m4 := hm8.cell 4
      have m5 := hm8.cell 5
      have m6 := hm8.cell 6
      have hml := hm8.lt
      simp only [pC, List.getElem?_toArray, List.getElem?_cons_zero, List.getElem?_cons_succ] at m0 m1 m2 m3 m4 m5 m6
      clear hm8
      go_wp2_with fail
      show bodyPost _ _ _ _ _ (setPa W8 g2 g t (k : Int) (n : Int) (.slice A7 L2.length c77))
      have HF : Hid (PaL (setPa W8 g2 g t (k : Int) (n : Int) (.slice A7 L2.length c77)) A7 c77 ⟨g, t, (k : Int), (n : Int), L2⟩) := by
        refine ⟨fun i hi => ?_, HGB.out, HTB.out, HFR.out, by unfold b64; dsimp only; omega⟩
        obtain ⟨b, o, e1, e2, e3, e4, e5⟩ := HC8.out i hi
        have hblk := setPa_oth W8 g2 g t (k : Int) (n : Int) (.slice A7 L2.length c77) b (HN8.out b o e1).2.2
        exact ⟨b, o, e1, by rw [setPa_size]; exact e2, by rw [World.cell?_of_block (a := ⟨b, o + i * 2, none⟩) hblk]; exact e3, by rw [World.cell?_of_block (a := ⟨b, o + i * 2 + 1, none⟩) hblk]; exact e4, e5⟩
      have hPP := HP2.out
      subst hPP
      exact pa_endO (r := (⟨g, t, (k : Int), (n : Int), L2⟩, 0)) (b := g2) Tryd.results4 _ rfl (by simp) (by simp) (setPa_blk (by rw [← pZ_is]; exact HR8.out)) HF.out (row_of_block HO8.out (fun j hj => setPa_oth _ _ _ _ _ _ _ _ (own_type HO8.out HR8.out (by decide) j hj))) (fun b o e => by have := HN8.out b o e; rw [setPa_size]; omega) (setPa_below HB8.out HGE2.out)
theorem cut_any (g t : Gd) (A : Option Addr) (cp : Nat) (l : List Ch) (fr : Int) (w : World) (hg : gdB g) (ht : gdB t) (h : ChL w A l) (hl : l.length ≤ 1000) (hcp : l.length ≤ cp) (hA : (A = none ∧ cp = 0) ∨ ∃ b o, A = some ⟨b, o, none⟩) (hd : ∀ c ∈ l, c.2.length ≤ 1000000) (hfr : b64 fr) :
    Calls Tryd.prog 4 #[gv g, gv t, .slice A l.length cp, .int .i64 fr] w (endP (pCut g t l fr) w) :=
  (cuto_any g t A cp l fr w hg ht h hl hcp hA hd hfr).mono fun _ _ => endPO.less
end Go.Proofs.YtdpbdkacngaemaaDoor.st

/- A part is cut: the document's way. -/
namespace Go.Proofs.YtdpbdkacngaemaaDoor.st
open Go Go.RowKit Go.Sort Go.Proofs.YtdpbdkacngaemaaDoor.ib Go.Proofs.YtdpbdkacngaemaaDoor.wi Go.Proofs.YtdpbdkacngaemaaDoor.mt
open Go.Proofs.YtdpbdkacngaemaaDoor.ch (ChL OChs chVals infoCh)
set_option maxRecDepth 100000

def RcG (gp : Nat) (A5 : Option Addr) (j c5 b oo n cp q : Nat) (x1 : Int) (S : ByteArray) : Nat → Value → World → Prop
  | 0, v, _ => v = .pointer (some ⟨gp, 6, none⟩)
  | 1, v, _ => v = .slice A5 j c5
  | 2, v, _ => v = .slice (some ⟨b, oo, none⟩) n cp
  | 3, v, _ => v = .int .i64 (q : Int)
  | 4, v, _ => v = .pointer (some ⟨b, oo + q * 2, none⟩)
  | 5, v, _ => v = .agg #[.int .i64 x1, .string S]
  | 6, v, W => ∃ g, v = .slice (some ⟨g, 0, none⟩) 1 1 ∧ Blk W g 46 #[.int .i64 x1, .string S]
  | _, _, _ => True
theorem RcG_mono (gp : Nat) (A5 : Option Addr) (j c5 b oo n cp q : Nat) (x1 : Int) (S : ByteArray) (i : Nat) (v : Value) (w w' : World) (hi : i < 7) (h : RcG gp A5 j c5 b oo n cp q x1 S i v w) (hb : Below w.heap.size w w') : RcG gp A5 j c5 b oo n cp q x1 S i v w' := by
  match i, hi, h with
  | 0, _, h | 1, _, h | 2, _, h | 3, _, h | 4, _, h | 5, _, h => exact h
  | 6, _, ⟨g, h1, h2⟩ => exact ⟨g, h1, h2.below hb⟩
  | j + 7, hi, _ => exact absurd hi (by omega)

/-- A part that is being made: its block, the result's, its changes so far. -/
structure CutS (w W : World) (gp g2 : Nat) (g t : Gd) (fr all : Int) (v : Value) (l : List Ch) : Prop where
  m : Blk W gp 27 (pC g t fr all v)
  res : Blk W g2 27 pZ
  row : OChs W w.heap.size v l
  below : Below w.heap.size w W
  ne : gp ≠ g2
  lo : w.heap.size ≤ gp ∧ w.heap.size ≤ g2
section
variable {w W W' : World} {gp g2 : Nat} {g t : Gd} {fr all : Int} {v : Value} {l : List Ch}
theorem CutS.grow (h : CutS w W gp g2 g t fr all v l) (hb : Below W.heap.size W W') : CutS w W' gp g2 g t fr all v l :=
  ⟨h.m.below hb, h.res.below hb, row_of_block h.row (fun j hj => hb.block j (h.row.lt j hj).2), below_step h.below hb, h.ne, h.lo⟩
theorem CutS.own (h : CutS w W gp g2 g t fr all v l) {j : Nat} (hl : l.length = j) : W.ownsRow w.heap.size 46 2 v j (chVals l) := by
  have := h.row
  unfold OChs at this
  rwa [hl] at this
theorem CutS.push {x : Ch} {v' : Value} {j : Nat} (h : CutS w W gp g2 g t fr all v l) (hl : l.length = j) (ho : W'.ownsRow w.heap.size 46 2 v' (j + 1) (chVals l ++ [.int .i64 x.1, .string (str x.2)])) (hg : W.grownBy W' v.ownBlock) :
    CutS w (W'.setCell ⟨gp, 6, none⟩ v') gp g2 g t fr all v' (l ++ [x]) ∧ W'.cell? ⟨gp, 6, none⟩ = some v ∧ W'.frozen? ⟨gp, 6, none⟩ = false := by
  have hk := Kp.of_grown hg h.row
  have hm := hk _ _ _ (by decide) h.m
  have hr := hk _ _ _ (by decide) h.res
  have hb : Below w.heap.size w W' := h.below.grown hg h.below.size (fun j hj => (h.row.lt j hj).1)
  have ho' : OChs W' w.heap.size v' (l ++ [x]) := ochs_snoc (by rw [hl]; exact ho)
  refine ⟨⟨?_, hr.of_block (set_oth _ _ _ _ _ h.ne.symm), row_of_block ho' (fun j hj => set_oth _ _ _ _ _ (own_type ho' hm (by decide) j hj)), hb.setCell (show w.heap.size ≤ gp from h.lo.1) _, h.ne, h.lo⟩, ?_, hm.frozen 6⟩
  · have := hm.set_ 6 v'
    simp only [pC, List.setIfInBounds_toArray, List.set_cons_succ, List.set_cons_zero] at this
    exact this
  · rw [hm.cell 6]
    simp [pC]
end
def RcRel (w : World) (gp g2 : Nat) (g t : Gd) (fr all : Int) (L : List Ch) (k : Nat) (i : Value) (wr : World) : Prop :=
  ∃ (j : Nat) (v : Value), j ≤ L.length ∧ i = .int .i64 ((k : Int) + (j : Int)) ∧ CutS w wr gp g2 g t fr all v (L.take j)

end Go.Proofs.YtdpbdkacngaemaaDoor.st

