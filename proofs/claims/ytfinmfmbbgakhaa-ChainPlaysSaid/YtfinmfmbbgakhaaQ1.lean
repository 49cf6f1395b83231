/- OwnKit, Parts, PgMem. -/
import Derived.Test.YtfinmfmbbgakhaaQ0
import Derived.Tactics
import Derived.Maps.AppendAt
import Derived.WalkSpells
import Derived.WalkLawsBesides
import Derived.BigCall
import Derived.Deep.WholeRow
import Derived.Great.BuildSlice
import Derived.Laws.CopyRow
import Derived.Lib.BufferWrite
import Derived.KernelRfl
/- Rows that a call owns: which blocks they are not, when they stay; append in a region that draws its order, and where the row then lies. Nothing here speaks of the program. -/
namespace Go.Proofs.Ytfinmfmbbgakhaa.ib
open Go Go.RowKit
set_option maxRecDepth 100000

theorem blk_type {w : World} {a b : Nat} {t u : TypeId} {x y : Array Value} (h : Blk w a t x) (k : Blk w b u y) (hn : t ≠ u) : a ≠ b := by
  rintro rfl
  unfold Blk at h k
  rw [h] at k
  simp only [Option.some.injEq, Obj.cells.injEq] at k
  exact hn k.2.1
theorem own_type {w : World} {base e size n a : Nat} {v : Value} {xs : List Value} {t : TypeId} {x : Array Value} (h : w.ownsRow base e size v n xs) (k : Blk w a t x) (hn : t ≠ e) : ∀ j, v.ownBlock = some j → j ≠ a := by
  intro j hj
  rcases h.2 with ⟨rfl, _⟩ | ⟨g, cap, cur, rfl, _, hg, _⟩
  · cases hj
  · simp [Value.ownBlock] at hj
    subst hj
    exact (blk_type k hg hn).symm
theorem row_of_block {w w' : World} {base e size n : Nat} {v : Value} {zs : List Value} (h : w.ownsRow base e size v n zs) (hb : ∀ k, v.ownBlock = some k → w'.heap[k]? = w.heap[k]?) : w'.ownsRow base e size v n zs := by
  refine ⟨h.1, ?_⟩
  rcases h.2 with h2 | ⟨g', cap, cur, h1, h2, h3, h4⟩
  · exact .inl h2
  · refine .inr ⟨g', cap, cur, h1, h2, (hb g' ?_).trans h3, h4⟩
    rw [h1]
    rfl
theorem row_base {w : World} {B B' e size n : Nat} {v : Value} {zs : List Value} (h : w.ownsRow B e size v n zs) (hB : B' ≤ B) : w.ownsRow B' e size v n zs := by
  refine ⟨h.1, ?_⟩
  rcases h.2 with h2 | ⟨g', cap, cur, h1, h2, h3⟩
  · exact .inl h2
  · exact .inr ⟨g', cap, cur, h1, Nat.le_trans hB h2, h3⟩
theorem own_form {w : World} {base e size n : Nat} {v : Value} {xs : List Value} (h : w.ownsRow base e size v n xs) : ∃ A c, v = .slice A n c := by
  rcases h.2 with ⟨rfl, rfl⟩ | ⟨g, cap, cur, rfl, _⟩
  · exact ⟨none, 0, rfl⟩
  · exact ⟨_, cap, rfl⟩
theorem set_oth (w : World) (g i : Nat) (u : Value) (k : Nat) (h : k ≠ g) : (w.setCell ⟨g, i, none⟩ u).heap[k]? = w.heap[k]? := Below.heap_setCell _ _ _ _ h
theorem but_grow {S : Nat → Prop} {a w w' : World} {row : Option Nat} (h : But S a w) (hg : w.grownBy w' row) (hr : ∀ k, row = some k → S k ∨ a.heap.size ≤ k) : But S a w' :=
  h.trans (S' := fun k => row = some k) ⟨hg.os, hg.tape, hg.output, hg.size, fun k hk hn => hg.block k hk (fun e => hn e.symm)⟩ hr

theorem wp_append_any {P : Program} {o : Oper} {a : Act} {w : World} {K : Act → World → Prop} {Q : Exit → Act → World → Prop} (s x : Operand) (t : TypeId)
    (ho : o.op = .call { callee := .builtin .append, args := #[s, x], argTypes := #[t, t] })
    (base : Nat) (e : TypeId) (i : TypeInfo) (z : Value) (size bytes : Nat) (ht : P.underlying t = some (.slice e)) (hi : P.info? e = some i) (hz : i.zero = some z)
    (hsize : i.size = size) (hby : i.bytes = bytes) (hzs : z.cells.size = size) (hsz : 0 < size)
    (v : Value) (n : Nat) (xs : List Value) (hs : a.eval s = v) (hown : w.ownsRow base e size v n xs)
    (ad : Addr) (m c : Nat) (news : List Value) (hx : a.eval x = .slice (some ad) m c) (hl : news.length = m * size) (hnews : ∀ j u, news[j]? = some u → w.cell? (ad.add j) = some u) (h1 : ∀ u ∈ news, u.oneCell' = true)
    (h63 : n + m ≤ maxLen) (hbytes : (n + m) * bytes ≤ 140737488355328) (hbase : base ≤ w.heap.size)
    (h : ∀ v' w', w'.ownsRow base e size v' (n + m) (xs ++ news) → w.grownBy w' v.ownBlock → (v'.ownBlock = v.ownBlock ∨ v'.ownBlock = some w.heap.size) → K (a.put o.dst v') w') : o.wp P a w K Q := by
  obtain ⟨v', w', hrun, h2, h3, _, h5⟩ := run_append_own_at (P := P) w base t o.type e i z size bytes ht hi hz hsize hby hzs hsz v n xs hown ad m c news hl hnews h1 h63 hbytes hbase
  unfold Oper.wp
  simp [execOp, ho, resolve, invoke, builtin, hs, hx, hrun, Result.andThen]
  exact h v' w' h2 h3 h5

/-- All blocks that are of another type than r are as they were. -/
def Kp (r : TypeId) (w w' : World) : Prop := ∀ j t cs, t ≠ r → Blk w j t cs → Blk w' j t cs
theorem Kp.refl (r : TypeId) (w : World) : Kp r w w := fun _ _ _ _ h => h
theorem Kp.trans {r : TypeId} {a b c : World} (h : Kp r a b) (k : Kp r b c) : Kp r a c := fun j t cs hn hb => k j t cs hn (h j t cs hn hb)
theorem Kp.of_below {r : TypeId} {w w' : World} (h : Below w.heap.size w w') : Kp r w w' := fun _ _ _ _ hb => hb.below h
theorem Kp.of_but {r : TypeId} {w w' : World} {c : Nat} {x : Array Value} (h : But (fun j => j = c) w w') (hc : Blk w c r x) : Kp r w w' := fun j t cs hn hb =>
  hb.of_block (h.block j hb.lt (blk_type hb hc hn))
theorem Kp.of_grown {r : TypeId} {base size n : Nat} {v : Value} {xs : List Value} {w w' : World} (h : w.grownBy w' v.ownBlock) (ho : w.ownsRow base r size v n xs) : Kp r w w' := fun j t cs hn hb =>
  hb.of_block (h.block j hb.lt (fun e => own_type ho hb hn j e.symm rfl))
theorem Kp.of_set {r : TypeId} {w : World} {g : Nat} {x : Array Value} (i : Nat) (u : Value) (hg : Blk w g r x) : Kp r w (w.setCell ⟨g, i, none⟩ u) := fun j t cs hn hb =>
  hb.of_block (set_oth _ _ _ _ _ (blk_type hb hg hn))
theorem Kp.row {r : TypeId} {w w' : World} {base e size n : Nat} {v : Value} {zs : List Value} (h : Kp r w w') (hn : e ≠ r) (ho : w.ownsRow base e size v n zs) : w'.ownsRow base e size v n zs := by
  refine ⟨ho.1, ?_⟩
  rcases ho.2 with h2 | ⟨g', cap, cur, h1, h2, h3, h4⟩
  · exact .inl h2
  · exact .inr ⟨g', cap, cur, h1, h2, h g' e cur hn h3, h4⟩
end Go.Proofs.Ytfinmfmbbgakhaa.ib

/- Parts of rows: a value of many cells loaded from, stored into, copied into a part of a block; literals of such. Nothing here speaks of the program. -/
namespace Go.Proofs.Ytfinmfmbbgakhaa.ib
open Go Go.RowKit
set_option maxRecDepth 100000

theorem fold_put (o : Nat) : ∀ (l : List Value) (k : Nat) (acc : Array Value), o + k + l.length ≤ acc.size →
    (l.zipIdx k).foldl (fun a x => a.setIfInBounds (o + x.2) x.1) acc = (acc.toList.take (o + k) ++ l ++ acc.toList.drop (o + k + l.length)).toArray
  | [], k, acc, _ => by simp
  | x :: l, k, acc, h => by
    have hk : o + k < acc.size := by simp at h; omega
    have hk' : o + k < acc.toList.length := by simpa using hk
    rw [List.zipIdx_cons, List.foldl_cons, fold_put o l (k + 1) _ (by simp at h ⊢; omega)]
    congr 1
    simp only [Array.toList_setIfInBounds, List.length_cons]
    rw [List.drop_set_of_lt (by omega), show o + (k + 1) + l.length = o + k + (l.length + 1) by omega, show o + (k + 1) = o + k + 1 by omega]
    have e : (acc.toList.set (o + k) x).take (o + k + 1) = acc.toList.take (o + k) ++ [x] := by
      rw [List.take_succ_eq_append_getElem (by simpa using hk)]
      simp only [List.getElem_set_self, List.take_set]
      rw [List.set_eq_of_length_le (by simp; omega)]
    rw [e]
    simp

theorem fill_step (place : Nat → Option (Nat × Nat)) (acc : Array Value) (i off size : Nat) (cs : Array Value) (rest : List (Nat × Value)) (hp : place i = some (off, size)) (hs : cs.size = size) (hb : off + size ≤ acc.size) :
    Instr.fill place acc ((i, .agg cs) :: rest) = Instr.fill place (acc.toList.take off ++ cs.toList ++ acc.toList.drop (off + size)).toArray rest := by
  have hl : cs.toList.length = size := by simpa using hs
  have hf := fold_put off cs.toList 0 acc (by simp; omega)
  have hc : (decide (cs.size ≠ size) || decide (off + cs.size > acc.size)) = false := by simp [hs]; omega
  have e : Instr.fill place acc ((i, .agg cs) :: rest) = if (decide (cs.size ≠ size) || decide (off + cs.size > acc.size)) = true then none else Instr.fill place (cs.zipIdx.foldl (fun a x => a.setIfInBounds (off + x.2) x.1) acc) rest := by
    rw [Instr.fill, hp]
    rfl
  rw [e, hc]
  simp only [Bool.false_eq_true, if_false]
  congr 1
  rw [← Array.foldl_toList, Array.toList_zipIdx]
  rw [hl, Nat.add_zero] at hf
  exact hf

/-- A part of a row, as one value. -/
theorem run_loadVar_part {P : Program} (w : World) (g o : Nat) (t ty : TypeId) (cs : Array Value) (xs : List Value) (fr : Nat × Nat) (d : TypeDesc) (hg : w.heap[g]? = some (.cells cs t fr))
    (hu : P.underlying ty = some d) (hd : (match d with | .struct _ | .array _ _ => true | _ => false) = true) (hi : (P.info? ty).map (·.size) = some xs.length) (hx : ∀ j u, xs[j]? = some u → cs[o + j]? = some u) :
    (loadVar ty ⟨g, o, none⟩).run P w = .ok (.agg xs.toArray) w := by
  have hl : (loadCells ⟨g, o, none⟩ xs.length).run P w = .ok xs.toArray w :=
    run_loadCells_list (P := P) w ⟨g, o, none⟩ xs (fun j v hv => by
      rw [addr_add, cell_of_row w g (o + j) cs t fr hg]
      exact hx j v hv)
  cases hq : P.info? ty with
  | none => simp [hq] at hi
  | some i =>
    have hs : i.size = xs.length := by simpa [hq] using hi
    have hagg : (isAgg ty).run P w = .ok true w := by
      unfold isAgg
      rw [Sem.run_bind, run_underlying hu w]
      cases d <;> simp_all
    simp [loadVar, Sem.run_bind, hagg, sizeOf, typeInfo, hq, hs, hl]

theorem exec_load_part {ρ : Operand → Value} {o : Oper} {P : Program} {w : World} (ty : TypeId) (x : Operand) (ho : o.op = .load ty x) (g i : Nat) (hx : ρ x = .pointer (some ⟨g, i, none⟩)) (t : TypeId) (cs : Array Value) (xs : List Value) (fr : Nat × Nat) (d : TypeDesc)
    (hg : w.heap[g]? = some (.cells cs t fr)) (hu : P.underlying ty = some d) (hd : (match d with | .struct _ | .array _ _ => true | _ => false) = true) (hi : (P.info? ty).map (·.size) = some xs.length) (hc : ∀ j u, xs[j]? = some u → cs[i + j]? = some u) :
    (execOp ρ o).run P w = .ok (.value (.agg xs.toArray)) w := by
  simp only [execOp, ho, hx, Instr.loadAt, Instr.sureAddr, Sem.run_bind, Sem.run_pure, Result.andThen_ok, run_loadVar_part w g i t ty cs xs fr d hg hu hd hi hc]

theorem run_storeVar_part {P : Program} (w : World) (g o : Nat) (t ty : TypeId) (cur : Array Value) (xs : List Value) (hg : w.heap[g]? = some (.cells cur t (0, 0))) (hi : (P.info? ty).map (·.size) = some xs.length) (hl : o + xs.length ≤ cur.size) (h1 : ∀ v ∈ xs, v.oneCell' = true) :
    (storeVar ty ⟨g, o, none⟩ (.agg xs.toArray)).run P w = .ok () (w.setRow g (cur.toList.take o ++ xs ++ cur.toList.drop (o + xs.length)).toArray) := by
  have := run_storeCells_at P g o t xs 0 cur w hg (by simpa using hl) h1
  cases hq : P.info? ty with
  | none => simp [hq] at hi
  | some i =>
    have hs : i.size = xs.length := by simpa [hq] using hi
    simp only [Nat.add_zero] at this
    simp [storeVar, sizeOf, typeInfo, hq, Value.cells, hs, this]

theorem exec_store_part {ρ : Operand → Value} {o : Oper} {P : Program} (w : World) (ty : TypeId) (x y : Operand) (ho : o.op = .store ty x y) (g i : Nat) (hx : ρ x = .pointer (some ⟨g, i, none⟩)) (xs : List Value) (hy : ρ y = .agg xs.toArray) (t : TypeId) (cur : Array Value)
    (hg : Blk w g t cur) (hi : (P.info? ty).map (·.size) = some xs.length) (hl : i + xs.length ≤ cur.size) (h1 : ∀ v ∈ xs, v.oneCell' = true) :
    (execOp ρ o).run P w = .ok .skip (w.setRow g (cur.toList.take i ++ xs ++ cur.toList.drop (i + xs.length)).toArray) := by
  have hr := run_storeVar_part (P := P) w g i t ty cur xs hg hi hl h1
  have h2 : (Instr.storeAt ty (.pointer (some ⟨g, i, none⟩)) (.agg xs.toArray)).run P w = .ok () (w.setRow g (cur.toList.take i ++ xs ++ cur.toList.drop (i + xs.length)).toArray) := by
    simp only [Instr.storeAt, Instr.sureAddr, Sem.run_bind, Sem.run_pure, Result.andThen]
    exact hr
  simp [execOp, ho, hx, hy, h2, Result.andThen]

/-- A whole value into the block that was made last. -/
theorem exec_store_new {ρ : Operand → Value} {o : Oper} {P : Program} (w : World) (t : TypeId) (c c' : Array Value) (x y : Operand) (ho : o.op = .store t x y) (hx : ρ x = .pointer (some ⟨w.heap.size, 0, none⟩)) (hy : ρ y = .agg c')
    (hi : (P.info? t).map (·.size) = some c'.size) (hoc : c.size = c'.size) (h1 : c'.all (·.oneCell') = true) :
    (execOp ρ o).run P (w.alloc (.cells c t)) = .ok .skip (w.alloc (.cells c' t)) := by
  have hr := run_storeAt_new (P := P) w t c c' hi hoc h1
  simp [execOp, ho, hx, hy, hr, Result.andThen]

theorem cells_all {l : List Value} (h : ∀ v ∈ l, v.oneCell' = true) : l.toArray.all (·.oneCell') = true := by
  rw [Array.all_eq_true']
  intro u hu
  exact h u (by simpa using hu)

theorem exec_alloc {ρ : Operand → Value} {o : Oper} {P : Program} {w : World} (t : TypeId) (i : TypeInfo) (z : Array Value) (ho : o.op = .alloc t) (hi : P.info? t = some i) (hz : i.zero = some (.agg z)) :
    (execOp ρ o).run P w = .ok (.value (.pointer (some ⟨w.heap.size, 0, none⟩))) (w.alloc (.cells z t)) := by
  have hz : ∀ w, (zeroValue t).run P w = .ok (.agg z) w := fun w => by simp [zeroValue, typeInfo, hi, hz]
  simp [execOp, ho, Instr.alloc, hz, Result.andThen, go_sem, Value.cells]

/-- A struct's or an array's value into a cell of its own. -/
theorem exec_box {ρ : Operand → Value} {o : Oper} {P : Program} {w : World} (t : TypeId) (x : Operand) (cs : Array Value) (ho : o.op = .box t x) (hx : ρ x = .agg cs) (hs : (P.info? t).map (·.size) = some cs.size) (h1 : cs.all (·.oneCell') = true) :
    (execOp ρ o).run P w = .ok (.value (.pointer (some ⟨w.heap.size, 0, none⟩))) (w.alloc (.cells cs t)) := by
  simp [execOp, ho, hx, Instr.box, Result.andThen, go_sem, Value.cells]

/-- A slice literal of one. -/
theorem exec_one {ρ : Operand → Value} {o : Oper} {P : Program} {w : World} (st t : TypeId) (x : Operand) (cs : Array Value) (size : Nat) (ho : o.op = .buildSlice st 1 #[(0, x)]) (hx : ρ x = .agg cs)
    (hu : P.underlying st = some (.slice t)) (i : TypeInfo) (z : Value) (hi : P.info? t = some i) (hz : i.zero = some z) (hs : i.size = size) (h0 : 0 < size) (hm : size ≤ 2 ^ 24) (hc : cs.size = size) :
    (execOp ρ o).run P w = .ok (.value (.slice (some ⟨w.heap.size, 0, none⟩) 1 1)) (w.alloc (.cells cs t)) := by
  have hr := run_buildSlice (P := P) w st t 1 #[(0, .agg cs)] cs i z hu hi hz (by rw [hs]; omega) (by rw [hs]; omega) (by
    rw [hs, fill_step _ _ 0 0 size cs [] (by simp) hc (by simp)]
    simp [Instr.fill]
    rw [List.drop_eq_nil_of_le (by simp)]
    simp)
  simp [execOp, ho, hx, hr, Result.andThen]

/-- Bytes of a text copied into a part of a row. -/
theorem exec_copy_part {ρ : Operand → Value} {o : Oper} {P : Program} (w : World) (x y : Operand) (bt st ut : TypeId) (s : ByteArray) (g i n c : Nat) (t : TypeId) (cur : Array Value) (iu : TypeInfo) (ho : o.op = .call { callee := .builtin .copy, args := #[x, y], argTypes := #[bt, st] })
    (hx : ρ x = .slice (some ⟨g, i, none⟩) n c) (hy : ρ y = .string s) (hs : s.size = n) (hg : Blk w g t cur) (hl : i + n ≤ cur.size) (hu : P.underlying bt = some (.slice ut)) (hi : P.info? ut = some iu) (hz : iu.size = 1) :
    (execOp ρ o).run P w = .ok (.value (.int .i64 (n : Int))) (w.setRow g (cur.toList.take i ++ Lib.byteCells (bl s) ++ cur.toList.drop (i + n)).toArray) := by
  have hlen : (bl s).length = n := by rw [bl_len, hs]
  have hst := run_storeCells_at P g i t (Lib.byteCells (bl s)) 0 cur w hg (by rw [Lib.byteCells_length, hlen]; simpa using hl) (Lib.byteCells_one _)
  rw [Lib.byteCells_length, hlen] at hst
  simp only [Nat.add_zero] at hst
  have htk : List.take n (List.map (fun b : UInt8 => Value.int IntKind.u8 (b.toNat : Int)) s.data.toList) = Lib.byteCells (bl s) := by
    rw [List.take_of_length_le]
    · rfl
    · simp only [List.length_map]
      have : s.data.toList.length = n := hlen
      omega
  have hc : (Builtin.copy_ #[bt, st] o.type #[.slice (some ⟨g, i, none⟩) n c, .string s]).run P w = .ok (.int .i64 (n : Int)) (w.setRow g (cur.toList.take i ++ Lib.byteCells (bl s) ++ cur.toList.drop (i + n)).toArray) := by
    simp [Builtin.copy_, run_underlying hu, Builtin.lenOf, Builtin.firstCells, sizeOf, typeInfo, hi, hz, hs]
    rw [htk, hst]
    simp [Result.andThen]
    rfl
  simp [execOp, ho, resolve, invoke, builtin, hx, hy, hc, Result.andThen]

/-- append to a slice that has no room: all of it lies in a new block. -/
theorem run_append_full {P : Program} (w : World) (t ty e : TypeId) (i : TypeInfo) (z : Value) (size bytes : Nat) (ht : P.underlying t = some (.slice e)) (hi : P.info? e = some i) (hz : i.zero = some z) (hsize : i.size = size) (hby : i.bytes = bytes)
    (A : Option Addr) (n : Nat) (xs : List Value) (hxl : xs.length = n * size) (hA : A = none → n = 0) (holds : ∀ b, A = some b → ∀ j u, xs[j]? = some u → w.cell? (b.add j) = some u)
    (a : Addr) (m c : Nat) (news : List Value) (hl : news.length = m * size) (hnews : ∀ j u, news[j]? = some u → w.cell? (a.add j) = some u) (h0 : 0 < m)
    (h63 : n + m ≤ maxLen) (hbytes : (n + m) * bytes ≤ 140737488355328) :
    ∃ cap cur w', (Builtin.append_ #[t, t] ty #[.slice A n n, .slice (some a) m c]).run P w = .ok (.slice (some ⟨w.heap.size, 0, none⟩) (n + m) cap) w' ∧ Below w.heap.size w w' ∧ Blk w' w.heap.size e cur ∧
      cur.toList.take ((n + m) * size) = xs ++ news ∧ n + m ≤ cap ∧ cap ≤ maxLen ∧ w'.heap.size = w.heap.size + 1 := by
  subst hsize
  subst hby
  have hsmall : n + m ≤ 9223372036854775807 := by simp only [maxLen] at h63; omega
  have hlen : (xs ++ news).length = (n + m) * i.size := by rw [List.length_append, hxl, hl, Nat.add_mul]
  have hbel : ∀ cs, Below w.heap.size w (w.drew.alloc (.cells cs e)) := fun cs => ⟨rfl, rfl, rfl, by simp, fun k hk => heap_alloc_old w.drew _ hk⟩
  cases A with
  | none =>
    obtain rfl := hA rfl
    have hx : xs = [] := List.eq_nil_of_length_eq_zero (by simpa using hxl)
    subst hx
    have hr := run_append_nil (P := P) w t ty e i z ht hi hz a m c news hl hnews h0 (by omega) (by have hb := hbytes; simp only [Nat.zero_add] at hb; omega)
    rw [Nat.zero_add, List.nil_append]
    refine ⟨_, _, _, hr, hbel _, heap_alloc_new w.drew _, ?_, grownCap_ge _ _ _ _, grownCap_le_maxLen _ _ _ _ (by omega), by simp⟩
    simp only [Array.toList_append]
    rw [← hl]
    exact List.take_left
  | some b =>
    have hr := run_append_grow (P := P) w t ty e i z ht hi hz b n n xs hxl (holds b rfl) a m c news hl hnews (by omega) (by omega) (growslice_fits (by omega) hbytes)
    refine ⟨_, _, _, hr, hbel _, heap_alloc_new w.drew _, ?_, grownCap_ge _ _ _ _, grownCap_le_maxLen _ _ _ _ h63, by simp⟩
    simp only [Array.toList_append, List.append_assoc]
    rw [← List.append_assoc, ← hlen]
    exact List.take_left

theorem wp_append_full {P : Program} {o : Oper} {a : Act} {w : World} {K : Act → World → Prop} {Q : Exit → Act → World → Prop} (s x : Operand) (t : TypeId)
    (ho : o.op = .call { callee := .builtin .append, args := #[s, x], argTypes := #[t, t] })
    (e : TypeId) (i : TypeInfo) (z : Value) (size bytes : Nat) (ht : P.underlying t = some (.slice e)) (hi : P.info? e = some i) (hz : i.zero = some z)
    (hsize : i.size = size) (hby : i.bytes = bytes) (A : Option Addr) (n : Nat) (xs : List Value) (hs : a.eval s = .slice A n n)
    (hxl : xs.length = n * size) (hA : A = none → n = 0) (holds : ∀ b, A = some b → ∀ j u, xs[j]? = some u → w.cell? (b.add j) = some u)
    (ad : Addr) (m c : Nat) (news : List Value) (hx : a.eval x = .slice (some ad) m c) (hl : news.length = m * size) (hnews : ∀ j u, news[j]? = some u → w.cell? (ad.add j) = some u) (h0 : 0 < m)
    (h63 : n + m ≤ maxLen) (hbytes : (n + m) * bytes ≤ 140737488355328)
    (h : ∀ cap cur w', Below w.heap.size w w' → Blk w' w.heap.size e cur → cur.toList.take ((n + m) * size) = xs ++ news → n + m ≤ cap → cap ≤ maxLen → w'.heap.size = w.heap.size + 1 → K (a.put o.dst (.slice (some ⟨w.heap.size, 0, none⟩) (n + m) cap)) w') : o.wp P a w K Q := by
  obtain ⟨cap, cur, w', hrun, h2, h3, h4, h5, h6, h7⟩ := run_append_full (P := P) w t o.type e i z size bytes ht hi hz hsize hby A n xs hxl hA holds ad m c news hl hnews h0 h63 hbytes
  unfold Oper.wp
  simp [execOp, ho, resolve, invoke, builtin, hs, hx, hrun, Result.andThen]
  exact h cap cur w' h2 h3 h4 h5 h6 h7

theorem wpList_append_full {P : Program} {ops : Array Oper} {rest : List Oper} {o : Oper} {a : Act} {w : World} {Q : Exit → Act → World → Prop} (hg : o.guard = none) (s x : Operand) (t : TypeId)
    (ho : o.op = .call { callee := .builtin .append, args := #[s, x], argTypes := #[t, t] })
    (e : TypeId) (i : TypeInfo) (z : Value) (size bytes : Nat) (ht : P.underlying t = some (.slice e)) (hi : P.info? e = some i) (hz : i.zero = some z)
    (hsize : i.size = size) (hby : i.bytes = bytes) (A : Option Addr) (n : Nat) (xs : List Value) (hs : a.eval s = .slice A n n)
    (hxl : xs.length = n * size) (hA : A = none → n = 0) (holds : ∀ b, A = some b → ∀ j u, xs[j]? = some u → w.cell? (b.add j) = some u)
    (ad : Addr) (m c : Nat) (news : List Value) (hx : a.eval x = .slice (some ad) m c) (hl : news.length = m * size) (hnews : ∀ j u, news[j]? = some u → w.cell? (ad.add j) = some u) (h0 : 0 < m)
    (h63 : n + m ≤ maxLen) (hbytes : (n + m) * bytes ≤ 140737488355328)
    (h : ∀ cap cur w', Below w.heap.size w w' → Blk w' w.heap.size e cur → cur.toList.take ((n + m) * size) = xs ++ news → n + m ≤ cap → cap ≤ maxLen → w'.heap.size = w.heap.size + 1 → wpList P ops Q rest (a.put o.dst (.slice (some ⟨w.heap.size, 0, none⟩) (n + m) cap)) w') : wpList P ops Q (o :: rest) a w :=
  wpList_plain hg fun K' hK' => wp_append_full s x t ho e i z size bytes ht hi hz hsize hby A n xs hs hxl hA holds ad m c news hx hl hnews h0 h63 hbytes fun cap cur w' h1 h2 h3 h4 h5 h6 => hK' _ _ (h cap cur w' h1 h2 h3 h4 h5 h6)

/-- One result that lies in memory. -/
theorem results_cell1 {fn : Func} {p : Tmp} {ty : TypeId} (h : fn.results = #[.cell p ty]) (tmps : Array Value) (P : Program) (w : World) (a : Addr) (v : Value)
    (hp : tmps.getD p undef = .pointer (some a)) (h1 : (loadVar ty a).run P w = .ok v w) : (results fn tmps).run P w = .ok v w := by
  simp only [results, h]
  simp only [Array.getD_eq_getD_getElem?] at hp
  simp [Sem.run_bind, Result.andThen, asAddr, hp, h1]

theorem setRow_blk {w : World} {g : Nat} {t : TypeId} {cur c : Array Value} (h : Blk w g t cur) : Blk (w.setRow g c) g t c := by
  unfold Blk at h ⊢
  unfold World.setRow
  rw [Array.getElem?_modify, if_pos rfl, h]
  rfl
theorem setRow_oth {w : World} {g k : Nat} {c : Array Value} (h : k ≠ g) : (w.setRow g c).heap[k]? = w.heap[k]? := by
  unfold World.setRow
  simp only [Array.getElem?_modify]
  rw [if_neg (Ne.symm h)]
theorem setRow_size (w : World) (g : Nat) (c : Array Value) : (w.setRow g c).heap.size = w.heap.size := by
  unfold World.setRow
  simp
theorem setRow_but (w : World) (g : Nat) (c : Array Value) : But (fun k => k = g) w (w.setRow g c) :=
  ⟨rfl, rfl, rfl, by rw [setRow_size]; exact Nat.le_refl _, fun k _ hn => setRow_oth hn⟩
end Go.Proofs.Ytfinmfmbbgakhaa.ib

/- The program's chain in memory: volumes as 256 cells, snapshots as 259, the row behind it. -/
namespace Go.Proofs.Ytfinmfmbbgakhaa.ch.pg
open Go Go.RowKit Go.Proofs.Ytfinmfmbbgakhaa.ib
set_option maxRecDepth 100000

/-! ### Parts of the same length -/
section
variable {α β : Type} {f : α → List β} {m : Nat}
theorem fm_len : ∀ {l : List α}, (∀ x ∈ l, (f x).length = m) → (l.flatMap f).length = l.length * m
  | [], _ => by simp
  | x :: l, h => by
    rw [List.flatMap_cons, List.length_append, fm_len (l := l) (fun y hy => h y (by simp [hy])), h x (by simp), List.length_cons, Nat.succ_mul]
    omega
theorem fm_take (l : List α) (k : Nat) (h : ∀ x ∈ l, (f x).length = m) : (l.flatMap f).take (k * m) = (l.take k).flatMap f := by
  by_cases hk : k ≤ l.length
  · have e : l.flatMap f = (l.take k).flatMap f ++ (l.drop k).flatMap f := by rw [← List.flatMap_append, List.take_append_drop]
    rw [e, List.take_left']
    rw [fm_len (fun x hx => h x (List.mem_of_mem_take hx)), List.length_take, Nat.min_eq_left hk]
  · rw [List.take_of_length_le (i := k) (by omega), List.take_of_length_le]
    rw [fm_len h]
    exact Nat.mul_le_mul_right m (by omega)
theorem fm_drop (l : List α) (k : Nat) (h : ∀ x ∈ l, (f x).length = m) : (l.flatMap f).drop (k * m) = (l.drop k).flatMap f := by
  by_cases hk : k ≤ l.length
  · have e : l.flatMap f = (l.take k).flatMap f ++ (l.drop k).flatMap f := by rw [← List.flatMap_append, List.take_append_drop]
    rw [e, List.drop_left']
    rw [fm_len (fun x hx => h x (List.mem_of_mem_take hx)), List.length_take, Nat.min_eq_left hk]
  · rw [List.drop_of_length_le (i := k) (by omega), List.drop_of_length_le]
    · rfl
    · rw [fm_len h]
      exact Nat.mul_le_mul_right m (by omega)
theorem fm_get (l : List α) (k : Nat) (hk : k < l.length) (h : ∀ x ∈ l, (f x).length = m) (j : Nat) (u : β) (hu : (f l[k])[j]? = some u) : (l.flatMap f)[k * m + j]? = some u := by
  have e := fm_drop l k h
  rw [List.drop_eq_getElem_cons hk, List.flatMap_cons] at e
  have : ((l.flatMap f).drop (k * m))[j]? = some u := by
    rw [e, List.getElem?_append_left (List.getElem?_eq_some_iff.1 hu).1]
    exact hu
  rwa [List.getElem?_drop] at this
theorem fm_set (l : List α) (k : Nat) (s : α) (hk : k < l.length) (h : ∀ x ∈ l, (f x).length = m) : (l.flatMap f).take (k * m) ++ f s ++ (l.flatMap f).drop (k * m + m) = (l.set k s).flatMap f := by
  rw [show k * m + m = (k + 1) * m by rw [Nat.succ_mul], fm_take l k h, fm_drop l (k + 1) h, List.set_eq_take_append_cons_drop, if_pos hk, List.flatMap_append, List.flatMap_cons, List.append_assoc]
end

/-! ### Volumes -/
def pad (l : List Bt) : List Bt := l ++ List.replicate (8 - l.length) zz
def vc (l : List Bt) : List Value := (pad l).flatMap Lib.byteCells
theorem pad_len {n : Nat} {l : List Bt} (h : volOk n l) (h8 : n ≤ 8) : (pad l).length = 8 := by
  unfold pad
  rw [List.length_append, List.length_replicate, h.1]
  omega
theorem pad_32 {n : Nat} {l : List Bt} (h : volOk n l) : ∀ v ∈ pad l, v.length = 32 := by
  intro v hv
  rcases List.mem_append.1 hv with h1 | h1
  · exact h.2 v h1
  · rw [List.eq_of_mem_replicate h1]
    exact zz_length
theorem pad_b {n : Nat} {l : List Bt} (h : volOk n l) : ∀ v ∈ pad l, (Lib.byteCells v).length = 32 := fun v hv => by rw [Lib.byteCells_length, pad_32 h v hv]
theorem vc_len {n : Nat} {l : List Bt} (h : volOk n l) (h8 : n ≤ 8) : (vc l).length = 256 := by
  unfold vc
  rw [fm_len (pad_b h), pad_len h h8]
theorem vc_one (l : List Bt) : ∀ u ∈ vc l, u.oneCell' = true := by
  intro u hu
  obtain ⟨s, _, h⟩ := List.mem_flatMap.1 hu
  exact Lib.byteCells_one _ u h
theorem pad_set (l : List Bt) (k : Nat) (s : Bt) (hk : k < l.length) : pad (l.set k s) = (pad l).set k s := by
  unfold pad
  rw [List.set_append_left _ _ hk, List.length_set]
theorem vc_set {n : Nat} {l : List Bt} (h : volOk n l) (k : Nat) (s : Bt) (hk : k < l.length) : (vc l).take (k * 32) ++ Lib.byteCells s ++ (vc l).drop (k * 32 + 32) = vc (l.set k s) := by
  unfold vc
  rw [pad_set l k s hk]
  exact fm_set (pad l) k s (by unfold pad; rw [List.length_append]; omega) (pad_b h)
theorem vc_get {n : Nat} {l : List Bt} (h : volOk n l) (k : Nat) (hk : k < (pad l).length) (j : Nat) (u : Value) (hu : (Lib.byteCells (pad l)[k])[j]? = some u) : (vc l)[k * 32 + j]? = some u := fm_get (pad l) k hk (pad_b h) j u hu
theorem pad_lt (l : List Bt) (k : Nat) (hk : k < l.length) (hp : k < (pad l).length) : (pad l)[k] = l[k] := List.getElem_append_left hk
theorem pad_ge (l : List Bt) (k : Nat) (hk : l.length ≤ k) (hp : k < (pad l).length) : (pad l)[k] = zz := (List.getElem_append_right hk).trans (by simp)
theorem pad_inj {l q : List Bt} (h : l.length = q.length) (e : pad l = pad q) : l = q := List.append_inj_left e h
theorem pad_zvol (n : Nat) (h8 : n ≤ 8) : pad (zvol n) = List.replicate 8 zz := by
  unfold pad zvol
  rw [List.length_replicate, List.replicate_append_replicate]
  congr 1
  omega
theorem vc_zvol (n : Nat) (h8 : n ≤ 8) : vc (zvol n) = vc [] := by
  unfold vc
  rw [pad_zvol n h8]
  rfl

/-! ### Snapshots -/
def sc (s : Sn) : List Value := vc s.bs ++ [.int .u64 (s.g.1 : Int), .int .u64 (s.g.2 : Int), .bool s.hid]
def srow (l : List Sn) : List Value := l.flatMap sc
theorem sc_len {n : Nat} {s : Sn} (h : volOk n s.bs) (h8 : n ≤ 8) : (sc s).length = 259 := by
  unfold sc
  rw [List.length_append, vc_len h h8]
  rfl
theorem sc_one (s : Sn) : ∀ u ∈ sc s, u.oneCell' = true := by
  intro u hu
  rcases List.mem_append.1 hu with h | h
  · exact vc_one _ u h
  · simp at h
    rcases h with rfl | rfl | rfl <;> rfl
theorem sc_g1 {n : Nat} {s : Sn} (h : volOk n s.bs) (h8 : n ≤ 8) : (sc s)[256]? = some (.int .u64 (s.g.1 : Int)) := by
  unfold sc
  rw [List.getElem?_append_right (by rw [vc_len h h8]; omega), vc_len h h8]
  rfl
theorem sc_g2 {n : Nat} {s : Sn} (h : volOk n s.bs) (h8 : n ≤ 8) : (sc s)[257]? = some (.int .u64 (s.g.2 : Int)) := by
  unfold sc
  rw [List.getElem?_append_right (by rw [vc_len h h8]; omega), vc_len h h8]
  rfl
theorem sc_hid {n : Nat} {s : Sn} (h : volOk n s.bs) (h8 : n ≤ 8) : (sc s)[258]? = some (.bool s.hid) := by
  unfold sc
  rw [List.getElem?_append_right (by rw [vc_len h h8]; omega), vc_len h h8]
  rfl
theorem sc_vc (s : Sn) (j : Nat) (u : Value) (h : (vc s.bs)[j]? = some u) : (sc s)[j]? = some u := by
  unfold sc
  rw [List.getElem?_append_left (List.getElem?_eq_some_iff.1 h).1]
  exact h
/-- The snapshot that is none. -/
def z0 : Sn := ⟨(0, 0), [], false⟩
theorem infoSnp : (Try.prog.info? 84).map (fun i => (i.zero, i.size, i.bytes)) = some (some (.agg (sc z0).toArray), 259, 280) := by kernel_rfl
theorem sizeSnp : (Try.prog.info? 84).map (·.size) = some 259 := by kernel_rfl
theorem sizeVol : (Try.prog.info? 69).map (·.size) = some 256 := by kernel_rfl
theorem sizeChn : (Try.prog.info? 72).map (·.size) = some 258 := by kernel_rfl
theorem sizeB32 : (Try.prog.info? 67).map (·.size) = some 32 := by kernel_rfl

/-- The cells behind a chain's pointer. -/
def ccells (n : Nat) (l : List Bt) (v : Value) : List Value := .int .i64 (n : Int) :: (vc l ++ [v])
theorem infoChn : (Try.prog.info? 72).map (fun i => (i.zero, i.size, i.bytes)) = some (some (.agg (ccells 0 [] (.slice none 0 0)).toArray), 258, 288) := by kernel_rfl
theorem ccells_len {n m : Nat} {l : List Bt} {v : Value} (h : volOk n l) (h8 : n ≤ 8) : (ccells m l v).length = 258 := by
  unfold ccells
  rw [List.length_cons, List.length_append, vc_len h h8]
  rfl
theorem ccells_v {n m : Nat} {l : List Bt} {v : Value} (h : volOk n l) (h8 : n ≤ 8) : (ccells m l v)[257]? = some v := by
  unfold ccells
  rw [show 257 = 256 + 1 from rfl, List.getElem?_cons_succ, List.getElem?_append_right (by rw [vc_len h h8]; omega), vc_len h h8]
  rfl
theorem ccells_vc {m : Nat} {l : List Bt} {v : Value} (j : Nat) (u : Value) (h : (vc l)[j]? = some u) : (ccells m l v)[1 + j]? = some u := by
  unfold ccells
  rw [Nat.add_comm, List.getElem?_cons_succ, List.getElem?_append_left (List.getElem?_eq_some_iff.1 h).1]
  exact h
theorem ccells_setv {n m : Nat} {l : List Bt} {v u : Value} (h : volOk n l) (h8 : n ≤ 8) : (ccells m l v).toArray.setIfInBounds 257 u = (ccells m l u).toArray := by
  unfold ccells
  rw [List.setIfInBounds_toArray, show 257 = 256 + 1 from rfl, List.set_cons_succ, List.set_append_right _ _ (by rw [vc_len h h8]; omega), vc_len h h8]
  rfl
/-- Another volume whole. -/
theorem ccells_setl {n m : Nat} {l q : List Bt} {v : Value} (h : volOk n l) (hq : volOk n q) (h8 : n ≤ 8) : (ccells m l v).take 1 ++ vc q ++ (ccells m l v).drop (1 + (vc q).length) = ccells m q v := by
  unfold ccells
  rw [vc_len hq h8, Nat.add_comm, List.take_succ_cons, List.drop_succ_cons, List.take_zero, List.drop_left' (vc_len h h8)]
  simp
/-- One block of it. -/
theorem ccells_set1 {n m : Nat} {l : List Bt} {v : Value} (h : volOk n l) (h8 : n ≤ 8) (k : Nat) (s : Bt) (hk : k < l.length) : (ccells m l v).take (1 + k * 32) ++ Lib.byteCells s ++ (ccells m l v).drop (1 + k * 32 + 32) = ccells m (l.set k s) v := by
  have hl := vc_len h h8
  have hn := h.1
  unfold ccells
  rw [show 1 + k * 32 + 32 = (k * 32 + 32) + 1 by omega, Nat.add_comm 1, List.take_succ_cons, List.drop_succ_cons, List.take_append_of_le_length (by omega), List.drop_append_of_le_length (by omega), ← vc_set h k s hk]
  simp
theorem sc_set1 {n : Nat} {s : Sn} (h : volOk n s.bs) (h8 : n ≤ 8) (k : Nat) (b : Bt) (hk : k < s.bs.length) : (sc s).take (0 + k * 32) ++ Lib.byteCells b ++ (sc s).drop (0 + k * 32 + 32) = sc { s with bs := s.bs.set k b } := by
  have hl := vc_len h h8
  have hn := h.1
  unfold sc
  rw [Nat.zero_add, List.take_append_of_le_length (by omega), List.drop_append_of_le_length (by omega), ← vc_set h k b hk]
  simp

/-! ### Rows of snapshots -/
theorem srow_len {n : Nat} {l : List Sn} (h : ∀ s ∈ l, volOk n s.bs) (h8 : n ≤ 8) : (srow l).length = l.length * 259 := fm_len (fun s hs => sc_len (h s hs) h8)
theorem srow_get {n : Nat} {l : List Sn} (h : ∀ s ∈ l, volOk n s.bs) (h8 : n ≤ 8) (k : Nat) (hk : k < l.length) (j : Nat) (u : Value) (hu : (sc l[k])[j]? = some u) : (srow l)[k * 259 + j]? = some u := fm_get l k hk (fun s hs => sc_len (h s hs) h8) j u hu
theorem srow_snoc (l : List Sn) (s : Sn) : srow (l ++ [s]) = srow l ++ sc s := by simp [srow]

/-- A slice of snapshots, read alone: its room may be less than the block's. -/
def SRow (w : World) (v : Value) (l : List Sn) : Prop := ∃ A c, v = .slice A l.length c ∧ l.length ≤ c ∧ c ≤ maxLen ∧
  ((A = none ∧ l.length = 0 ∧ c = 0) ∨ ∃ g cur, A = some ⟨g, 0, none⟩ ∧ Blk w g 84 cur ∧ cur.toList.take (l.length * 259) = srow l)
theorem srow_take {w : World} {n k m c : Nat} {A : Option Addr} {l : List Sn} (h : SRow w (.slice A m c) l) (ho : ∀ s ∈ l, volOk n s.bs) (h8 : n ≤ 8) (hk : k ≤ l.length) (c2 : Nat) (hc2 : k ≤ c2) (hc : c2 ≤ c) : SRow w (.slice A k c2) (l.take k) := by
  have hlk : (l.take k).length = k := by rw [List.length_take]; omega
  obtain ⟨A', c', e, h1, h2, h3⟩ := h
  simp only [Value.slice.injEq] at e
  obtain ⟨rfl, rfl, rfl⟩ := e
  refine ⟨A, c2, by rw [hlk], by omega, by omega, ?_⟩
  rcases h3 with ⟨rfl, h0, rfl⟩ | ⟨g, cur, rfl, hb, hcur⟩
  · exact .inl ⟨rfl, by omega, by omega⟩
  · refine .inr ⟨g, cur, rfl, hb, ?_⟩
    have e2 := fm_take (f := sc) l k (fun s hs => sc_len (ho s hs) h8)
    rw [hlk]
    unfold srow at hcur ⊢
    rw [← e2, ← hcur, List.take_take, Nat.min_eq_left (Nat.mul_le_mul_right 259 hk)]
theorem srow_view {w : World} {n : Nat} {v : Value} {l : List Sn} (h : SRow w v l) (ho : ∀ s ∈ l, volOk n s.bs) (h8 : n ≤ 8) :
    ∃ A c, v = .slice A l.length c ∧ l.length ≤ c ∧ (A = none → l.length = 0 ∧ c = 0) ∧ ∀ i (hi : i < l.length), ∃ g cur, A = some ⟨g, 0, none⟩ ∧ Blk w g 84 cur ∧ ∀ j u, (sc l[i])[j]? = some u → cur[i * 259 + j]? = some u := by
  obtain ⟨A, c, rfl, h1, h2, h3⟩ := h
  rcases h3 with ⟨rfl, h0, rfl⟩ | ⟨g, cur, rfl, hb, hcur⟩
  · exact ⟨none, 0, rfl, h1, fun _ => ⟨h0, rfl⟩, fun i hi => by omega⟩
  · refine ⟨some ⟨g, 0, none⟩, c, rfl, h1, (fun h => by cases h), fun i hi => ⟨g, cur, rfl, hb, fun j u hu => ?_⟩⟩
    have hr := srow_get ho h8 i hi j u hu
    rw [← hcur, List.getElem?_take] at hr
    split at hr
    · simpa using hr
    · cases hr
theorem SRow.of_block {w w' : World} {v : Value} {l : List Sn} (h : SRow w v l) (hb : ∀ k, v.ownBlock = some k → w'.heap[k]? = w.heap[k]?) : SRow w' v l := by
  obtain ⟨A, c, rfl, h1, h2, h3⟩ := h
  refine ⟨A, c, rfl, h1, h2, ?_⟩
  rcases h3 with h3 | ⟨g, cur, rfl, h4, h5⟩
  · exact .inl h3
  · exact .inr ⟨g, cur, rfl, h4.of_block (hb g rfl), h5⟩
theorem SRow.lt {w : World} {v : Value} {l : List Sn} (h : SRow w v l) : ∀ k, v.ownBlock = some k → k < w.heap.size := by
  obtain ⟨A, c, rfl, h1, h2, h3⟩ := h
  intro k hk
  rcases h3 with ⟨rfl, _⟩ | ⟨g, cur, rfl, h4, h5⟩
  · cases hk
  · simp [Value.ownBlock] at hk
    subst hk
    exact h4.lt
theorem SRow.ne {w : World} {v : Value} {l : List Sn} {a : Nat} {t : TypeId} {x : Array Value} (h : SRow w v l) (k : Blk w a t x) (hn : t ≠ 84) : ∀ j, v.ownBlock = some j → j ≠ a := by
  obtain ⟨A, c, rfl, h1, h2, h3⟩ := h
  intro j hj
  rcases h3 with ⟨rfl, _⟩ | ⟨g, cur, rfl, h4, h5⟩
  · cases hj
  · simp [Value.ownBlock] at hj
    subst hj
    exact (blk_type k h4 hn).symm
theorem SRow.cells {w : World} {A : Option Addr} {n c : Nat} {l : List Sn} (h : SRow w (.slice A n c) l) : n = l.length ∧ (A = none → n = 0) ∧ ∀ b, A = some b → ∀ j u, (srow l)[j]? = some u → w.cell? (b.add j) = some u := by
  obtain ⟨A', c', e, h1, h2, h3⟩ := h
  simp only [Value.slice.injEq] at e
  obtain ⟨rfl, rfl, rfl⟩ := e
  rcases h3 with ⟨rfl, h0, rfl⟩ | ⟨g, cur, rfl, hb, hcur⟩
  · exact ⟨rfl, (fun _ => h0), fun b hb => by cases hb⟩
  · refine ⟨rfl, (fun h => by cases h), fun b e j u hu => ?_⟩
    simp only [Option.some.injEq] at e
    subst e
    rw [addr_add, Nat.zero_add, hb.cell j]
    rw [← hcur, List.getElem?_take] at hu
    split at hu
    · simpa using hu
    · cases hu

/-- What lies behind the pointer of the program's chain. -/
structure PgAt (w : World) (own : Nat → Prop) (p : Nat) (v : Value) (d : CH) : Prop where
  blk : Blk w p 72 (ccells d.live.length d.live v).toArray
  row : SRow w v d.snaps
  op : own p
  om : ∀ k, v.ownBlock = some k → own k
  low : ∀ k, own k → k < w.heap.size
def Is0 : IsT := fun own w p d => d.ok ∧ ∃ v, PgAt w own p v d

section
variable {w w' : World} {own : Nat → Prop} {p : Nat} {v : Value} {d : CH}
theorem PgAt.vp (h : PgAt w own p v d) : ∀ j, v.ownBlock = some j → j ≠ p := h.row.ne h.blk (by decide)
theorem PgAt.keep (h : PgAt w own p v d) (hs : w.heap.size ≤ w'.heap.size) (hb : ∀ k, own k → w'.heap[k]? = w.heap[k]?) : PgAt w' own p v d :=
  ⟨h.blk.of_block (hb _ h.op), h.row.of_block (fun k hk => hb k (h.om k hk)), h.op, h.om, fun k hk => Nat.lt_of_lt_of_le (h.low k hk) hs⟩
theorem PgAt.below (h : PgAt w own p v d) (hb : Below w.heap.size w w') : PgAt w' own p v d := h.keep hb.size (fun k hk => hb.block k (h.low k hk))
theorem PgAt.c0 (h : PgAt w own p v d) : w.cell? ⟨p, 0, none⟩ = some (.int .i64 (d.live.length : Int)) := by
  rw [h.blk.cell 0]
  rfl
theorem PgAt.c2 (h : PgAt w own p v d) (ho : d.ok) : w.cell? ⟨p, 257, none⟩ = some v := by
  rw [h.blk.cell 257]
  simpa using ccells_v (m := d.live.length) (v := v) ho.live ho.n8
theorem SRow.below {l : List Sn} (h : SRow w v l) (hb : Below w.heap.size w w') : SRow w' v l := h.of_block (fun k hk => hb.block k (h.lt k hk))
end
end Go.Proofs.Ytfinmfmbbgakhaa.ch.pg

