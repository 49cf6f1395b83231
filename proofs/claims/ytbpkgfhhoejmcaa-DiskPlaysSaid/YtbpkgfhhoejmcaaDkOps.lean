/- The operations on a disk's map and on sectors, at the operation. -/
import Derived.Test.YtbpkgfhhoejmcaaDkMem
import Derived.Test.YtbpkgfhhoejmcaaStillW
import Derived.WalkSpells
import Derived.WalkLawsBesides
import Derived.BigCall
import Derived.Lib.Hide
import Derived.Deep.WholeRow
namespace Go.Proofs.Ytbpkgfhhoejmcaa.dk
open Go Go.RowKit

theorem exec_len {ρ : Operand → Value} {o : Oper} {w : World} {b : Nat} {s : Sects} (x : Operand) (ho : o.op = .call { callee := .builtin .len, args := #[x], argTypes := #[42] }) (hx : ρ x = .map (some b)) (h : MapIs w b s) :
    (execOp ρ o).run Try.prog w = .ok (.value (.int .i64 (cnt s : Int))) w := by
  simp [execOp, ho, resolve, invoke, builtin, hx, h.len o.type, Result.andThen]

theorem exec_look_ok {ρ : Operand → Value} {o : Oper} {w : World} {b : Nat} {s : Sects} (x y : Operand) (ho : o.op = .lookup 42 x y true) (hx : ρ x = .map (some b)) (h : MapIs w b s)
    (k : Int) (hy : ρ y = .int .i64 k) (h0 : -9223372036854775808 ≤ k) (h1 : k ≤ 9223372036854775807) :
    (execOp ρ o).run Try.prog w = .ok (.value (.tuple #[cVal ((look s k).getD zz), .bool (look s k).isSome])) w := by
  simp [execOp, ho, hx, hy, (h.find k h0 h1).1, Result.andThen]

theorem exec_look {ρ : Operand → Value} {o : Oper} {w : World} {b : Nat} {s : Sects} (x y : Operand) (ho : o.op = .lookup 42 x y false) (hx : ρ x = .map (some b)) (h : MapIs w b s)
    (k : Int) (hy : ρ y = .int .i64 k) (h0 : -9223372036854775808 ≤ k) (h1 : k ≤ 9223372036854775807) :
    (execOp ρ o).run Try.prog w = .ok (.value (cVal ((look s k).getD zz))) w := by
  simp [execOp, ho, hx, hy, (h.find k h0 h1).2, Result.andThen]

theorem wpList_store_dk {ops : Array Oper} {rest : List Oper} {o : Oper} {a : Act} {w : World} {Q : Exit → Act → World → Prop} {b : Nat} {s : Sects} (hg : o.guard = none) (x y z : Operand) (ho : o.op = .mapUpdate 42 x y z) (hx : a.eval x = .map (some b)) (h : MapIs w b s)
    (k : Nat) (hy : a.eval y = .int .i64 (k : Int)) (v : Bt) (hz : a.eval z = cVal v) (hk : k < s.length) (h1 : s.length ≤ 1024)
    (hK : ∀ w', MapIs w' b (put s k v) → w.mapTurned w' b → wpList Try.prog ops Q rest (a.put o.dst undef) w') : wpList Try.prog ops Q (o :: rest) a w := by
  refine wpList_plain hg fun K' hK' => ?_
  obtain ⟨w', hrun, r1, r2⟩ := h.store k v hk h1
  unfold Oper.wp
  simp [execOp, ho, hx, hy, hz, hrun, Result.andThen]
  exact hK' _ _ (hK w' r1 r2)

theorem wpList_drop_dk {ops : Array Oper} {rest : List Oper} {o : Oper} {a : Act} {w : World} {Q : Exit → Act → World → Prop} {b : Nat} {s : Sects} (hg : o.guard = none) (x y : Operand) (ho : o.op = .call { callee := .builtin .delete, args := #[x, y], argTypes := #[42, 3] }) (hx : a.eval x = .map (some b)) (h : MapIs w b s)
    (k : Nat) (hy : a.eval y = .int .i64 (k : Int)) (hk : k < s.length) (h1 : s.length ≤ 1024)
    (hK : ∀ w', MapIs w' b (s.set k none) → w.mapTurned w' b → wpList Try.prog ops Q rest (a.put o.dst (.tuple #[])) w') : wpList Try.prog ops Q (o :: rest) a w := by
  refine wpList_plain hg fun K' hK' => ?_
  obtain ⟨w', hrun, r1, r2⟩ := h.drop k hk h1 o.type
  unfold Oper.wp
  simp [execOp, ho, resolve, invoke, builtin, hx, hy, hrun, Result.andThen]
  exact hK' _ _ (hK w' r1 r2)

theorem turned_but {w w' : World} {b : Nat} (h : w.mapTurned w' b) : But (fun k => k = b) w w' := But.of_grown h.grown (fun _ e => by injection e with e; exact e.symm)

/-- A whole value into the block that was made last. -/
theorem exec_store_new {ρ : Operand → Value} {o : Oper} {P : Program} (w : World) (t : TypeId) (c c' : Array Value) (x y : Operand) (ho : o.op = .store t x y) (hx : ρ x = .pointer (some ⟨w.heap.size, 0, none⟩)) (hy : ρ y = .agg c')
    (hi : (P.info? t).map (·.size) = some c'.size) (hoc : c.size = c'.size) (h1 : c'.all (·.oneCell') = true) :
    (execOp ρ o).run P (w.alloc (.cells c t)) = .ok .skip (w.alloc (.cells c' t)) := by
  have hr := run_storeAt_new (P := P) w t c c' hi hoc h1
  simp [execOp, ho, hx, hy, hr, Result.andThen]

theorem bytes_all (q : Bt) : (Lib.byteCells q).toArray.all (·.oneCell') = true := by
  rw [Array.all_eq_true']
  intro u hu
  exact Lib.byteCells_one q u (by simpa using hu)

theorem info67 : (Try.prog.info? 58).map (·.size) = some 32 := by kernel_rfl

/-- A part of a row, as one value. -/
theorem run_loadVar_part {P : Program} (w : World) (g o : Nat) (t ty : TypeId) (cs : Array Value) (xs : List Value) (fr : Nat × Nat) (d : TypeDesc) (hg : w.heap[g]? = some (.cells cs t fr))
    (hu : P.underlying ty = some d) (hd : (match d with | .struct _ | .array _ _ => true | _ => false) = true) (hi : (P.info? ty).map (·.size) = some xs.length) (hx : ∀ j u, xs[j]? = some u → cs[o + j]? = some u) :
    (loadVar ty ⟨g, o, none⟩).run P w = .ok (.agg xs.toArray) w := by
  have hl : (loadCells ⟨g, o, none⟩ xs.length).run P w = .ok xs.toArray w :=
    run_loadCells_list (P := P) w ⟨g, o, none⟩ xs (fun j v hv => by
      rw [addr_add, cell_of_row w g (o + j) cs t fr hg]
      exact hx j v hv)
  cases hq : P.info? ty with
  | none => simp [hq] at hi
  | some i =>
    have hs : i.size = xs.length := by simpa [hq] using hi
    have hagg : (isAgg ty).run P w = .ok true w := by
      unfold isAgg
      rw [Sem.run_bind, run_underlying hu w]
      cases d <;> simp_all
    simp [loadVar, Sem.run_bind, hagg, sizeOf, typeInfo, hq, hs, hl]

theorem exec_load_part {ρ : Operand → Value} {o : Oper} {P : Program} {w : World} (ty : TypeId) (x : Operand) (ho : o.op = .load ty x) (g i : Nat) (hx : ρ x = .pointer (some ⟨g, i, none⟩)) (t : TypeId) (cs : Array Value) (xs : List Value) (fr : Nat × Nat) (d : TypeDesc)
    (hg : w.heap[g]? = some (.cells cs t fr)) (hu : P.underlying ty = some d) (hd : (match d with | .struct _ | .array _ _ => true | _ => false) = true) (hi : (P.info? ty).map (·.size) = some xs.length) (hc : ∀ j u, xs[j]? = some u → cs[i + j]? = some u) :
    (execOp ρ o).run P w = .ok (.value (.agg xs.toArray)) w := by
  simp only [execOp, ho, hx, Instr.loadAt, Instr.sureAddr, Sem.run_bind, Sem.run_pure, Result.andThen_ok, run_loadVar_part w g i t ty cs xs fr d hg hu hd hi hc]

end Go.Proofs.Ytbpkgfhhoejmcaa.dk
