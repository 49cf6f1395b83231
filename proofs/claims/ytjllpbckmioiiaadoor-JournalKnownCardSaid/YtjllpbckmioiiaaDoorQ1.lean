/- StillW, DkOps, DkEasy, DkNew. -/
import Derived.Test.YtjllpbckmioiiaaDoorQ0
import Derived.StillTailTactics
import Derived.BigCall
import Derived.WalkKit
import Derived.WalkSpells
import Derived.WalkLawsBesides
import Derived.Lib.Hide
import Derived.Deep.WholeRow
import Derived.Carry
/- A region that draws its order, reads, and ends in one forced tail: walked in the text's order, the world behind the draw folded; big loads by a law. -/
namespace Go.Proofs.YtjllpbckmioiiaaDoor
open Go Go.RowKit
set_option maxRecDepth 100000

theorem wp_region_still_w {P : Program} {id : Nat} {Q : Exit → Act → World → Prop} {a : Act} {w : World} {l : List Oper} (n : Nat) (hm : P.follows .mixedOrders = true) (hB : Region.lexTailB .any l.toArray n = true)
    (h : wpStill P l.toArray w.drew (fun a' => wpList P l.toArray Q (l.drop n) a' w.drew) (l.take n) a) : (Code.region id l.toArray true).wp P Q a w :=
  wp_region_still_tail n hm hB h

theorem still_value {P : Program} {ops : Array Oper} {w : World} {Q : Act → Prop} {o : Oper} {rest : List Oper} {a : Act} {v : Value} (hg : o.guard = none) (h : (execOp a.eval o).run P w = .ok (.value v) w)
    (hn : wpStill P ops w Q rest (a.put o.dst v)) : wpStill P ops w Q (o :: rest) a := by
  have hw : Region.wanted o (yielded ops a.tmps) = true := by simp [Region.wanted, hg]
  unfold wpStill
  rw [if_pos hw]
  unfold Oper.still
  rw [h]
  exact ⟨rfl, hn⟩

theorem wp_value {P : Program} {o : Oper} {a : Act} {w w' : World} {v : Value} {K : Act → World → Prop} {Q : Exit → Act → World → Prop} (h : (execOp a.eval o).run P w = .ok (.value v) w') (hn : K (a.put o.dst v) w') : o.wp P a w K Q := by
  unfold Oper.wp
  rw [h]
  exact hn

theorem wpList_value {P : Program} {ops : Array Oper} {rest : List Oper} {o : Oper} {a : Act} {w w' : World} {v : Value} {Q : Exit → Act → World → Prop} (hg : o.guard = none) (h : (execOp a.eval o).run P w = .ok (.value v) w')
    (hn : wpList P ops Q rest (a.put o.dst v) w') : wpList P ops Q (o :: rest) a w :=
  wpList_plain hg fun _ hK => wp_value h (hK _ _ hn)

theorem wp_skip {P : Program} {o : Oper} {a : Act} {w w' : World} {K : Act → World → Prop} {Q : Exit → Act → World → Prop} (h : (execOp a.eval o).run P w = .ok .skip w') (hn : K (a.put o.dst undef) w') : o.wp P a w K Q := by
  unfold Oper.wp
  rw [h]
  exact hn

theorem wpList_skip {P : Program} {ops : Array Oper} {rest : List Oper} {o : Oper} {a : Act} {w w' : World} {Q : Exit → Act → World → Prop} (hg : o.guard = none) (h : (execOp a.eval o).run P w = .ok .skip w')
    (hn : wpList P ops Q rest (a.put o.dst undef) w') : wpList P ops Q (o :: rest) a w :=
  wpList_plain hg fun _ hK => wp_skip h (hK _ _ hn)

theorem wpList_value_w {P : Program} {ops : Array Oper} {rest : List Oper} {o : Oper} {a : Act} {w w' : World} {v : Value} {Q : Exit → Act → World → Prop} (hw : Region.wanted o (yielded ops a.tmps) = true) (h : (execOp a.eval o).run P w = .ok (.value v) w')
    (hn : wpList P ops Q rest (a.put o.dst v) w') : wpList P ops Q (o :: rest) a w :=
  wpList_step fun K hK => by
    rw [if_pos hw]
    exact wp_value h (hK _ _ hn)

end Go.Proofs.YtjllpbckmioiiaaDoor

/- The operations on a disk's map and on sectors, at the operation. -/
namespace Go.Proofs.YtjllpbckmioiiaaDoor.dk
open Go Go.RowKit
set_option maxRecDepth 100000

theorem exec_len {ρ : Operand → Value} {o : Oper} {w : World} {b : Nat} {s : Sects} (x : Operand) (ho : o.op = .call { callee := .builtin .len, args := #[x], argTypes := #[71] }) (hx : ρ x = .map (some b)) (h : MapIs w b s) :
    (execOp ρ o).run Tryd.prog w = .ok (.value (.int .i64 (cnt s : Int))) w := by
  simp [execOp, ho, resolve, invoke, builtin, hx, h.len o.type, Result.andThen]

theorem exec_look_ok {ρ : Operand → Value} {o : Oper} {w : World} {b : Nat} {s : Sects} (x y : Operand) (ho : o.op = .lookup 71 x y true) (hx : ρ x = .map (some b)) (h : MapIs w b s)
    (k : Int) (hy : ρ y = .int .i64 k) (h0 : -9223372036854775808 ≤ k) (h1 : k ≤ 9223372036854775807) :
    (execOp ρ o).run Tryd.prog w = .ok (.value (.tuple #[cVal ((look s k).getD zz), .bool (look s k).isSome])) w := by
  simp [execOp, ho, hx, hy, (h.find k h0 h1).1, Result.andThen]

theorem exec_look {ρ : Operand → Value} {o : Oper} {w : World} {b : Nat} {s : Sects} (x y : Operand) (ho : o.op = .lookup 71 x y false) (hx : ρ x = .map (some b)) (h : MapIs w b s)
    (k : Int) (hy : ρ y = .int .i64 k) (h0 : -9223372036854775808 ≤ k) (h1 : k ≤ 9223372036854775807) :
    (execOp ρ o).run Tryd.prog w = .ok (.value (cVal ((look s k).getD zz))) w := by
  simp [execOp, ho, hx, hy, (h.find k h0 h1).2, Result.andThen]

theorem wpList_store_dk {ops : Array Oper} {rest : List Oper} {o : Oper} {a : Act} {w : World} {Q : Exit → Act → World → Prop} {b : Nat} {s : Sects} (hg : o.guard = none) (x y z : Operand) (ho : o.op = .mapUpdate 71 x y z) (hx : a.eval x = .map (some b)) (h : MapIs w b s)
    (k : Nat) (hy : a.eval y = .int .i64 (k : Int)) (v : Bt) (hz : a.eval z = cVal v) (hk : k < s.length) (h1 : s.length ≤ 1024)
    (hK : ∀ w', MapIs w' b (put s k v) → w.mapTurned w' b → wpList Tryd.prog ops Q rest (a.put o.dst undef) w') : wpList Tryd.prog ops Q (o :: rest) a w := by
  refine wpList_plain hg fun K' hK' => ?_
  obtain ⟨w', hrun, r1, r2⟩ := h.store k v hk h1
  unfold Oper.wp
  simp [execOp, ho, hx, hy, hz, hrun, Result.andThen]
  exact hK' _ _ (hK w' r1 r2)

theorem wpList_drop_dk {ops : Array Oper} {rest : List Oper} {o : Oper} {a : Act} {w : World} {Q : Exit → Act → World → Prop} {b : Nat} {s : Sects} (hg : o.guard = none) (x y : Operand) (ho : o.op = .call { callee := .builtin .delete, args := #[x, y], argTypes := #[71, 3] }) (hx : a.eval x = .map (some b)) (h : MapIs w b s)
    (k : Nat) (hy : a.eval y = .int .i64 (k : Int)) (hk : k < s.length) (h1 : s.length ≤ 1024)
    (hK : ∀ w', MapIs w' b (s.set k none) → w.mapTurned w' b → wpList Tryd.prog ops Q rest (a.put o.dst (.tuple #[])) w') : wpList Tryd.prog ops Q (o :: rest) a w := by
  refine wpList_plain hg fun K' hK' => ?_
  obtain ⟨w', hrun, r1, r2⟩ := h.drop k hk h1 o.type
  unfold Oper.wp
  simp [execOp, ho, resolve, invoke, builtin, hx, hy, hrun, Result.andThen]
  exact hK' _ _ (hK w' r1 r2)

theorem turned_but {w w' : World} {b : Nat} (h : w.mapTurned w' b) : But (fun k => k = b) w w' := But.of_grown h.grown (fun _ e => by injection e with e; exact e.symm)

/-- A whole value into the block that was made last. -/
theorem exec_store_new {ρ : Operand → Value} {o : Oper} {P : Program} (w : World) (t : TypeId) (c c' : Array Value) (x y : Operand) (ho : o.op = .store t x y) (hx : ρ x = .pointer (some ⟨w.heap.size, 0, none⟩)) (hy : ρ y = .agg c')
    (hi : (P.info? t).map (·.size) = some c'.size) (hoc : c.size = c'.size) (h1 : c'.all (·.oneCell') = true) :
    (execOp ρ o).run P (w.alloc (.cells c t)) = .ok .skip (w.alloc (.cells c' t)) := by
  have hr := run_storeAt_new (P := P) w t c c' hi hoc h1
  simp [execOp, ho, hx, hy, hr, Result.andThen]

theorem bytes_all (q : Bt) : (Lib.byteCells q).toArray.all (·.oneCell') = true := by
  rw [Array.all_eq_true']
  intro u hu
  exact Lib.byteCells_one q u (by simpa using hu)

theorem info67 : (Tryd.prog.info? 77).map (·.size) = some 32 := by kernel_rfl

/-- A part of a row, as one value. -/
theorem run_loadVar_part {P : Program} (w : World) (g o : Nat) (t ty : TypeId) (cs : Array Value) (xs : List Value) (fr : Nat × Nat) (d : TypeDesc) (hg : w.heap[g]? = some (.cells cs t fr))
    (hu : P.underlying ty = some d) (hd : (match d with | .struct _ | .array _ _ => true | _ => false) = true) (hi : (P.info? ty).map (·.size) = some xs.length) (hx : ∀ j u, xs[j]? = some u → cs[o + j]? = some u) :
    (loadVar ty ⟨g, o, none⟩).run P w = .ok (.agg xs.toArray) w := by
  have hl : (loadCells ⟨g, o, none⟩ xs.length).run P w = .ok xs.toArray w :=
    run_loadCells_list (P := P) w ⟨g, o, none⟩ xs (fun j v hv => by
      rw [addr_add, cell_of_row w g (o + j) cs t fr hg]
      exact hx j v hv)
  cases hq : P.info? ty with
  | none => simp [hq] at hi
  | some i =>
    have hs : i.size = xs.length := by simpa [hq] using hi
    have hagg : (isAgg ty).run P w = .ok true w := by
      unfold isAgg
      rw [Sem.run_bind, run_underlying hu w]
      cases d <;> simp_all
    simp [loadVar, Sem.run_bind, hagg, sizeOf, typeInfo, hq, hs, hl]

theorem exec_load_part {ρ : Operand → Value} {o : Oper} {P : Program} {w : World} (ty : TypeId) (x : Operand) (ho : o.op = .load ty x) (g i : Nat) (hx : ρ x = .pointer (some ⟨g, i, none⟩)) (t : TypeId) (cs : Array Value) (xs : List Value) (fr : Nat × Nat) (d : TypeDesc)
    (hg : w.heap[g]? = some (.cells cs t fr)) (hu : P.underlying ty = some d) (hd : (match d with | .struct _ | .array _ _ => true | _ => false) = true) (hi : (P.info? ty).map (·.size) = some xs.length) (hc : ∀ j u, xs[j]? = some u → cs[i + j]? = some u) :
    (execOp ρ o).run P w = .ok (.value (.agg xs.toArray)) w := by
  simp only [execOp, ho, hx, Instr.loadAt, Instr.sureAddr, Sem.run_bind, Sem.run_pure, Result.andThen_ok, run_loadVar_part w g i t ty cs xs fr d hg hu hd hi hc]

end Go.Proofs.YtjllpbckmioiiaaDoor.dk

/- The small methods of a disk. -/
namespace Go.Proofs.YtjllpbckmioiiaaDoor.dk
open Go Go.RowKit
set_option maxRecDepth 100000

section
variable {w : World} {p m : Nat} {v : Value} {d : DD} {own : Nat → Prop}

theorem blk6 {t : TypeId} {a b c e f g : Value} (h : Blk w p t #[a, b, c, e, f, g]) :
    w.cell? ⟨p, 0, none⟩ = some a ∧ w.cell? ⟨p, 1, none⟩ = some b ∧ w.cell? ⟨p, 2, none⟩ = some c ∧ w.cell? ⟨p, 3, none⟩ = some e ∧ w.cell? ⟨p, 4, none⟩ = some f ∧ w.cell? ⟨p, 5, none⟩ = some g :=
  ⟨h.cell 0, h.cell 1, h.cell 2, h.cell 3, h.cell 4, h.cell 5⟩

theorem len_any (h : DkAt w own p m v d) :
    Calls Tryd.prog 19 #[.pointer (some ⟨p, 0, none⟩)] w fun e w' => e = .returned (.int .i64 (d.n : Int)) ∧ w = w' := by
  obtain ⟨c0, c1, c2, c3, c4, c5⟩ := blk6 h.1
  clear h c1 c2 c3 c4 c5
  go_enter Tryd.func19, Tryd.ntmps19
  go_wp2
  go_ret
  exact ⟨rfl, rfl⟩

theorem on_any (h : DkAt w own p m v d) :
    Calls Tryd.prog 14 #[.pointer (some ⟨p, 0, none⟩)] w fun e w' => e = .returned (.bool d.on) ∧ w = w' := by
  obtain ⟨c0, c1, c2, c3, c4, c5⟩ := blk6 h.1
  clear h c1 c2 c3 c0 c5
  go_enter Tryd.func14, Tryd.ntmps14
  go_wp2
  go_ret
  exact ⟨rfl, rfl⟩

theorem has_any (h : DkAt w own p m v d) (k : Int) :
    Calls Tryd.prog 42 #[.pointer (some ⟨p, 0, none⟩), .int .i64 k] w fun e w' => e = .returned (.bool (d.has k)) ∧ w = w' := by
  obtain ⟨c0, c1, c2, c3, c4, c5⟩ := blk6 h.1
  clear h c1 c2 c3 c4 c5
  have H : Hid (d.has k = (decide (0 ≤ k) && decide (k < (d.n : Int)))) := rfl
  generalize d.has k = q at *
  generalize (d.n : Int) = n at *
  by_cases h0 : 0 ≤ k
  · by_cases h1 : k < n
    · have hq : q = true := by rw [H.out]; simp [h0, h1]
      clear H
      subst hq
      go_enter Tryd.func42, Tryd.ntmps42
      go_wp2
      go_ret
      exact ⟨rfl, rfl⟩
    · have hq : q = false := by rw [H.out]; simp [h1]
      have h1' : n ≤ k := by omega
      clear H
      subst hq
      go_enter Tryd.func42, Tryd.ntmps42
      go_wp2
      go_ret
      exact ⟨rfl, rfl⟩
  · have hq : q = false := by rw [H.out]; simp [h0]
    have h0' : k < 0 := by omega
    clear H
    subst hq
    go_enter Tryd.func42, Tryd.ntmps42
    go_wp2
    go_ret
    exact ⟨rfl, rfl⟩

theorem used_any (h : DkAt w own p m v d) :
    Calls Tryd.prog 21 #[.pointer (some ⟨p, 0, none⟩)] w fun e w' => e = .returned (.int .i64 (d.used : Int)) ∧ w = w' := by
  obtain ⟨c0, c1, c2, c3, c4, c5⟩ := blk6 h.1
  have HM := Lib.hid h.2.1
  clear h c1 c4 c3 c0 c5
  go_enter Tryd.func21, Tryd.ntmps21
  go_wp2_with (at_len; refine wpList_value rfl (exec_len _ rfl rfl HM.out) ?_)
  go_ret
  exact ⟨rfl, rfl⟩

/-- .. behind stores into the struct alone. -/
theorem DkAt.turn {w' : World} {d' : DD} (h : DkAt w own p m v d) (hb : d'.base = d.base) (hm : d'.more = d.more)
    (hk : Blk w' p 74 #[.int .i64 (d'.n : Int), .int .i64 d'.room, .map (some m), v, .bool d'.on, .int .i64 d'.fuse]) (hs : w.heap.size ≤ w'.heap.size) (hr : ∀ k, k < w.heap.size → k ≠ p → w'.heap[k]? = w.heap[k]?) : DkAt w' own p m v d' := by
  obtain ⟨hpm, hv⟩ := h.ne
  obtain ⟨h1, h2, h3, hp, hm', hvo, hl⟩ := h
  refine ⟨hk, ?_, ?_, hp, hm', hvo, fun k hk => Nat.lt_of_lt_of_le (hl k hk) hs⟩
  · have : d'.now = d.now := by unfold DD.now; rw [hb, hm]
    rw [this]
    exact h2.of_block (hr _ (hl _ hm') (fun e => hpm e.symm))
  · rw [hb, hm]
    exact own_of_block h3 (fun k hk => hr k (hl k (hvo k hk)) (hv k hk).1)

theorem set_other (w : World) (p i : Nat) (u : Value) (k : Nat) (h : k ≠ p) : (w.setCell ⟨p, i, none⟩ u).heap[k]? = w.heap[k]? := Below.heap_setCell _ _ _ _ h
theorem size_set (w : World) (p : Addr) (u : Value) : (w.setCell p u).heap.size = w.heap.size := by simp [World.setCell]

theorem off_any {most : Nat} (h : DkIs most w own p d) :
    Calls Tryd.prog 25 #[.pointer (some ⟨p, 0, none⟩)] w (DkPost most own p d.off (.tuple #[]) w) := by
  obtain ⟨h0, m, v, h1⟩ := h
  have H := Lib.hid h1
  have H0 := Lib.hid h0
  obtain ⟨c0, c1, c2, c3, c4, c5⟩ := blk6 h1.1
  have f4 := h1.1.frozen 4
  have f5 := h1.1.frozen 5
  clear h1 h0
  go_enter Tryd.func25, Tryd.ntmps25
  go_wp2
  go_end0
  refine ⟨rfl, own, ⟨{ H0.out with fuse0 := Int.le_refl _, fuse1 := (by show (0 : Int) ≤ _; omega) }, m, v, ?_⟩, ((But.refl _ _).setCell _ _ (.inl H.out.2.2.2.1)).setCell _ _ (.inl H.out.2.2.2.1), Grows.refl _ _⟩
  refine H.out.turn (d' := d.off) rfl rfl ((H.out.1.set_ 4 _).set_ 5 _) (by simp [size_set]) (fun k _ hk => ?_)
  rw [set_other _ _ _ _ _ hk, set_other _ _ _ _ _ hk]

theorem room_any {most : Nat} (h : DkIs most w own p d) (n : Int) (hn : n ≤ 9223372036854775807) :
    Calls Tryd.prog 18 #[.pointer (some ⟨p, 0, none⟩), .int .i64 n] w (DkPost most own p (d.setRoom n) (.tuple #[]) w) := by
  obtain ⟨h0, m, v, h1⟩ := h
  have H := Lib.hid h1
  have H0 := Lib.hid h0
  have f1 := h1.1.frozen 1
  obtain ⟨c0, c1, c2, c3, c4, c5⟩ := blk6 h1.1
  clear h1 h0
  go_enter Tryd.func18, Tryd.ntmps18
  go_wp2
  all_goals go_end0
  all_goals refine ⟨rfl, own, ⟨{ H0.out with room0 := by simp only [DD.setRoom]; omega, room1 := by simp only [DD.setRoom]; omega }, m, v, ?_⟩, (But.refl _ _).setCell _ _ (.inl H.out.2.2.2.1), Grows.refl _ _⟩
  all_goals
    refine H.out.turn (d' := d.setRoom n) rfl rfl ?_ (by simp [size_set]) (fun k _ hk => set_other _ _ _ _ _ hk)
    simp only [DD.setRoom, DD.n]
    first
    | (rw [show max n 0 = 0 from by omega]; exact H.out.1.set_ 1 _)
    | (rw [show max n 0 = n from by omega]; exact H.out.1.set_ 1 _)

theorem arm_any {most : Nat} (h : DkIs most w own p d) (n : Int) (hn : n ≤ 9223372036854775807) :
    Calls Tryd.prog 13 #[.pointer (some ⟨p, 0, none⟩), .int .i64 n] w (DkPost most own p (d.arm n) (.tuple #[]) w) := by
  obtain ⟨h0, m, v, h1⟩ := h
  have H := Lib.hid h1
  have H0 := Lib.hid h0
  have f1 := h1.1.frozen 5
  obtain ⟨c0, c1, c2, c3, c4, c5⟩ := blk6 h1.1
  clear h1 h0
  go_enter Tryd.func13, Tryd.ntmps13
  go_wp2
  all_goals go_end0
  all_goals refine ⟨rfl, own, ⟨{ H0.out with fuse0 := by simp only [DD.arm]; omega, fuse1 := by simp only [DD.arm]; omega }, m, v, ?_⟩, (But.refl _ _).setCell _ _ (.inl H.out.2.2.2.1), Grows.refl _ _⟩
  all_goals
    refine H.out.turn (d' := d.arm n) rfl rfl ?_ (by simp [size_set]) (fun k _ hk => set_other _ _ _ _ _ hk)
    simp only [DD.arm, DD.n]
    first
    | (rw [show max n 0 = 0 from by omega]; exact H.out.1.set_ 5 _)
    | (rw [show max n 0 = n from by omega]; exact H.out.1.set_ 5 _)

theorem oper_any {most : Nat} (h : DkIs most w own p d) (hon : d.on = true) :
    Calls Tryd.prog 74 #[.pointer (some ⟨p, 0, none⟩)] w (DkPost most own p d.oper (.bool d.oper.on) w) := by
  have hd0 := Lib.hid h
  obtain ⟨h0, m, v, h1⟩ := h
  have H := Lib.hid h1
  have H0 := Lib.hid h0
  have f5 := h1.1.frozen 5
  obtain ⟨c0, c1, c2, c3, c4, c5⟩ := blk6 h1.1
  have b0 := h0.fuse0
  have b1 := h0.fuse1
  rw [hon] at c4
  clear h1 h0
  by_cases e1 : d.fuse = 1
  · have hop : d.oper = d.off := by unfold DD.oper; rw [if_pos e1]
    rw [hop]
    rw [e1] at c5
    have hd1 : DkIs most (w.setCell ⟨p, 5, none⟩ (.int .i64 0)) own p { d with fuse := 0 } :=
      ⟨{ H0.out with fuse0 := Int.le_refl _, fuse1 := (by show (0 : Int) ≤ _; omega) }, m, v, H.out.turn (d' := { d with fuse := 0 }) rfl rfl (H.out.1.set_ 5 _) (by simp [size_set]) (fun k _ hk => set_other _ _ _ _ _ hk)⟩
    have hoff := Lib.hid (off_any hd1)
    have E1 := Lib.hid e1
    clear e1 hop hd1 b0 b1
    go_enter Tryd.func74, Tryd.ntmps74
    go_wp2_with (go_at_call 25; refine hoff.out.mono ?_)
    rintro e w2 ⟨rfl, own', hd2, hb2, hg2⟩
    obtain ⟨_, m2, v2, h2⟩ := hd2
    have HD2 : Hid (DkIs most w2 own' p d.off) := ⟨by assumption, m2, v2, h2⟩
    obtain ⟨g0, g1, g2, g3, g4, g5⟩ := blk6 h2.1
    clear h2 hoff
    go_wp2
    go_ret
    exact ⟨rfl, own', HD2.out, ((But.refl own w).setCell _ _ (.inl H.out.2.2.2.1)).trans hb2 (fun i h => .inl h), fun k hk => by
      rcases hg2 k hk with h | h
      · exact .inl h
      · rw [size_set] at h; exact .inr h⟩
  · by_cases e2 : 1 < d.fuse
    · have hop : d.oper = { d with fuse := d.fuse - 1 } := by unfold DD.oper; rw [if_neg e1, if_pos e2]
      rw [hop]
      have e0 : 0 < d.fuse := by omega
      have e3 : ((d.fuse - 1 : Int) == 0) = false := by rw [beq_eq_false_iff_ne]; omega
      clear e1
      go_enter Tryd.func74, Tryd.ntmps74
      go_wp2
      go_ret
      refine ⟨(by rw [hon]; rfl), own, ⟨{ H0.out with fuse0 := by simp only; omega, fuse1 := by simp only; omega }, m, v, ?_⟩, (But.refl _ _).setCell _ _ (.inl H.out.2.2.2.1), Grows.refl _ _⟩
      refine H.out.turn (d' := { d with fuse := d.fuse - 1 }) rfl rfl ?_ (by simp [size_set]) (fun k _ hk => set_other _ _ _ _ _ hk)
      exact H.out.1.set_ 5 _
    · have hop : d.oper = d := by unfold DD.oper; rw [if_neg e1, if_neg e2]
      rw [hop]
      have e0 : d.fuse = 0 := by omega
      rw [e0] at c5
      clear e1 e2
      have E0 := Lib.hid e0
      clear e0 b0 b1
      go_enter Tryd.func74, Tryd.ntmps74
      go_wp2
      go_ret
      exact ⟨(by rw [hon]; rfl), own, hd0.out, But.refl _ _, Grows.refl _ _⟩

end
end Go.Proofs.YtjllpbckmioiiaaDoor.dk

/- What New and Read of package disk do. -/
namespace Go.Proofs.YtjllpbckmioiiaaDoor.dk
open Go Go.RowKit
set_option maxRecDepth 100000

def NewPost (most n : Nat) (room : Int) (w : World) (e : Ending) (w' : World) : Prop :=
  ∃ p own, e = .returned (.pointer (some ⟨p, 0, none⟩)) ∧ DkIs most w' own p (DD.new n room) ∧ Below w.heap.size w w' ∧ ∀ k, own k → w.heap.size ≤ k

def NonePost (w : World) (e : Ending) (w' : World) : Prop := e = .returned (.pointer none) ∧ w = w'

theorem new_some (most n : Nat) (room : Int) (h0 : 1 ≤ n) (h1 : n ≤ 1024) (r0 : 0 ≤ room) (r1 : room ≤ 9223372036854775807) (w : World) :
    Calls Tryd.prog 22 #[.int .i64 (n : Int), .int .i64 room] w (NewPost most n room w) := by
  have hmm := @run_makeMap Tryd.prog
  have i0 : ¬ (n : Int) < 1 := by omega
  have i1 : ¬ 1024 < (n : Int) := by omega
  have i2 : ¬ room < 0 := by omega
  go_enter Tryd.func22, Tryd.ntmps22
  go_wp2
  go_ret
  refine ⟨w.heap.size + 1, fun k => k = w.heap.size ∨ k = w.heap.size + 1, rfl, ⟨⟨?_, ?_, r0, r1, Int.le_refl _, by simp [DD.new], Nat.zero_le _, fun _ h => by simp [DD.new] at h, fun v h => ?_⟩, w.heap.size, .slice none 0 0, ?_⟩, ((Below.refl _ w).alloc (Nat.le_refl _) _).alloc (by simp) _, fun k h => by omega⟩
  · simpa [DD.n, DD.new] using h0
  · simpa [DD.n, DD.new] using h1
  · simp [DD.new] at h
  · refine ⟨?_, ?_, ⟨rfl, .inl ⟨rfl, rfl⟩⟩, .inr rfl, .inl rfl, fun k h => by simp [Value.ownBlock] at h, fun k h => by simp; omega⟩
    · have e : (DD.new n room).n = n := by simp [DD.n, DD.new]
      rw [e]
      exact heap_alloc2_new w _ _
    · exact (MapIs.made w n).of_block (Below.heap_alloc _ _ _ (by simp))

theorem new_none (n room : Int) (h : n < 1 ∨ 1024 < n ∨ room < 0) (w : World) :
    Calls Tryd.prog 22 #[.int .i64 n, .int .i64 room] w (NonePost w) := by
  by_cases h1 : n < 1
  · clear h
    go_enter Tryd.func22, Tryd.ntmps22
    go_wp2
    go_ret
    exact ⟨rfl, rfl⟩
  · by_cases h2 : 1024 < n
    · clear h
      go_enter Tryd.func22, Tryd.ntmps22
      go_wp2
      go_ret
      exact ⟨rfl, rfl⟩
    · have h3 : room < 0 := by omega
      clear h
      go_enter Tryd.func22, Tryd.ntmps22
      go_wp2
      go_ret
      exact ⟨rfl, rfl⟩

def ReadPost (r : Bt × Int) (w : World) (e : Ending) (w' : World) : Prop :=
  e = .returned (.tuple #[.string (str r.1), .int .i64 r.2]) ∧ Below w.heap.size w w'

theorem conv_block (P : Bt) (b k : Nat) (t : TypeId) (w : World) (hk : P.length = k) (h : w.heap[b]? = some (.cells (Lib.byteCells P).toArray t (0, 0))) :
    (convert 68 9 (.slice (some ⟨b, 0, none⟩) k k)).run Tryd.prog w = .ok (.string (str P)) w := by
  subst hk
  refine run_convert_bytes_back (P := Tryd.prog) w 68 9 5 ⟨b, 0, none⟩ P.length P Tryd.underlying68 Tryd.underlying5 Tryd.underlying9 ?_
  intro j hj
  rw [addr_add, Nat.zero_add, cell_of_row w b j _ _ _ h]
  simp [Lib.byteCells, hj]

section
variable {w : World} {p m : Nat} {v : Value} {d : DD} {own : Nat → Prop}

theorem read_off (h : DkAt w own p m v d) (hon : d.on = false) (k : Int) :
    Calls Tryd.prog 20 #[.pointer (some ⟨p, 0, none⟩), .int .i64 k] w (ReadPost ([], 6) w) := by
  obtain ⟨c0, c1, c2, c3, c4, c5⟩ := blk6 h.1
  rw [hon] at c4
  clear h c1 c2 c3 c0 c5
  go_enter Tryd.func20, Tryd.ntmps20
  go_wp2
  go_ret2
  exact ⟨rfl, Below.refl _ _⟩

theorem read_not (h : DkAt w own p m v d) (hon : d.on = true) (k : Int) (hh : d.has k = false) :
    Calls Tryd.prog 20 #[.pointer (some ⟨p, 0, none⟩), .int .i64 k] w (ReadPost ([], 2) w) := by
  have hhas := has_any h k
  rw [hh] at hhas
  have HH := Lib.hid hhas
  obtain ⟨c0, c1, c2, c3, c4, c5⟩ := blk6 h.1
  rw [hon] at c4
  clear h c1 c2 c3 c0 c5 hhas hon hh
  go_enter Tryd.func20, Tryd.ntmps20
  go_wp2_with (go_at_call 42; refine HH.out.mono ?_; rintro e w' ⟨rfl, rfl⟩)
  go_ret2
  exact ⟨rfl, Below.refl _ _⟩

theorem read_is {most : Nat} (h0 : d.ok most) (h : DkAt w own p m v d) (hon : d.on = true) (k : Int) (hh : d.has k = true) :
    Calls Tryd.prog 20 #[.pointer (some ⟨p, 0, none⟩), .int .i64 k] w (ReadPost ((look d.now k).getD zz, 0) w) := by
  have hhas := has_any h k
  rw [hh] at hhas
  have HH := Lib.hid hhas
  have HM := Lib.hid h.2.1
  obtain ⟨c0, c1, c2, c3, c4, c5⟩ := blk6 h.1
  rw [hon] at c4
  have hk0 : 0 ≤ k ∧ k < (d.n : Int) := by simpa [DD.has] using hh
  have hn1 := h0.n1
  have hlen : ((look d.now k).getD zz).length = 32 := by
    cases hx : look d.now k with
    | none => exact zz_length
    | some u => exact h0.look1 hx
  generalize hq : (look d.now k).getD zz = q at *
  have HQ := Lib.hid hq
  have HK := Lib.hid hk0
  have HN := Lib.hid hn1
  have hconv := conv_block q w.heap.size 32 77 (w.alloc (.cells (Lib.byteCells q).toArray 77)) hlen (heap_alloc_new w _)
  have hlen2 : (Lib.byteCells q).toArray.size = 32 := by simp [Lib.byteCells, hlen]
  have HL := Lib.hid hlen2
  have HC := Lib.hid hconv
  clear h c1 c3 c0 c5 hhas hon hh hq hk0 hn1 hlen hconv hlen2 h0
  go_enter Tryd.func20, Tryd.ntmps20
  go_wp2_with (first | (go_at_call 42; refine HH.out.mono ?_; rintro e w' ⟨rfl, rfl⟩) | (at_lookup; refine wpList_value rfl (exec_look _ _ rfl rfl HM.out k rfl (by have := HK.out; omega) (by have := HK.out; have := HN.out; omega)) ?_; rw [HQ.out]) | (refine wpList_skip rfl (exec_store_new w 77 _ _ (.tmp 6) (.tmp 26) rfl rfl rfl (by rw [HL.out]; exact info67) (by rw [HL.out]; rfl) (bytes_all q)) ?_; have hconv := HC.out))
  go_ret2
  exact ⟨rfl, (Below.refl _ _).alloc (Nat.le_refl _) _⟩
end
end Go.Proofs.YtjllpbckmioiiaaDoor.dk

