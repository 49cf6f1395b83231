/- DkFits, DkLose, Info, DkRow. -/
import Derived.Test.YtjllpbckmioiiaaDoorQ1
import Derived.Test.YtjllpbckmioiiaaDoorQ2
import Derived.Deep.QuietTactic
import Derived.BigQuiet
import Derived.StillTailTactics
import Derived.Test.YtjllpbckmioiiaaDoorProg
import Derived.WalkKit
import Derived.Laws.CopyRow
/- What Fits of package disk does: the closure that tells, and its maker. -/
namespace Go.Proofs.YtjllpbckmioiiaaDoor.dk
open Go Go.RowKit
set_option maxRecDepth 100000

/-- Block a is the map of what was asked. -/
def SetIs (w : World) (a : Nat) (acc : List Int) : Prop :=
  ∃ D : D1, w.ownsMap Tryd.prog 3 unitElem a (Maps.size D) D ∧ (∀ k : Int, Maps.has D (.int .i64 k) = acc.contains k) ∧ Maps.size D = acc.length

def addTo (acc : List Int) (x : Int) : List Int := if acc.contains x then acc else acc ++ [x]

theorem SetIs.lt {w : World} {a : Nat} {acc : List Int} (h : SetIs w a acc) : a < w.heap.size := by
  obtain ⟨D, h1, _⟩ := h
  exact h1.lt
theorem SetIs.of_block {w w' : World} {m : Nat} {s : List Int} (h : SetIs w m s) (hb : w'.heap[m]? = w.heap[m]?) : SetIs w' m s := by
  obtain ⟨D, ⟨es, clock, h1, h2⟩, h3⟩ := h
  exact ⟨D, ⟨es, clock, hb.trans h1, h2⟩, h3⟩
theorem SetIs.made (w : World) : SetIs (w.alloc (.map #[] 0)) w.heap.size [] :=
  ⟨.map [], World.ownsMap_made w Tryd.prog 3 unitElem, fun _ => rfl, rfl⟩

theorem SetIs.len {w : World} {a : Nat} {acc : List Int} (h : SetIs w a acc) (ty : TypeId) : (Builtin.len_ #[88] ty #[.map (some a)]).run Tryd.prog w = .ok (.int .i64 (acc.length : Int)) w := by
  obtain ⟨D, hown, _, hc⟩ := h
  rw [← hc]
  exact hown.len Tryd.underlying88 ty

theorem SetIs.store {w : World} {a : Nat} {acc : List Int} (h : SetIs w a acc) (k : Int) (k0 : -9223372036854775808 ≤ k) (k1 : k ≤ 9223372036854775807) (hl : acc.length < maxLen) :
    ∃ w', (Instr.mapUpdate 88 (.map (some a)) (.int .i64 k) (.agg #[])).run Tryd.prog w = .ok () w' ∧ SetIs w' a (addTo acc k) ∧ w.mapTurned w' a := by
  obtain ⟨D, hown, hh, hc⟩ := h
  have hkey := Go.Maps.keyOf_int_mk (P := Tryd.prog) (k := 3) Tryd.underlying3 (wf64 k k0 k1)
  have hti := hown.tidy keyed
  obtain ⟨w', hrun, r1, r2⟩ := hown.store keyed Tryd.underlying88 (by omega) hkey unitElem_mk
  refine ⟨w', hrun, ⟨_, own_tight r1, ?_, ?_⟩, r2⟩
  · intro j
    by_cases e : j = k
    · subst e
      rw [Maps.has_put_same hti.isMap (keyLit _)]
      unfold addTo
      split
      · exact (by assumption : acc.contains j = true).symm
      · simp
    · rw [Maps.has_put_other (key_ne e), hh]
      unfold addTo
      split
      · rfl
      · simp [e]
  · rw [Maps.size_put hti, hh, hc]
    unfold addTo
    split <;> simp

theorem exec_len_set {ρ : Operand → Value} {o : Oper} {w : World} {b : Nat} {s : List Int} (x : Operand) (ho : o.op = .call { callee := .builtin .len, args := #[x], argTypes := #[88] }) (hx : ρ x = .map (some b)) (h : SetIs w b s) :
    (execOp ρ o).run Tryd.prog w = .ok (.value (.int .i64 (s.length : Int))) w := by
  simp [execOp, ho, resolve, invoke, builtin, hx, h.len o.type, Result.andThen]

theorem wpList_store_set {ops : Array Oper} {rest : List Oper} {o : Oper} {a : Act} {w : World} {Q : Exit → Act → World → Prop} {b : Nat} {s : List Int} (hg : o.guard = none) (x y z : Operand) (ho : o.op = .mapUpdate 88 x y z) (hx : a.eval x = .map (some b)) (h : SetIs w b s)
    (k : Int) (hy : a.eval y = .int .i64 k) (hz : a.eval z = .agg #[]) (k0 : -9223372036854775808 ≤ k) (k1 : k ≤ 9223372036854775807) (hl : s.length < maxLen)
    (hK : ∀ w', SetIs w' b (addTo s k) → w.mapTurned w' b → wpList Tryd.prog ops Q rest (a.put o.dst undef) w') : wpList Tryd.prog ops Q (o :: rest) a w := by
  refine wpList_plain hg fun K' hK' => ?_
  obtain ⟨w', hrun, r1, r2⟩ := h.store k k0 k1 hl
  unfold Oper.wp
  simp [execOp, ho, hx, hy, hz, hrun, Result.andThen]
  exact hK' _ _ (hK w' r1 r2)

/-- What the closure has captured. -/
structure Env (w : World) (p B1 B4 B3 a : Nat) (free : Int) (acc : List Int) : Prop where
  b1 : Blk w B1 28 #[.pointer (some ⟨p, 0, none⟩)]
  b4 : Blk w B4 88 #[.map (some a)]
  b3 : Blk w B3 3 #[.int .i64 free]
  set_ : SetIs w a acc

def ask (d : DD) (acc : List Int) (x : Int) : Bool × List Int :=
  if d.has x = false then (false, acc)
  else if (look d.now x).isSome then (true, acc)
  else (decide (((addTo acc x).length : Int) ≤ d.room - (d.used : Int)), addTo acc x)

def AskPost (r : Bool × List Int) (a : Nat) (w : World) (e : Ending) (w' : World) : Prop :=
  e = .returned (.bool r.1) ∧ SetIs w' a r.2 ∧ But (fun k => k = a) w w'

section
variable {w : World} {p m : Nat} {v : Value} {d : DD} {own : Nat → Prop} {B1 B4 B3 a : Nat} {acc : List Int}

theorem ask_not (h : DkAt w own p m v d) (he : Env w p B1 B4 B3 a (d.room - (d.used : Int)) acc) (x : Int) (hh : d.has x = false) :
    Calls Tryd.prog 73 #[.int .i64 x, .pointer (some ⟨B1, 0, none⟩), .pointer (some ⟨B4, 0, none⟩), .pointer (some ⟨B3, 0, none⟩)] w (AskPost (false, acc) a w) := by
  have hhas := has_any h x
  rw [hh] at hhas
  have HH := Lib.hid hhas
  have HE := Lib.hid he
  have g1 : w.cell? ⟨B1, 0, none⟩ = some (.pointer (some ⟨p, 0, none⟩)) := he.b1.cell 0
  clear h he hhas hh
  go_enter Tryd.func73, Tryd.ntmps73
  go_wp2_with (go_at_call 42; refine HH.out.mono ?_; rintro e w' ⟨rfl, rfl⟩)
  go_ret
  exact ⟨rfl, HE.out.set_, But.refl _ _⟩

theorem ask_old {most : Nat} (h0 : d.ok most) (h : DkAt w own p m v d) (he : Env w p B1 B4 B3 a (d.room - (d.used : Int)) acc) (x : Int) (hh : d.has x = true) (hs : (look d.now x).isSome = true) :
    Calls Tryd.prog 73 #[.int .i64 x, .pointer (some ⟨B1, 0, none⟩), .pointer (some ⟨B4, 0, none⟩), .pointer (some ⟨B3, 0, none⟩)] w (AskPost (true, acc) a w) := by
  have hhas := has_any h x
  rw [hh] at hhas
  have HH := Lib.hid hhas
  have HE := Lib.hid he
  have HM := Lib.hid h.2.1
  have g1 : w.cell? ⟨B1, 0, none⟩ = some (.pointer (some ⟨p, 0, none⟩)) := he.b1.cell 0
  have c2 := (blk6 h.1).2.2.1
  have hk0 : 0 ≤ x ∧ x < (d.n : Int) := by simpa [DD.has] using hh
  have HK := Lib.hid hk0
  have HN := Lib.hid h0.n1
  have hlen : (Lib.byteCells ((look d.now x).getD zz)).toArray.size = 32 := by
    simp only [List.size_toArray, Lib.byteCells_length]
    cases hx : look d.now x with
    | none => exact zz_length
    | some u => exact h0.look1 hx
  have HL := Lib.hid hlen
  have HS := Lib.hid hs
  have hal := fun c => SetIs.of_block he.set_ (Below.heap_alloc w (.cells c 77) a he.set_.lt)
  have HA := Lib.hid hal
  clear h he hhas hh hk0 hlen hs hal h0
  go_enter Tryd.func73, Tryd.ntmps73
  go_wp2_with (first | (go_at_call 42; refine HH.out.mono ?_; rintro e w' ⟨rfl, rfl⟩) | (at_lookup; refine wpList_value rfl (exec_look_ok _ _ rfl rfl HM.out x rfl (by have := HK.out; omega) (by have := HK.out; have := HN.out; omega)) ?_; rw [HS.out]) | (refine wpList_skip rfl (exec_store_new w 77 _ _ (.tmp 6) (.tmp 19) rfl rfl rfl (by rw [HL.out]; exact info67) (by rw [HL.out]; rfl) (bytes_all _)) ?_))
  go_ret
  exact ⟨rfl, HA.out _, (But.refl _ _).alloc _⟩

theorem ask_new {most : Nat} (h0 : d.ok most) (h : DkAt w own p m v d) (he : Env w p B1 B4 B3 a (d.room - (d.used : Int)) acc) (x : Int) (hh : d.has x = true) (hs : (look d.now x).isSome = false) (hl : acc.length < maxLen) :
    Calls Tryd.prog 73 #[.int .i64 x, .pointer (some ⟨B1, 0, none⟩), .pointer (some ⟨B4, 0, none⟩), .pointer (some ⟨B3, 0, none⟩)] w (AskPost (decide (((addTo acc x).length : Int) ≤ d.room - (d.used : Int)), addTo acc x) a w) := by
  have hhas := has_any h x
  rw [hh] at hhas
  have HH := Lib.hid hhas
  have HE := Lib.hid he
  have HM := Lib.hid h.2.1
  have g1 : w.cell? ⟨B1, 0, none⟩ = some (.pointer (some ⟨p, 0, none⟩)) := he.b1.cell 0
  have g4 : w.cell? ⟨B4, 0, none⟩ = some (.map (some a)) := he.b4.cell 0
  have g3 : w.cell? ⟨B3, 0, none⟩ = some (.int .i64 (d.room - (d.used : Int))) := he.b3.cell 0
  have l4 := he.b4.lt
  have l3 := he.b3.lt
  have c2 := (blk6 h.1).2.2.1
  have hk0 : 0 ≤ x ∧ x < (d.n : Int) := by simpa [DD.has] using hh
  have HK := Lib.hid hk0
  have HN := Lib.hid h0.n1
  have hlen : (Lib.byteCells ((look d.now x).getD zz)).toArray.size = 32 := by
    simp only [List.size_toArray, Lib.byteCells_length]
    cases hx : look d.now x with
    | none => exact zz_length
    | some u => exact h0.look1 hx
  have HL := Lib.hid hlen
  have HS := Lib.hid hs
  have hal := fun c => SetIs.of_block he.set_ (Below.heap_alloc w (.cells c 77) a he.set_.lt)
  have HA := Lib.hid hal
  have HLl := Lib.hid hl
  have n43 : B4 ≠ a := by
    rintro rfl
    obtain ⟨D, ⟨es, clock, q, _⟩, _⟩ := he.set_
    have := he.b4
    unfold Blk at this
    rw [q] at this
    cases this
  have n33 : B3 ≠ a := by
    rintro rfl
    obtain ⟨D, ⟨es, clock, q, _⟩, _⟩ := he.set_
    have := he.b3
    unfold Blk at this
    rw [q] at this
    cases this
  clear h he hhas hh hk0 hlen hs hal h0 hl
  generalize hfree : d.room - (d.used : Int) = free at *
  clear hfree
  go_enter Tryd.func73, Tryd.ntmps73
  go_wp2_with (first | (go_at_call 42; refine HH.out.mono ?_; rintro e w' ⟨rfl, rfl⟩) | (at_lookup; refine wpList_value rfl (exec_look_ok _ _ rfl rfl HM.out x rfl (by have := HK.out; omega) (by have := HK.out; have := HN.out; omega)) ?_; rw [HS.out]) | (refine wpList_skip rfl (exec_store_new w 77 _ _ (.tmp 6) (.tmp 19) rfl rfl rfl (by rw [HL.out]; exact info67) (by rw [HL.out]; rfl) (bytes_all _)) ?_) | (at_mapUpdate; refine wpList_store_set rfl _ _ _ rfl rfl (HA.out _) x rfl rfl (by have := HK.out; omega) (by have := HK.out; have := HN.out; omega) HLl.out ?_; intro w2 hs2 ht2; have HS2 := Lib.hid hs2; have HB2 := Lib.hid (((But.refl (fun k => k = a) w).alloc _).trans (turned_but ht2) (fun _ h => .inl h)); have q4 := ((turned_but ht2).block B4 (by simp; omega) n43).trans (Below.heap_alloc w _ B4 l4); have q3 := ((turned_but ht2).block B3 (by simp; omega) n33).trans (Below.heap_alloc w _ B3 l3); have k4 := (World.cell?_of_block (a := ⟨B4, 0, none⟩) q4).trans g4; have k3 := (World.cell?_of_block (a := ⟨B3, 0, none⟩) q3).trans g3; clear hs2 ht2 q4 q3) | (at_len; refine wpList_value rfl (exec_len_set _ rfl rfl HS2.out) ?_))
  go_ret
  exact ⟨rfl, HS2.out, HB2.out⟩
end
end Go.Proofs.YtjllpbckmioiiaaDoor.dk

/- What lose of package disk does. -/
namespace Go.Proofs.YtjllpbckmioiiaaDoor.dk
open Go Go.RowKit
set_option maxRecDepth 100000

/-- What a write's row of cells is good for. -/
structure RowOf (cs : Array Value) (x : Nat × Bt × Bt × Bool) : Prop where
  size : cs.size = 66
  at_ : cs[0]? = some (.int .i64 (x.1 : Int))
  data : ∀ j u, (Lib.byteCells x.2.1)[j]? = some u → cs[1 + j]? = some u
  before : ∀ j u, (Lib.byteCells x.2.2.1)[j]? = some u → cs[33 + j]? = some u
  written : cs[65]? = some (.bool x.2.2.2)

theorem rowOf (x : Nat × Bt × Bt × Bool) (h1 : x.2.1.length = 32) (h2 : x.2.2.1.length = 32) : RowOf (wrCells x).toArray x := by
  have e1 : (Lib.byteCells x.2.1).length = 32 := by rw [Lib.byteCells_length, h1]
  have e2 : (Lib.byteCells x.2.2.1).length = 32 := by rw [Lib.byteCells_length, h2]
  refine ⟨by simp [wrCells, e1, e2], rfl, ?_, ?_, ?_⟩
  · intro j u hu
    have hj : j < 32 := by rw [← e1]; exact (List.getElem?_eq_some_iff.1 hu).1
    simp only [List.getElem?_toArray, wrCells, Nat.add_comm 1 j, List.getElem?_cons_succ]
    rw [List.getElem?_append_left (by omega)]
    exact hu
  · intro j u hu
    have hj : j < 32 := by rw [← e2]; exact (List.getElem?_eq_some_iff.1 hu).1
    simp only [List.getElem?_toArray, wrCells, show 33 + j = (32 + j) + 1 by omega, List.getElem?_cons_succ]
    rw [List.getElem?_append_right (by omega), e1, List.getElem?_append_left (by omega), show 32 + j - 32 = j by omega]
    exact hu
  · simp only [List.getElem?_toArray, wrCells, show 65 = 64 + 1 from rfl, List.getElem?_cons_succ]
    rw [List.getElem?_append_right (by omega), e1, List.getElem?_append_right (by omega), e2]
    rfl

section
variable {w : World} {p m : Nat}

theorem lose_any (hp : p < w.heap.size) (hc : w.cell? ⟨p, 2, none⟩ = some (.map (some m))) {s : Sects} (hm : MapIs w m s) (x : Nat × Bt × Bt × Bool) (cs : Array Value) (hr : RowOf cs x) (hx : x.1 < s.length) (hs : s.length ≤ 1024) (hl : x.2.2.1.length = 32) :
    Calls Tryd.prog 40 #[.pointer (some ⟨p, 0, none⟩), .agg cs] w fun e w' => e = .returned (.tuple #[]) ∧ MapIs w' m (undo s x) ∧ But (fun k => k = m) w w' := by
  obtain ⟨k, dat, bef, wr⟩ := x
  obtain ⟨h66, hat, hdat, hbef, hwr⟩ := hr
  simp only at hat hdat hbef hwr hx hl
  have HR := Lib.hid hbef
  have HM := Lib.hid hm
  have HS := Lib.hid hs
  have HL := Lib.hid hl
  have H66 := Lib.hid h66
  clear hbef hdat hm hs hl h66
  cases wr with
  | true =>
    go_enter Tryd.func40, Tryd.ntmps40
    go_wp2
    refine wp_region_still_w 8 (by kernel_rfl) (by kernel_rfl) ?_
    simp only [List.take_succ_cons, List.take_zero, List.drop_succ_cons, List.drop_zero]
    iterate 7 still_step
    refine still_value rfl (exec_load_part _ _ rfl w.heap.size 33 rfl _ cs (Lib.byteCells bef) _ _ (heap_alloc_new w _) Tryd.underlying77 rfl (by rw [info67, Lib.byteCells_length, HL.out]) HR.out) ?_
    refine wpStill_nil ?_
    refine wpList_store_dk rfl _ _ _ rfl rfl (HM.out.of_block (Below.heap_alloc w _ _ HM.out.lt)) k rfl bef rfl hx HS.out ?_
    intro w' hm' ht
    go_wp2
    go_end0
    exact ⟨rfl, hm', ((But.refl _ w).alloc _).drew.trans (turned_but ht) (fun _ h => .inl h)⟩
  | false =>
    go_enter Tryd.func40, Tryd.ntmps40
    go_wp2
    refine wp_region_still_w 6 (by kernel_rfl) (by kernel_rfl) ?_
    simp only [List.take_succ_cons, List.take_zero, List.drop_succ_cons, List.drop_zero]
    iterate 6 still_step
    refine wpStill_nil ?_
    refine wpList_drop_dk rfl _ _ rfl rfl (HM.out.of_block (Below.heap_alloc w _ _ HM.out.lt)) k rfl hx HS.out ?_
    intro w' hm' ht
    go_wp2
    go_end0
    exact ⟨rfl, hm', ((But.refl _ w).alloc _).drew.trans (turned_but ht) (fun _ h => .inl h)⟩
end
end Go.Proofs.YtjllpbckmioiiaaDoor.dk

/- Rows of the table of types that walks on slices ask. -/
namespace Go.Proofs.YtjllpbckmioiiaaDoor
open Go.RowKit
set_option maxRecDepth 100000

theorem Tryd.info9 : (Tryd.prog.info? 9).map (fun i => (i.zero, i.size, i.bytes)) = some (some (.string ByteArray.empty), 1, 16) := by kernel_rfl
theorem Tryd.info5 : (Tryd.prog.info? 5).map (fun i => (i.zero, i.size, i.bytes)) = some (some (.int .u8 0), 1, 1) := by kernel_rfl

end Go.Proofs.YtjllpbckmioiiaaDoor

/- A write's row of 66 cells: made, its parts set, read whole. -/
namespace Go.Proofs.YtjllpbckmioiiaaDoor.dk
open Go Go.RowKit
set_option maxRecDepth 100000

theorem info70z : (Tryd.prog.info? 80).map (fun i => (i.zero, i.size)) = some (some (.agg (wrCells (0, zz, zz, false)).toArray), 66) := by kernel_rfl
theorem info70 : (Tryd.prog.info? 80).map (fun i => (i.zero, i.size, i.bytes)) = some (some (.agg (wrCells (0, zz, zz, false)).toArray), 66, 80) := by kernel_rfl
theorem size70 : (Tryd.prog.info? 80).map (·.size) = some 66 := by kernel_rfl

theorem wrCells_len (x : Nat × Bt × Bt × Bool) (h1 : x.2.1.length = 32) (h2 : x.2.2.1.length = 32) : (wrCells x).length = 66 := by
  simp [wrCells, Lib.byteCells, h1, h2]

theorem wrCells_one (x : Nat × Bt × Bt × Bool) : ∀ u ∈ wrCells x, u.oneCell' = true := by
  intro u hu
  simp only [wrCells, List.mem_cons, List.mem_append, List.not_mem_nil, or_false] at hu
  rcases hu with rfl | hu | hu | rfl
  · rfl
  · exact Lib.byteCells_one _ u hu
  · exact Lib.byteCells_one _ u hu
  · rfl

theorem wr_all (x : Nat × Bt × Bt × Bool) : (wrCells x).toArray.all (·.oneCell') = true := by
  rw [Array.all_eq_true']
  intro u hu
  exact wrCells_one x u (by simpa using hu)

theorem exec_alloc70 {ρ : Operand → Value} {o : Oper} {w : World} (ho : o.op = .alloc 80) :
    (execOp ρ o).run Tryd.prog w = .ok (.value (.pointer (some ⟨w.heap.size, 0, none⟩))) (w.alloc (.cells (wrCells (0, zz, zz, false)).toArray 80)) := by
  obtain ⟨hz, _⟩ := zero_of_info info70z
  simp [execOp, ho, Instr.alloc, hz, Result.andThen, go_sem, Value.cells]

theorem exec_build70 {ρ : Operand → Value} {o : Oper} {w : World} (x : Operand) (k : Nat) (ho : o.op = .build 80 #[(0, x)]) (hx : ρ x = .int .i64 (k : Int)) :
    (execOp ρ o).run Tryd.prog w = .ok (.value (.agg (wrCells (k, zz, zz, false)).toArray)) w := by
  obtain ⟨hz, _⟩ := zero_of_info info70z
  have hb : (Instr.build 80 #[(0, .int .i64 (k : Int))]).run Tryd.prog w = .ok (.agg (wrCells (k, zz, zz, false)).toArray) w := by
    have e : (wrCells (k, zz, zz, false)).toArray = (wrCells (0, zz, zz, false)).toArray.set! 0 (.int .i64 (k : Int)) := rfl
    rw [e]
    have hne : (wrCells (0, zz, zz, false)).toArray ≠ #[] := by simp [wrCells]
    generalize (wrCells (0, zz, zz, false)).toArray = z0 at *
    simp [Instr.build, hz, Result.andThen, go_sem, Value.cells]
    rw [if_neg hne]
    rfl
  simp [execOp, ho, hx, hb, Result.andThen]

theorem run_storeVar_part {P : Program} (w : World) (g o : Nat) (t ty : TypeId) (cur : Array Value) (xs : List Value) (hg : w.heap[g]? = some (.cells cur t (0, 0))) (hi : (P.info? ty).map (·.size) = some xs.length) (hl : o + xs.length ≤ cur.size) (h1 : ∀ v ∈ xs, v.oneCell' = true) :
    (storeVar ty ⟨g, o, none⟩ (.agg xs.toArray)).run P w = .ok () (w.setRow g (cur.toList.take o ++ xs ++ cur.toList.drop (o + xs.length)).toArray) := by
  have := run_storeCells_at P g o t xs 0 cur w hg (by simpa using hl) h1
  cases hq : P.info? ty with
  | none => simp [hq] at hi
  | some i =>
    have hs : i.size = xs.length := by simpa [hq] using hi
    simp only [Nat.add_zero] at this
    simp [storeVar, sizeOf, typeInfo, hq, Value.cells, hs, this]

theorem set_data (k : Nat) (v b : Bt) (f : Bool) (u : Bt) (h : u.length = 32) (hv : v.length = 32) :
    (wrCells (k, u, b, f)).take 1 ++ Lib.byteCells v ++ (wrCells (k, u, b, f)).drop (1 + 32) = wrCells (k, v, b, f) := by
  have e1 : (Lib.byteCells u).length = 32 := by rw [Lib.byteCells_length, h]
  have e2 : (Lib.byteCells v).length = 32 := by rw [Lib.byteCells_length, hv]
  simp only [wrCells, List.take_succ_cons, List.take_zero, show 1 + 32 = 32 + 1 from rfl, List.drop_succ_cons]
  rw [List.drop_left' e1]
  simp

theorem set_before (k : Nat) (v b : Bt) (f : Bool) (u : Bt) (hv : v.length = 32) (h : u.length = 32) (hb : b.length = 32) :
    (wrCells (k, v, u, f)).take 33 ++ Lib.byteCells b ++ (wrCells (k, v, u, f)).drop (33 + 32) = wrCells (k, v, b, f) := by
  have e1 : (Lib.byteCells u).length = 32 := by rw [Lib.byteCells_length, h]
  have e2 : (Lib.byteCells v).length = 32 := by rw [Lib.byteCells_length, hv]
  simp only [wrCells, show 33 = 32 + 1 from rfl, List.take_succ_cons, show 32 + 1 + 32 = (32 + 32) + 1 from rfl, List.drop_succ_cons]
  rw [List.take_left' e2, List.drop_append, e2, List.drop_eq_nil_of_le (by omega), show 32 + 32 - 32 = 32 from rfl, List.drop_left' e1]
  simp

theorem set_written (k : Nat) (v b : Bt) (f g : Bool) (hv : v.length = 32) (hb : b.length = 32) : (wrCells (k, v, b, f)).toArray.setIfInBounds 65 (.bool g) = (wrCells (k, v, b, g)).toArray := by
  have e1 : (Lib.byteCells v).length = 32 := by rw [Lib.byteCells_length, hv]
  have e2 : (Lib.byteCells b).length = 32 := by rw [Lib.byteCells_length, hb]
  simp only [List.setIfInBounds_toArray, wrCells, show 65 = 64 + 1 from rfl, List.set_cons_succ]
  rw [List.set_append_right _ _ (by omega), e1, List.set_append_right _ _ (by omega), e2]
  rfl

/-- 'copy(w.data[:], data)'. -/
theorem exec_copy70 {ρ : Operand → Value} {o : Oper} (w : World) (x y : Operand) (k : Nat) (s : ByteArray) (ho : o.op = .call { callee := .builtin .copy, args := #[x, y], argTypes := #[68, 9] })
    (hx : ρ x = .slice (some ⟨w.heap.size, 1, none⟩) 32 32) (hy : ρ y = .string s) (hs : s.size = 32) :
    (execOp ρ o).run Tryd.prog (w.alloc (.cells (wrCells (k, zz, zz, false)).toArray 80)) = .ok (.value (.int .i64 32)) (w.alloc (.cells (wrCells (k, bl s, zz, false)).toArray 80)) := by
  obtain ⟨i0, hi, hz0, hz1, hz2⟩ := info_parts Tryd.info5
  have hl : (bl s).length = 32 := by rw [bl_len, hs]
  have hst := run_storeCells_at Tryd.prog w.heap.size 1 80 (Lib.byteCells (bl s)) 0 (wrCells (k, zz, zz, false)).toArray (w.alloc (.cells (wrCells (k, zz, zz, false)).toArray 80)) (heap_alloc_new w _) (by simp [wrCells_len, Lib.byteCells_length, hl, zz_length]) (Lib.byteCells_one _)
  rw [World.setRow_alloc_new, Lib.byteCells_length, hl] at hst
  simp only [Nat.add_zero] at hst
  rw [set_data k (bl s) zz false zz zz_length hl] at hst
  have htk : List.take 32 (List.map (fun b : UInt8 => Value.int IntKind.u8 (b.toNat : Int)) s.data.toList) = Lib.byteCells (bl s) := by
    rw [List.take_of_length_le]
    · rfl
    · simp only [List.length_map]
      have : s.data.toList.length = 32 := hl
      omega
  have hc : (Builtin.copy_ #[68, 9] o.type #[.slice (some ⟨w.heap.size, 1, none⟩) 32 32, .string s]).run Tryd.prog (w.alloc (.cells (wrCells (k, zz, zz, false)).toArray 80)) = .ok (.int .i64 32) (w.alloc (.cells (wrCells (k, bl s, zz, false)).toArray 80)) := by
    simp [Builtin.copy_, run_underlying Tryd.underlying68, Builtin.lenOf, Builtin.firstCells, sizeOf, typeInfo, hi, hs]
    rw [htk, hst]
    simp [Result.andThen]
    rfl
  simp [execOp, ho, resolve, invoke, builtin, hx, hy, hc, Result.andThen]

/-- 'w.before = ..'. -/
theorem exec_store_before {ρ : Operand → Value} {o : Oper} (w : World) (x y : Operand) (k : Nat) (v b : Bt) (f : Bool) (ho : o.op = .store 77 x y) (hx : ρ x = .pointer (some ⟨w.heap.size, 33, none⟩)) (hy : ρ y = cVal b) (hv : v.length = 32) (hb : b.length = 32) :
    (execOp ρ o).run Tryd.prog (w.alloc (.cells (wrCells (k, v, zz, f)).toArray 80)) = .ok .skip (w.alloc (.cells (wrCells (k, v, b, f)).toArray 80)) := by
  have e2 : (Lib.byteCells b).length = 32 := by rw [Lib.byteCells_length, hb]
  have hr := run_storeVar_part (P := Tryd.prog) (w.alloc (.cells (wrCells (k, v, zz, f)).toArray 80)) w.heap.size 33 80 77 (wrCells (k, v, zz, f)).toArray (Lib.byteCells b) (heap_alloc_new w _) (by rw [info67, e2]) (by simp [wrCells_len, hv, zz_length, e2]) (Lib.byteCells_one _)
  rw [World.setRow_alloc_new, e2] at hr
  simp only at hr
  rw [set_before k v b f zz hv zz_length hb] at hr
  have h2 : (Instr.storeAt 77 (.pointer (some ⟨w.heap.size, 33, none⟩)) (cVal b)).run Tryd.prog (w.alloc (.cells (wrCells (k, v, zz, f)).toArray 80)) = .ok () (w.alloc (.cells (wrCells (k, v, b, f)).toArray 80)) := by
    simp only [Instr.storeAt, Instr.sureAddr, Sem.run_bind, Sem.run_pure, Result.andThen]
    exact hr
  simp [execOp, ho, hx, hy, h2, Result.andThen]

/-- 'w.written = ..'. -/
theorem exec_store_written {ρ : Operand → Value} {o : Oper} (w : World) (x y : Operand) (k : Nat) (v b : Bt) (f : Bool) (ho : o.op = .store 4 x y) (hx : ρ x = .pointer (some ⟨w.heap.size, 65, none⟩)) (hy : ρ y = .bool f) (hv : v.length = 32) (hb : b.length = 32) :
    (execOp ρ o).run Tryd.prog (w.alloc (.cells (wrCells (k, v, b, false)).toArray 80)) = .ok .skip (w.alloc (.cells (wrCells (k, v, b, f)).toArray 80)) := by
  have hB : Blk (w.alloc (.cells (wrCells (k, v, b, false)).toArray 80)) w.heap.size 80 (wrCells (k, v, b, false)).toArray := Blk.new _ _ _
  have hc : (w.alloc (.cells (wrCells (k, v, b, false)).toArray 80)).cell? ⟨w.heap.size, 65, none⟩ = some (.bool false) := by
    rw [hB.cell 65]
    exact (rowOf (k, v, b, false) hv hb).written
  have hf := hB.frozen 65
  have hW : (w.alloc (.cells (wrCells (k, v, b, false)).toArray 80)).setCell ⟨w.heap.size, 65, none⟩ (.bool f) = w.alloc (.cells (wrCells (k, v, b, f)).toArray 80) := by
    rw [setCell_eq_setRow _ _ _ _ _ _ _ (heap_alloc_new w _), World.setRow_alloc_new, set_written k v b false f hv hb]
  unfold execOp
  rw [ho]
  simp only [hx, hy]
  rw [← hW]
  generalize w.alloc (.cells (wrCells (k, v, b, false)).toArray 80) = W at *
  go_simp

end Go.Proofs.YtjllpbckmioiiaaDoor.dk

