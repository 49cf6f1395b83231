/- ICells, StillW, Dat, Lists, MtMem, MtEq, WiRefR0, WiRefN, WiRefG, WiRefQ. -/
import Derived.Test.YtklmgdiaianlbaaQ0
import Derived.Test.YtklmgdiaianlbaaQ1
import Derived.Test.YtklmgdiaianlbaaQ2
import Derived.StillTailTactics
import Derived.BigCall
import Derived.WalkKit
import Derived.LoopTactic
import Derived.WalkSpells
import Derived.WalkLawsBesides
import Derived.Deep.WholeRow
import Derived.Deep.AppendSrc
import Derived.Carry
import Derived.Laws.StructEq
import Derived.Laws.Cover2
import Derived.KernelRfl
import Derived.Deep.QuietTactic
import Derived.BigQuiet
set_option linter.unusedVariables false
set_option linter.unusedSimpArgs false
/- Lists of numbers in memory: literals, what is new, what is kept. -/
namespace Go.Proofs.Ytklmgdiaianlbaa.ib
open Go Go.RowKit
set_option maxRecDepth 100000

def ncells (cs : List Int) : Array Value := (cs.map (Value.int .i64)).toArray
theorem ncells_at (cs : List Int) (i : Nat) (h : i < cs.length) : (ncells cs)[i]? = some (.int .i64 cs[i]) := by simp [ncells, h]
theorem ncells_size (cs : List Int) : (ncells cs).size = cs.length := by simp [ncells]
theorem ncells_set (cs : List Int) (i : Nat) (v : Int) : (ncells cs).setIfInBounds i (.int .i64 v) = ncells (cs.set i v) := by
  unfold ncells
  rw [List.setIfInBounds_toArray, List.map_set]
theorem ncells_new (n : Nat) : madeCells #[.int .i64 0] n = ncells (List.replicate n 0) := by
  apply Array.ext
  · simp [size_madeCells, ncells]
  · intro j h1 h2
    have e : (ncells (List.replicate n 0))[j]? = some (.int .i64 0) := by
      have hj : j < n := by simpa [ncells] using h2
      rw [ncells_at _ _ (by simpa using hj), List.getElem_replicate]
    rw [Array.getElem?_eq_getElem h2] at e
    rw [Option.some.inj e]
    simp [madeCells, Nat.mod_one]
theorem Blk.nums {w : World} {g : Nat} {cs : List Int} (h : Blk w g 3 (ncells cs)) (hz : ∀ z ∈ cs, i64B z) : IntsAt w (some ⟨g, 0, none⟩) cs := fun i hi =>
  ⟨g, 0, rfl, h.lt, by rw [Nat.zero_add, h.cell i]; exact ncells_at cs i hi, hz _ (List.getElem_mem hi)⟩
theorem nums_new (W : World) (zs : List Int) (hz : ∀ z ∈ zs, i64B z) : IntsAt (W.alloc (.cells (ncells zs) 3)) (some ⟨W.heap.size, 0, none⟩) zs := Blk.nums (Blk.new W 3 (ncells zs)) hz
theorem make_nums (n : Int) (h0 : 0 ≤ n) (h : n * 8 ≤ 140737488355328) (W : World) : (Instr.makeSlice 22 (.int .i64 n) (.int .i64 n)).run Try.prog W = .ok (.slice (some ⟨W.heap.size, 0, none⟩) n.toNat n.toNat) (W.alloc (.cells (ncells (List.replicate n.toNat 0)) 3)) := by
  obtain ⟨i0, hi, hz0, hz1, hz2⟩ := info_parts infoInt
  have hmk := run_make (P := Try.prog) W 22 3 i0 (.int .i64 0) Try.underlying22 hi hz0 .i64 .i64 n n h0 (Int.le_refl _) (by rw [hz2]; omega) (by omega)
  rw [hz1] at hmk
  rw [← ncells_new]
  simpa [Value.cells] using hmk

/-- A bool; a number; nothing that was there is changed. -/
def endB (r : Bool) (w : World) (e : Ending) (w' : World) : Prop := e = .returned (.bool r) ∧ Below w.heap.size w w'
def endI (r : Int) (w : World) (e : Ending) (w' : World) : Prop := e = .returned (.int .i64 r) ∧ Below w.heap.size w w'
/-- A list that is new, and may be written. -/
structure New (w w' : World) (A : Option Addr) (r : List Int) (cc : Nat) : Prop where
  ints : IntsAt w' A r
  free : ∀ i, i < r.length → ∀ b o, A = some ⟨b, o, none⟩ → w'.frozen? ⟨b, o + i, none⟩ = false
  new : ∀ b o, A = some ⟨b, o, none⟩ → w.heap.size ≤ b ∧ b < w'.heap.size
  cap : r.length ≤ cc
  nil : A = none → r.length = 0 ∧ cc = 0
/-- A list, with its room. -/
structure SlAt (w : World) (A : Option Addr) (l : List Int) (c : Nat) : Prop where
  ints : IntsAt w A l
  cap : l.length ≤ c
  nil : A = none → l.length = 0 ∧ c = 0
theorem SlAt.below {w w' : World} {A : Option Addr} {l : List Int} {c : Nat} (h : SlAt w A l c) (hb : Below w.heap.size w w') : SlAt w' A l c := ⟨h.ints.below hb, h.cap, h.nil⟩
theorem New.sl {w w' : World} {A : Option Addr} {r : List Int} {cc : Nat} (h : New w w' A r cc) : SlAt w' A r cc := ⟨h.ints, h.cap, h.nil⟩
theorem SlAt.none (w : World) : SlAt w none [] 0 := ⟨IntsAt.nil _ _, Nat.le_refl _, fun _ => ⟨rfl, rfl⟩⟩
theorem sl_new (W : World) (zs : List Int) (hz : ∀ z ∈ zs, i64B z) : SlAt (W.alloc (.cells (ncells zs) 3)) (some ⟨W.heap.size, 0, Option.none⟩) zs zs.length := ⟨nums_new W zs hz, Nat.le_refl _, fun h => by cases h⟩
def endL (r : List Int) (w : World) (e : Ending) (w' : World) : Prop := ∃ A cc, e = .returned (.slice A r.length cc) ∧ New w w' A r cc ∧ Below w.heap.size w w'
def endP (r : List Int × Int) (w : World) (e : Ending) (w' : World) : Prop := ∃ A cc, e = .returned (.tuple #[.slice A r.1.length cc, .int .i64 r.2]) ∧ New w w' A r.1 cc ∧ Below w.heap.size w w'
theorem New.empty (w w' : World) : New w w' none [] 0 := ⟨IntsAt.nil _ _, fun _ h => absurd h (by simp), (fun _ _ h => by cases h), Nat.le_refl _, fun _ => ⟨rfl, rfl⟩⟩
theorem endP_nil {c : Int} {w w' : World} (h : Below w.heap.size w w') : endP ([], c) w (.returned (.tuple #[.slice none 0 0, .int .i64 c])) w' :=
  ⟨none, 0, rfl, New.empty _ _, h⟩
theorem OInts.new {w w' : World} {v : Value} {zs : List Int} (h : OInts w' w.heap.size v zs) (hz : ∀ z ∈ zs, i64B z) : ∃ A cc, v = .slice A zs.length cc ∧ New w w' A zs cc := by
  rcases h.2 with ⟨rfl, h0⟩ | ⟨g, cap, cur, rfl, hg, hh, hcc, hm, hcs, hcur⟩
  · obtain rfl : zs = [] := List.length_eq_zero_iff.1 h0
    exact ⟨none, 0, rfl, New.empty _ _⟩
  · obtain ⟨A, cc, hv, hi, hb⟩ := h.view hz
    simp only [Value.slice.injEq] at hv
    obtain ⟨rfl, _, rfl⟩ := hv
    refine ⟨_, _, rfl, hi, fun i _ b o hA => ?_, hb, by omega, fun h => by cases h⟩
    simp only [Option.some.injEq, Addr.mk.injEq, and_true] at hA
    obtain ⟨rfl, _⟩ := hA
    simp [World.frozen?, hh]
theorem endP_owned {w w' : World} {v : Value} {zs : List Int} {c : Int} {r : List Int × Int} (ho : OInts w' w.heap.size v zs) (hz : ∀ z ∈ zs, i64B z) (hb : Below w.heap.size w w') (hr : r = (zs, c)) :
    endP r w (.returned (.tuple #[v, .int .i64 c])) w' := by
  subst hr
  obtain ⟨A, cc, rfl, hn⟩ := ho.new hz
  exact ⟨A, cc, rfl, hn, hb⟩
theorem endL_owned {w w' : World} {v : Value} {zs r : List Int} (ho : OInts w' w.heap.size v zs) (hz : ∀ z ∈ zs, i64B z) (hb : Below w.heap.size w w') (hr : r = zs) :
    endL r w (.returned v) w' := by
  subst hr
  obtain ⟨A, cc, rfl, hn⟩ := ho.new hz
  exact ⟨A, cc, rfl, hn, hb⟩
end Go.Proofs.Ytklmgdiaianlbaa.ib

/- A region that draws its order, reads, and ends in one forced tail: walked in the text's order, the world behind the draw folded; big loads by a law. -/
namespace Go.Proofs.Ytklmgdiaianlbaa
open Go Go.RowKit
set_option maxRecDepth 100000

theorem wp_region_still_w {P : Program} {id : Nat} {Q : Exit → Act → World → Prop} {a : Act} {w : World} {l : List Oper} (n : Nat) (hm : P.follows .mixedOrders = true) (hB : Region.lexTailB .any l.toArray n = true)
    (h : wpStill P l.toArray w.drew (fun a' => wpList P l.toArray Q (l.drop n) a' w.drew) (l.take n) a) : (Code.region id l.toArray true).wp P Q a w :=
  wp_region_still_tail n hm hB h

theorem still_value {P : Program} {ops : Array Oper} {w : World} {Q : Act → Prop} {o : Oper} {rest : List Oper} {a : Act} {v : Value} (hg : o.guard = none) (h : (execOp a.eval o).run P w = .ok (.value v) w)
    (hn : wpStill P ops w Q rest (a.put o.dst v)) : wpStill P ops w Q (o :: rest) a := by
  have hw : Region.wanted o (yielded ops a.tmps) = true := by simp [Region.wanted, hg]
  unfold wpStill
  rw [if_pos hw]
  unfold Oper.still
  rw [h]
  exact ⟨rfl, hn⟩

theorem wp_value {P : Program} {o : Oper} {a : Act} {w w' : World} {v : Value} {K : Act → World → Prop} {Q : Exit → Act → World → Prop} (h : (execOp a.eval o).run P w = .ok (.value v) w') (hn : K (a.put o.dst v) w') : o.wp P a w K Q := by
  unfold Oper.wp
  rw [h]
  exact hn

theorem wpList_value {P : Program} {ops : Array Oper} {rest : List Oper} {o : Oper} {a : Act} {w w' : World} {v : Value} {Q : Exit → Act → World → Prop} (hg : o.guard = none) (h : (execOp a.eval o).run P w = .ok (.value v) w')
    (hn : wpList P ops Q rest (a.put o.dst v) w') : wpList P ops Q (o :: rest) a w :=
  wpList_plain hg fun _ hK => wp_value h (hK _ _ hn)

theorem wp_skip {P : Program} {o : Oper} {a : Act} {w w' : World} {K : Act → World → Prop} {Q : Exit → Act → World → Prop} (h : (execOp a.eval o).run P w = .ok .skip w') (hn : K (a.put o.dst undef) w') : o.wp P a w K Q := by
  unfold Oper.wp
  rw [h]
  exact hn

theorem wpList_skip {P : Program} {ops : Array Oper} {rest : List Oper} {o : Oper} {a : Act} {w w' : World} {Q : Exit → Act → World → Prop} (hg : o.guard = none) (h : (execOp a.eval o).run P w = .ok .skip w')
    (hn : wpList P ops Q rest (a.put o.dst undef) w') : wpList P ops Q (o :: rest) a w :=
  wpList_plain hg fun _ hK => wp_skip h (hK _ _ hn)

theorem wpList_value_w {P : Program} {ops : Array Oper} {rest : List Oper} {o : Oper} {a : Act} {w w' : World} {v : Value} {Q : Exit → Act → World → Prop} (hw : Region.wanted o (yielded ops a.tmps) = true) (h : (execOp a.eval o).run P w = .ok (.value v) w')
    (hn : wpList P ops Q rest (a.put o.dst v) w') : wpList P ops Q (o :: rest) a w :=
  wpList_step fun K hK => by
    rw [if_pos hw]
    exact wp_value h (hK _ _ hn)

end Go.Proofs.Ytklmgdiaianlbaa

/- A letter, so often, as a string: what the statements' data makes. -/
namespace Go.Proofs.Ytklmgdiaianlbaa.ib
open Go Go.RowKit
set_option maxRecDepth 100000

abbrev Bt := List UInt8
/-- 32 zeros. -/
def zz : Bt := List.replicate 32 0
/-- A letter, so often. -/
def rep (c : UInt8) (n : Nat) : Bt := List.replicate n c
def dat (c : UInt8) : Bt := if c.toNat ≤ 250 then rep c 32 else rep c (c.toNat % 31)
theorem zz_length : zz.length = 32 := by simp [zz]
theorem dat_length {c : UInt8} (h : c.toNat ≤ 250) : (dat c).length = 32 := by unfold dat; rw [if_pos h]; simp [rep]

theorem zeros_cells (z : Nat) : madeCells #[Value.int .u8 0] z = (Lib.byteCells (List.replicate z 0)).toArray := by
  apply Array.ext'
  apply List.ext_getElem?
  intro j
  by_cases hj : j < z <;> simp [madeCells, Lib.byteCells, hj, Nat.mod_one]

theorem make_zeros (e : Int) (z : Nat) (w : World) (he : e = (z : Int)) (hz : z ≤ 1000000) :
    (Instr.makeSlice 44 (.int .i64 e) (.int .i64 e)).run Try.prog w = .ok (.slice (some ⟨w.heap.size, 0, none⟩) z z) (w.alloc (.cells (Lib.byteCells (List.replicate z 0)).toArray 5)) := by
  subst he
  obtain ⟨i0, hi, hz0, hz1, hz2⟩ := info_parts Try.info5
  have hmk := run_make (P := Try.prog) w 44 5 i0 (.int .u8 0) Try.underlying44 hi hz0 .i64 .i64 (z : Int) (z : Int) (by omega) (by omega) (by rw [hz2]; omega) (by omega)
  rw [hz1] at hmk
  rw [← zeros_cells]
  simpa [Value.cells] using hmk

theorem exec_make32 {ρ : Operand → Value} {o : Oper} {w : World} (x y : Operand) (z : Nat) (ho : o.op = .makeSlice 44 x y) (hx : ρ x = .int .i64 (z : Int)) (hy : ρ y = .int .i64 (z : Int)) (hz : z ≤ 1000000) :
    (execOp ρ o).run Try.prog w = .ok (.value (.slice (some ⟨w.heap.size, 0, none⟩) z z)) (w.alloc (.cells (Lib.byteCells (List.replicate z 0)).toArray 5)) := by
  have hr := make_zeros (z : Int) z w rfl hz
  simp [execOp, ho, hx, hy, hr, Result.andThen]

theorem conv_block (P : Bt) (b k : Nat) (t : TypeId) (w : World) (hk : P.length = k) (h : w.heap[b]? = some (.cells (Lib.byteCells P).toArray t (0, 0))) :
    (convert 44 9 (.slice (some ⟨b, 0, none⟩) k k)).run Try.prog w = .ok (.string (str P)) w := by
  subst hk
  refine run_convert_bytes_back (P := Try.prog) w 44 9 5 ⟨b, 0, none⟩ P.length P Try.underlying44 Try.underlying5 Try.underlying9 ?_
  intro j hj
  rw [addr_add, Nat.zero_add, cell_of_row w b j _ _ _ h]
  simp [Lib.byteCells, hj]

theorem conv_part (P : Bt) (cs : Array Value) (b cap : Nat) (t : TypeId) (w : World) (h : w.heap[b]? = some (.cells cs t (0, 0))) (hc : ∀ (j : Nat) (u : Value), (Lib.byteCells P)[j]? = some u → cs[j]? = some u) :
    (convert 44 9 (.slice (some ⟨b, 0, none⟩) P.length cap)).run Try.prog w = .ok (.string (str P)) w := by
  refine run_convert_bytes_back (P := Try.prog) w 44 9 5 ⟨b, 0, none⟩ cap P Try.underlying44 Try.underlying5 Try.underlying9 ?_
  intro j hj
  rw [addr_add, Nat.zero_add, cell_of_row w b j _ _ _ h]
  exact hc j _ (by simp [Lib.byteCells, hj])

def okS (v : Bt) (w : World) (e : Ending) (w' : World) : Prop := e = .returned (.string (str v)) ∧ Below w.heap.size w w'

def lpart (c : UInt8) (k : Nat) : Array Value := (Lib.byteCells (List.replicate k c ++ List.replicate (32 - k) 0)).toArray

theorem lpart_zero (c : UInt8) : lpart c 0 = (Lib.byteCells (List.replicate 32 0)).toArray := rfl
theorem lpart_size (c : UInt8) (k : Nat) (h : k ≤ 32) : (lpart c k).size = 32 := by simp [lpart, Lib.byteCells]; omega
theorem lpart_set (c : UInt8) (k : Nat) (h : k < 32) : (lpart c k).setIfInBounds k (.int .u8 (c.toNat : Int)) = lpart c (k + 1) := by
  unfold lpart Lib.byteCells
  simp only [List.setIfInBounds_toArray, List.map_append, List.map_replicate]
  rw [List.set_append_right _ _ (by simp)]
  congr 1
  rw [show 32 - k = (32 - (k + 1)) + 1 by omega, List.replicate_succ, List.replicate_succ']
  simp
theorem rep_length (c : UInt8) (n : Nat) : (rep c n).length = n := by simp [rep]
theorem lpart_full (c : UInt8) : lpart c 32 = (Lib.byteCells (rep c 32)).toArray := by simp [lpart, rep]

end Go.Proofs.Ytklmgdiaianlbaa.ib

/- Lists of texts in memory, read alone. -/
namespace Go.Proofs.Ytklmgdiaianlbaa.ib
open Go Go.RowKit
set_option maxRecDepth 100000

def b64 (x : Int) : Prop := -9223372036854775808 ≤ x ∧ x ≤ 9223372036854775807
/-- A slice of texts. -/
def TxL (w : World) (A : Option Addr) (ts : List Bt) : Prop :=
  ∀ i (h : i < ts.length), ∃ b o, A = some ⟨b, o, none⟩ ∧ b < w.heap.size ∧ w.cell? ⟨b, o + i, none⟩ = some (.string (str ts[i]))
theorem TxL.kept {w w' : World} {A : Option Addr} {ts : List Bt} (h : TxL w A ts) (hs : w.heap.size ≤ w'.heap.size) (hk : ∀ b o, A = some ⟨b, o, none⟩ → w'.heap[b]? = w.heap[b]?) : TxL w' A ts := by
  intro i hi
  obtain ⟨b, o, h1, h2, h3⟩ := h i hi
  exact ⟨b, o, h1, Nat.lt_of_lt_of_le h2 hs, by rw [World.cell?_of_block (a := ⟨b, o + i, none⟩) (hk b o h1)]; exact h3⟩
theorem TxL.below {w w' : World} {A : Option Addr} {ts : List Bt} (h : TxL w A ts) (hb : Below w.heap.size w w') : TxL w' A ts := by
  intro i hi
  obtain ⟨b, o, h1, h2, h3⟩ := h i hi
  exact ⟨b, o, h1, Nat.lt_of_lt_of_le h2 hb.size, by rw [hb.cell (p := ⟨b, o + i, none⟩) h2]; exact h3⟩
/-- What is answered lies in new memory. -/
def NewA (w w' : World) (A : Option Addr) : Prop := ∀ b o, A = some ⟨b, o, none⟩ → w.heap.size ≤ b ∧ b < w'.heap.size
theorem NewA.none (w w' : World) : NewA w w' none := fun _ _ h => by cases h
end Go.Proofs.Ytklmgdiaianlbaa.ib

/- Tables in memory; what is asked of the program's four functions. -/
namespace Go.Proofs.Ytklmgdiaianlbaa.mt
open Go Go.RowKit Go.Proofs.Ytklmgdiaianlbaa.ib Go.Proofs.Ytklmgdiaianlbaa.wi
set_option maxRecDepth 100000

/-- A slice of snapshots. -/
def SnsAt (w : World) (A : Option Addr) (xs : List Sp) : Prop :=
  ∀ i (h : i < xs.length), ∃ b o B c, A = some ⟨b, o, none⟩ ∧ b < w.heap.size ∧ w.cell? ⟨b, o + i * 4, none⟩ = some (.int .u64 (xs[i].g.1 : Int)) ∧ w.cell? ⟨b, o + i * 4 + 1, none⟩ = some (.int .u64 (xs[i].g.2 : Int)) ∧
    w.cell? ⟨b, o + i * 4 + 2, none⟩ = some (.slice B xs[i].img.length c) ∧ w.cell? ⟨b, o + i * 4 + 3, none⟩ = some (.bool xs[i].hid) ∧ SlAt w B xs[i].img c ∧ gdB xs[i].g
theorem SnsAt.below {w w' : World} {A : Option Addr} {xs : List Sp} (h : SnsAt w A xs) (hb : Below w.heap.size w w') : SnsAt w' A xs := by
  intro i hi
  obtain ⟨b, o, B, c, h1, h2, h3, h4, h5, h6, h7, h8⟩ := h i hi
  exact ⟨b, o, B, c, h1, Nat.lt_of_lt_of_le h2 hb.size, by rw [hb.cell (p := ⟨b, o + i * 4, none⟩) h2]; exact h3, by rw [hb.cell (p := ⟨b, o + i * 4 + 1, none⟩) h2]; exact h4, by rw [hb.cell (p := ⟨b, o + i * 4 + 2, none⟩) h2]; exact h5, by rw [hb.cell (p := ⟨b, o + i * 4 + 3, none⟩) h2]; exact h6, h7.below hb, h8⟩
theorem SnsAt.nil (w : World) (A : Option Addr) : SnsAt w A [] := fun i h => absurd h (by simp)
theorem SnsAt.gds {w : World} {A : Option Addr} {xs : List Sp} (h : SnsAt w A xs) : ∀ s ∈ xs, gdB s.g := by
  intro s hs
  obtain ⟨i, hi, rfl⟩ := List.getElem_of_mem hs
  obtain ⟨_, _, _, _, _, _, _, _, _, _, _, h8⟩ := h i hi
  exact h8

/-- A table's nine cells. -/
def mtC (A0 A1 A2 : Option Addr) (c0 c1 c2 : Nat) (m : Mt) : Array Value := #[.slice A0 m.live.length c0, .slice A1 m.snaps.length c1, .int .u64 (m.tok.base.1 : Int), .int .u64 (m.tok.base.2 : Int), .int .u64 (m.tok.target.1 : Int), .int .u64 (m.tok.target.2 : Int), .int .i64 m.tok.next, .int .i64 m.tok.all, .slice A2 m.tok.img.length c2]
/-- What its three slices hold. -/
structure MtL (w : World) (A0 A1 A2 : Option Addr) (c0 c1 c2 : Nat) (m : Mt) : Prop where
  live : SlAt w A0 m.live c0
  snaps : SnsAt w A1 m.snaps
  room : m.snaps.length ≤ c1 ∧ (A1 = none → m.snaps.length = 0 ∧ c1 = 0)
  img : SlAt w A2 m.tok.img c2
  base : gdB m.tok.base
  target : gdB m.tok.target
  next : i64B m.tok.next
  all : i64B m.tok.all
theorem MtL.below {w w' : World} {A0 A1 A2 : Option Addr} {c0 c1 c2 : Nat} {m : Mt} (h : MtL w A0 A1 A2 c0 c1 c2 m) (hb : Below w.heap.size w w') : MtL w' A0 A1 A2 c0 c1 c2 m :=
  ⟨h.live.below hb, h.snaps.below hb, h.room, h.img.below hb, h.base, h.target, h.next, h.all⟩
theorem MtL.mB {w : World} {A0 A1 A2 : Option Addr} {c0 c1 c2 : Nat} {m : Mt} (h : MtL w A0 A1 A2 c0 c1 c2 m) : mB m := ⟨h.snaps.gds, h.base, h.target⟩
/-- A table that is not too long. -/
structure mtS (m : Mt) : Prop where
  live : m.live.length ≤ 1000
  snaps : m.snaps.length ≤ 1000
  imgs : ∀ s ∈ m.snaps, s.img.length ≤ 1000
  img : m.tok.img.length ≤ 1000
/-- A table, as a value. -/
def MtAt (w : World) (v : Value) (m : Mt) : Prop := ∃ A0 A1 A2 c0 c1 c2, v = .agg (mtC A0 A1 A2 c0 c1 c2 m) ∧ MtL w A0 A1 A2 c0 c1 c2 m
theorem MtAt.below {w w' : World} {v : Value} {m : Mt} (h : MtAt w v m) (hb : Below w.heap.size w w') : MtAt w' v m := by
  obtain ⟨A0, A1, A2, c0, c1, c2, h1, h2⟩ := h
  exact ⟨A0, A1, A2, c0, c1, c2, h1, h2.below hb⟩
theorem MtAt.mB {w : World} {v : Value} {m : Mt} (h : MtAt w v m) : mB m := by
  obtain ⟨A0, A1, A2, c0, c1, c2, h1, h2⟩ := h
  exact h2.mB

def endS (r : List UInt8 × Int) (w : World) (e : Ending) (w' : World) : Prop := e = .returned (.tuple #[.string (str r.1), .int .i64 r.2]) ∧ Below w.heap.size w w'
def endM (r : Mt × Int) (w : World) (e : Ending) (w' : World) : Prop := ∃ v, e = .returned (.tuple #[v, .int .i64 r.2]) ∧ MtAt w' v r.1 ∧ Below w.heap.size w w'
structure MImpl : Prop where
  check : ∀ (v : Value) (m : Mt) (b n : Int) (w : World), MtAt w v m → mtS m → i64B b → i64B n → Calls Try.prog 10 #[v, .int .i64 b, .int .i64 n] w (endI (mCheck m b n) w)
  enc : ∀ (v : Value) (m : Mt) (w : World), MtAt w v m → mtS m → Calls Try.prog 13 #[v] w (endS (mEnc m) w)
  dec : ∀ (s : ByteArray) (w : World), s.size ≤ 100000 → Calls Try.prog 17 #[.string s] w (endM (mDec (bl s)) w)
  same : ∀ (v v' : Value) (m m' : Mt) (w : World), MtAt w v m → MtAt w v' m' → mtS m → mtS m' → Calls Try.prog 15 #[v, v'] w (endB (decide (m = m')) w)
end Go.Proofs.Ytklmgdiaianlbaa.mt

/- Are two guids alike, as the program asks it. -/
namespace Go.Proofs.Ytklmgdiaianlbaa.mt
open Go Go.RowKit Go.Proofs.Ytklmgdiaianlbaa.ib
set_option maxRecDepth 100000

@[go_sem] theorem eq_gd (a b c d : Int) (w : World) : (Op.equalIn 10000 26 (.agg #[.int .u64 a, .int .u64 b]) (.agg #[.int .u64 c, .int .u64 d])).run Try.prog w = .ok (a == c && b == d) w := by
  have u3 := Try.underlying24
  have a3 := Try.isAgg24
  have z3 := Try.sizeOf24
  rw [show (10000 : Nat) = 9999 + 1 from rfl, run_equalIn_agg w 9999 26 _ _ (by kernel_rfl) (by kernel_rfl)]
  simp only [Program.fieldsOf, Try.underlying26]
  go_simp
  by_cases h1 : a = c <;> by_cases h2 : b = d <;> simp [h1, h2]

def gv (g : Gd) : Value := .agg #[.int .u64 (g.1 : Int), .int .u64 (g.2 : Int)]
theorem gd_eq (x y : Gd) : ((x.1 : Int) == (y.1 : Int) && (x.2 : Int) == (y.2 : Int)) = decide (x = y) := by
  obtain ⟨a, b⟩ := x
  obtain ⟨c, d⟩ := y
  rw [Bool.eq_iff_iff]
  simp
  omega
end Go.Proofs.Ytklmgdiaianlbaa.mt

/- What the document's own reader does: Num, Text, OK, End of package stemmaref01. -/
namespace Go.Proofs.Ytklmgdiaianlbaa.wi
open Go.RowKit
set_option maxRecDepth 100000

/-- Block c is the document's reader that has s left. -/
def QAt (c : Nat) (s : ByteArray) (bad : Bool) (w : World) : Prop := w.heap[c]? = some (.cells #[.string s, .bool bad] 75 (0, 0)) ∧ s.size ≤ 1000000

theorem QAt.cells {c : Nat} {s : ByteArray} {bad : Bool} {w : World} (h : QAt c s bad w) :
    w.cell? ⟨c, 0, none⟩ = some (.string s) ∧ w.cell? ⟨c, 1, none⟩ = some (.bool bad) ∧ w.frozen? ⟨c, 0, none⟩ = false ∧ w.frozen? ⟨c, 1, none⟩ = false := by
  obtain ⟨hb, _⟩ := h
  exact ⟨by simp [World.cell?, hb], by simp [World.cell?, hb], by simp [World.frozen?, hb], by simp [World.frozen?, hb]⟩

theorem QAt.set0 {c : Nat} {s : ByteArray} {bad : Bool} {w : World} (h : QAt c s bad w) (t : ByteArray) (ht : t.size ≤ 1000000) : QAt c t bad (w.setCell ⟨c, 0, none⟩ (.string t)) := by
  have := heap_setCell_same w c 0 _ 75 (.string t) h.1
  exact ⟨by rw [this]; simp, ht⟩

theorem QAt.set1 {c : Nat} {s : ByteArray} {bad : Bool} {w : World} (h : QAt c s bad w) (x : Bool) : QAt c s x (w.setCell ⟨c, 1, none⟩ (.bool x)) := by
  have := heap_setCell_same w c 1 _ 75 (.bool x) h.1
  exact ⟨by rw [this]; simp, h.2⟩

theorem grown_set (c o : Nat) (w : World) (v : Value) : w.grownBy (w.setCell ⟨c, o, none⟩ v) (some c) :=
  ⟨rfl, rfl, rfl, by simp [World.setCell], fun k _ hk => Below.heap_setCell _ _ _ _ (fun e => hk (by simp [e]))⟩

theorem grown_drewN {w w' : World} {r : Option Nat} (h : w.grownBy w' r) (n : Nat) : w.grownBy (w'.drewN n) r := ⟨h.os, h.tape, h.output, h.size, h.block⟩

theorem grown_past {w w' : World} {r : Option Nat} {n : Nat} (h : (w.drewN n).grownBy w' r) : w.grownBy w' r := ⟨h.os, h.tape, h.output, h.size, h.block⟩

theorem fail_any (c : Nat) (s : ByteArray) (bad : Bool) (w : World) (h : QAt c s bad w) :
    Calls Try.prog 87 #[.pointer (some ⟨c, 0, none⟩)] w fun e w' => e = .returned (.tuple #[]) ∧ QAt c ⟨#[]⟩ true w' ∧ w.grownBy w' (some c) := by
  obtain ⟨h1, h2, h3, h4⟩ := h.cells
  have H := Lib.hid ((h.set0 ⟨#[]⟩ (by decide)).set1 true)
  have G := Lib.hid (grown_trans (grown_set c 0 w (.string ⟨#[]⟩)) (grown_set c 1 _ (.bool true)))
  clear h
  go_enter Try.func87, Try.ntmps87
  go_wp2
  go_end0
  exact ⟨rfl, H.out, G.out⟩

end Go.Proofs.Ytklmgdiaianlbaa.wi

/- What reading a number off the document's own reader does: Num of package stemmaref01. -/
namespace Go.Proofs.Ytklmgdiaianlbaa.wi
open Go.RowKit
set_option maxRecDepth 100000

def okQNum (c : Nat) (s : ByteArray) (w : World) (e : Ending) (w' : World) : Prop :=
  w.grownBy w' (some c) ∧
    ((∃ n r s', rdNum (bl s) = some (n, r) ∧ e = .returned (.int .u64 (n : Int)) ∧ bl s' = r ∧ QAt c s' false w') ∨
     (rdNum (bl s) = none ∧ e = .returned (.int .u64 0) ∧ QAt c ⟨#[]⟩ true w'))

def okQNo (c : Nat) (w : World) (e : Ending) (w' : World) : Prop :=
  w.grownBy w' (some c) ∧ e = .returned (.int .u64 0) ∧ QAt c ⟨#[]⟩ true w'

theorem get_bl (s : ByteArray) (i : Nat) (h : i < s.size) : (bl s)[i]'(by rw [bl_len]; exact h) = s[i] := rfl

theorem bl_cons (s : ByteArray) (h : 0 < s.size) : bl s = s[0] :: (bl s).drop 1 := by
  have hl : 0 < (bl s).length := by rw [bl_len]; exact h
  have := List.drop_eq_getElem_cons hl
  rw [List.drop_zero] at this
  rw [this]
  rfl

set_option maxHeartbeats 800000 in
theorem q_bad (c : Nat) (s : ByteArray) (w : World) (h : QAt c s true w) :
    Calls Try.prog 82 #[.pointer (some ⟨c, 0, none⟩)] w (okQNo c w) := by
  obtain ⟨h1, h2, h3, h4⟩ := h.cells
  go_enter Try.func82, Try.ntmps82
  go_wp2
  go_quiet (fail)
  have hq : QAt c s true (w.drewN nq) := h
  go_wp2_with (go_at_call 87; refine (fail_any c s true _ hq).mono ?_)
  rintro e w2 ⟨rfl, hq2, hg2⟩
  have Hg := Lib.hid (grown_past hg2)
  clear hg2
  go_wp2
  go_ret
  exact ⟨Hg.out, rfl, hq2⟩

set_option maxHeartbeats 800000 in
theorem q_empty (c : Nat) (s : ByteArray) (w : World) (h : QAt c s false w) (hp : s.size = 0) :
    Calls Try.prog 82 #[.pointer (some ⟨c, 0, none⟩)] w (okQNo c w) := by
  obtain ⟨h1, h2, h3, h4⟩ := h.cells
  have e1 := Lib.hid (show ((s.size : Int) == 0) = true by rw [beq_iff_eq]; omega)
  clear hp
  go_enter Try.func82, Try.ntmps82
  go_wp2
  have f1 := e1.out
  go_quiet (fail)
  have hq : QAt c s false (w.drewN nq) := h
  go_wp2_with (go_at_call 87; refine (fail_any c s false _ hq).mono ?_)
  rintro e w2 ⟨rfl, hq2, hg2⟩
  have Hg := Lib.hid (grown_past hg2)
  clear hg2
  go_wp2
  go_ret
  exact ⟨Hg.out, rfl, hq2⟩

set_option maxHeartbeats 800000 in
theorem q_big (c : Nat) (s : ByteArray) (w : World) (h : QAt c s false w) (hp : 0 < s.size) (hk : 8 < s[0].toNat) :
    Calls Try.prog 82 #[.pointer (some ⟨c, 0, none⟩)] w (okQNo c w) := by
  obtain ⟨h1, h2, h3, h4⟩ := h.cells
  have hp0 : 0 < s.size := by omega
  have hpi : (0 : Int) < (s.size : Int) := by omega
  have e1 := Lib.hid (show ((s.size : Int) == 0) = false by rw [beq_eq_false_iff_ne]; omega)
  have e2 := Lib.hid (show decide ((8 : Int) < (s[0].toNat : Int)) = true by rw [decide_eq_true_iff]; omega)
  go_enter Try.func82, Try.ntmps82
  go_wp2
  have f1 := e1.out
  have f2 := e2.out
  go_quiet (fail)
  have hq : QAt c s false (w.drewN nq) := h
  go_wp2_with (go_at_call 87; refine (fail_any c s false _ hq).mono ?_)
  rintro e w2 ⟨rfl, hq2, hg2⟩
  have Hg := Lib.hid (grown_past hg2)
  clear hg2
  go_wp2
  go_ret
  exact ⟨Hg.out, rfl, hq2⟩

set_option maxHeartbeats 800000 in
theorem q_short (c : Nat) (s : ByteArray) (w : World) (h : QAt c s false w) (hp : 0 < s.size) (hk : s[0].toNat ≤ 8) (hl : s.size < 1 + s[0].toNat) :
    Calls Try.prog 82 #[.pointer (some ⟨c, 0, none⟩)] w (okQNo c w) := by
  obtain ⟨h1, h2, h3, h4⟩ := h.cells
  have hp0 : 0 < s.size := by omega
  have hpi : (0 : Int) < (s.size : Int) := by omega
  have e1 := Lib.hid (show ((s.size : Int) == 0) = false by rw [beq_eq_false_iff_ne]; omega)
  have e2 := Lib.hid (show decide ((8 : Int) < (s[0].toNat : Int)) = false by rw [decide_eq_false_iff_not]; omega)
  have e3 := Lib.hid (show decide ((s.size : Int) < (1 : Int) + (s[0].toNat : Int)) = true by rw [decide_eq_true_iff]; omega)
  go_enter Try.func82, Try.ntmps82
  go_wp2
  have f1 := e1.out
  have f2 := e2.out
  have f3 := e3.out
  go_quiet (fail)
  have hq : QAt c s false (w.drewN nq) := h
  go_wp2_with (go_at_call 87; refine (fail_any c s false _ hq).mono ?_)
  rintro e w2 ⟨rfl, hq2, hg2⟩
  have Hg := Lib.hid (grown_past hg2)
  clear hg2
  go_wp2
  go_ret
  exact ⟨Hg.out, rfl, hq2⟩

set_option maxHeartbeats 800000 in
theorem q_zero (c : Nat) (s : ByteArray) (w : World) (h : QAt c s false w) (hp : 1 < s.size) (hk : s[0].toNat ≤ 8) (hl : 1 + s[0].toNat ≤ s.size) (hk0 : 0 < s[0].toNat) (h0 : s[1].toNat = 0) :
    Calls Try.prog 82 #[.pointer (some ⟨c, 0, none⟩)] w (okQNo c w) := by
  obtain ⟨h1, h2, h3, h4⟩ := h.cells
  have hp0 : 0 < s.size := by omega
  have hpi : (0 : Int) < (s.size : Int) := by omega
  have e1 := Lib.hid (show ((s.size : Int) == 0) = false by rw [beq_eq_false_iff_ne]; omega)
  have hpi1 : (1 : Int) < (s.size : Int) := by omega
  have e2 := Lib.hid (show decide ((8 : Int) < (s[0].toNat : Int)) = false by rw [decide_eq_false_iff_not]; omega)
  have e3 := Lib.hid (show decide ((s.size : Int) < (1 : Int) + (s[0].toNat : Int)) = false by rw [decide_eq_false_iff_not]; omega)
  have e4 := Lib.hid (show decide ((0 : Int) < (s[0].toNat : Int)) = true by rw [decide_eq_true_iff]; omega)
  have e5 := Lib.hid (show ((s[1].toNat : Int) == 0) = true by rw [beq_iff_eq]; omega)
  clear h0
  go_enter Try.func82, Try.ntmps82
  go_wp2
  have f1 := e1.out
  have f2 := e2.out
  have f3 := e3.out
  have f4 := e4.out
  have f5 := e5.out
  go_quiet (fail)
  have hq : QAt c s false (w.drewN nq) := h
  go_wp2_with (go_at_call 87; refine (fail_any c s false _ hq).mono ?_)
  rintro e w2 ⟨rfl, hq2, hg2⟩
  have Hg := Lib.hid (grown_past hg2)
  clear hg2
  go_wp2
  go_ret
  exact ⟨Hg.out, rfl, hq2⟩

end Go.Proofs.Ytklmgdiaianlbaa.wi

/- What reading a good number off the document's own reader does: Num of package stemmaref01. -/
namespace Go.Proofs.Ytklmgdiaianlbaa.wi
open Go.RowKit
set_option maxRecDepth 100000

theorem bl_extract (s : ByteArray) (k : Nat) : bl (s.extract k s.size) = (bl s).drop k := by
  obtain ⟨⟨l⟩⟩ := s
  simp only [bl, ByteArray.size]
  simp
  exact List.take_of_length_le (by simp)

/-- What stands behind the first byte. -/
def restB (s : ByteArray) : List UInt8 := (bl s).drop 1
theorem restB_len (s : ByteArray) : (restB s).length = s.size - 1 := by unfold restB; rw [List.length_drop, bl_len]
theorem restB_get (s : ByteArray) (j : Nat) (h : j + 1 < s.size) : (restB s)[j]'(by rw [restB_len]; omega) = s[j + 1] := by
  unfold restB
  rw [List.getElem_drop]
  have := get_bl s (j + 1) h
  rw [← this]
  congr 1
  omega

def okQYes (c : Nat) (s : ByteArray) (k : Nat) (w : World) (e : Ending) (w' : World) : Prop :=
  w.grownBy w' (some c) ∧ e = .returned (.int .u64 ((val ((restB s).take k) : Nat) : Int)) ∧ QAt c (s.extract (1 + k) s.size) false w'

def QRel (d : List UInt8) (k : Nat) (n i : Value) : Prop := ∃ j : Nat, j ≤ k ∧ i = .int .i64 ((j : Int) + 1) ∧ n = .int .u64 ((val (d.take j) : Nat) : Int)

set_option maxHeartbeats 1600000 in
theorem q_good (c : Nat) (s : ByteArray) (w : World) (h : QAt c s false w) (hp : 1 < s.size) (hk : s[0].toNat ≤ 8) (hl : 1 + s[0].toNat ≤ s.size) (hk0 : 0 < s[0].toNat) (h0 : s[1].toNat ≠ 0) :
    Calls Try.prog 82 #[.pointer (some ⟨c, 0, none⟩)] w (okQYes c s s[0].toNat w) := by
  obtain ⟨h1, h2, h3, h4⟩ := h.cells
  have hp0 : 0 < s.size := by omega
  have hpi : (0 : Int) < (s.size : Int) := by omega
  have e1 := Lib.hid (show ((s.size : Int) == 0) = false by rw [beq_eq_false_iff_ne]; omega)
  have hpi1 : (1 : Int) < (s.size : Int) := by omega
  have e2 := Lib.hid (show decide ((8 : Int) < (s[0].toNat : Int)) = false by rw [decide_eq_false_iff_not]; omega)
  have e3 := Lib.hid (show decide ((s.size : Int) < (1 : Int) + (s[0].toNat : Int)) = false by rw [decide_eq_false_iff_not]; omega)
  have e4 := Lib.hid (show decide ((0 : Int) < (s[0].toNat : Int)) = true by rw [decide_eq_true_iff]; omega)
  have e5 := Lib.hid (show ((s[1].toNat : Int) == 0) = false by rw [beq_eq_false_iff_ne]; omega)
  clear h0
  go_enter Try.func82, Try.ntmps82
  go_wp2
  have f1 := e1.out
  have f2 := e2.out
  have f3 := e3.out
  have f4 := e4.out
  have f5 := e5.out
  go_quiet (fail)
  obtain ⟨W, hW⟩ : ∃ W, W = w.drewN nq := ⟨_, rfl⟩
  have hq : QAt c s false W := by rw [hW]; exact h
  have hgW := Lib.hid (show w.grownBy W (some c) from by rw [hW]; exact grown_drewN (grown_refl w _) nq)
  rw [← hW]
  clear hW h h1 h2 h3 h4
  obtain ⟨h1, h2, h3, h4⟩ := hq.cells
  have hx : (s.extract (1 + s[0].toNat) s.size).size ≤ 1000000 := by have := hq.2; simp; omega
  have HQ := Lib.hid (hq.set0 _ hx)
  have HG := Lib.hid (grown_set c 0 W (.string (s.extract (1 + s[0].toNat) s.size)))
  have hs1 : s.size ≤ 1000000 := hq.2
  have hdl := Lib.hid (restB_len s)
  have HL := Lib.hid hl
  clear hq
  go_wp2
  go_loop [3, 5] (fun n i => QRel (restB s) s[0].toNat n i) (fun _ i => s[0].toNat + 1 - (intOf i).toNat)
  case atStart => exact ⟨0, Nat.zero_le _, rfl, rfl⟩
  case round =>
    obtain ⟨j, hj, rfl, rfl⟩ := hrel
    have hl2 := HL.out
    by_cases hlt : j < s[0].toNat
    · have hd := hdl.out
      have hs := val_step (restB s) j (by omega)
      have hb : val ((restB s).take j) < 72057594037927936 := by
        have a := val_lt ((restB s).take j)
        have b : 256 ^ ((restB s).take j).length ≤ 256 ^ 7 := Nat.pow_le_pow_right (by omega) (by rw [List.length_take]; omega)
        have e : (256 : Nat) ^ 7 = 72057594037927936 := by decide
        omega
      have hji : j + 1 < s.size := by omega
      have hg := restB_get s j hji
      rw [hg] at hs
      have Hs := Lib.hid hs
      have hzb : s[j + 1].toNat < 256 := s[j + 1].toNat_lt
      have hji2 : (j : Int) + 1 < (s.size : Int) := by omega
      clear hs hg hd
      generalize val ((restB s).take j) = v at *
      go_wp2
      exact ⟨⟨j + 1, by omega, by go_num, by rw [Hs.out]; go_num⟩, by simp [intOf]; omega⟩
    · have hjk : s[0].toNat ≤ j := by omega
      have hjj : j = s[0].toNat := by omega
      have Hj := Lib.hid hjj
      clear hjj
      go_wp2
      go_ret
      exact ⟨grown_trans hgW.out HG.out, by rw [← Hj.out]; rfl, HQ.out⟩

end Go.Proofs.Ytklmgdiaianlbaa.wi

/- What reading a number whose count is 0, and any number, off the document's own reader does; and a text. -/
namespace Go.Proofs.Ytklmgdiaianlbaa.wi
open Go.RowKit
set_option maxRecDepth 100000

def okQZero (c : Nat) (s : ByteArray) (w : World) (e : Ending) (w' : World) : Prop :=
  w.grownBy w' (some c) ∧ e = .returned (.int .u64 0) ∧ QAt c (s.extract 1 s.size) false w'

set_option maxHeartbeats 1600000 in
theorem q_good0 (c : Nat) (s : ByteArray) (w : World) (h : QAt c s false w) (hp : 0 < s.size) (hk0 : s[0].toNat = 0) :
    Calls Try.prog 82 #[.pointer (some ⟨c, 0, none⟩)] w (okQZero c s w) := by
  obtain ⟨h1, h2, h3, h4⟩ := h.cells
  have hpi : (0 : Int) < (s.size : Int) := by omega
  have e1 := Lib.hid (show ((s.size : Int) == 0) = false by rw [beq_eq_false_iff_ne]; omega)
  have e3 := Lib.hid (show decide ((s.size : Int) < (1 : Int)) = false by rw [decide_eq_false_iff_not]; omega)
  go_enter Try.func82, Try.ntmps82
  go_wp2
  have f1 := e1.out
  have f3 := e3.out
  go_quiet (fail)
  obtain ⟨W, hW⟩ : ∃ W, W = w.drewN nq := ⟨_, rfl⟩
  have hq : QAt c s false W := by rw [hW]; exact h
  have hgW := Lib.hid (show w.grownBy W (some c) from by rw [hW]; exact grown_drewN (grown_refl w _) nq)
  rw [← hW]
  clear hW h h1 h2 h3 h4
  obtain ⟨h1, h2, h3, h4⟩ := hq.cells
  have hx : (s.extract 1 s.size).size ≤ 1000000 := by have := hq.2; simp; omega
  have HQ := Lib.hid (hq.set0 _ hx)
  have HG := Lib.hid (grown_set c 0 W (.string (s.extract 1 s.size)))
  have hs1 : s.size ≤ 1000000 := hq.2
  have hs2 : 1 ≤ s.size := hp
  clear hq
  go_wp2
  go_loop [3, 5] (fun n i => n = .int .u64 0 ∧ i = .int .i64 1) (fun _ i => 1 - (intOf i).toNat)
  case atStart => exact ⟨rfl, rfl⟩
  case round =>
    obtain ⟨rfl, rfl⟩ := hrel
    go_wp2
    go_ret
    exact ⟨grown_trans hgW.out HG.out, rfl, HQ.out⟩

theorem rdNum_cons (k : UInt8) (r : List UInt8) : rdNum (k :: r) =
    if 8 < k.toNat then none else if r.length < k.toNat then none else if (r.take k.toNat).head? = some 0 then none else some (val (r.take k.toNat), r.drop k.toNat) := rfl

theorem restB_drop (s : ByteArray) (k : Nat) : (bl s).drop (1 + k) = (restB s).drop k := by
  unfold restB; rw [List.drop_drop]

theorem q_num (c : Nat) (s : ByteArray) (w : World) (h : QAt c s false w) :
    Calls Try.prog 82 #[.pointer (some ⟨c, 0, none⟩)] w (okQNum c s w) := by
  have hno : ∀ e w', rdNum (bl s) = none → okQNo c w e w' → okQNum c s w e w' := fun e w' hn ⟨h1, h2, h3⟩ => ⟨h1, .inr ⟨hn, h2, h3⟩⟩
  by_cases hp : 0 < s.size
  · have hc := bl_cons s hp
    have hrl : (restB s).length = s.size - 1 := restB_len s
    have hyes : ∀ e w', ¬ 8 < s[0].toNat → ¬ (restB s).length < s[0].toNat → ¬ ((restB s).take s[0].toNat).head? = some 0 → okQYes c s s[0].toNat w e w' → okQNum c s w e w' := fun e w' g1 g2 g3 ⟨h1, h2, h3⟩ =>
      ⟨h1, .inl ⟨_, (restB s).drop s[0].toNat, _, by rw [hc]; show rdNum (s[0] :: restB s) = _; rw [rdNum_cons, if_neg g1, if_neg g2, if_neg g3], h2, by rw [bl_extract, restB_drop], h3⟩⟩
    by_cases hk : s[0].toNat ≤ 8
    · by_cases hl : 1 + s[0].toNat ≤ s.size
      · by_cases hk0 : s[0].toNat = 0
        · refine (q_good0 c s w h hp hk0).mono fun e w' ⟨h1, h2, h3⟩ => hyes e w' (by omega) (by omega) (by rw [hk0]; simp) ⟨h1, by rw [h2, hk0]; rfl, by rw [hk0]; exact h3⟩
        · have hp1 : 1 < s.size := by omega
          have hhead : ((restB s).take s[0].toNat).head? = some s[1] := by
            have := restB_get s 0 hp1
            cases hr : restB s with
            | nil => rw [hr] at hrl; simp at hrl; omega
            | cons y q =>
              obtain ⟨k, hk1⟩ : ∃ k, s[0].toNat = k + 1 := ⟨s[0].toNat - 1, by omega⟩
              simp only [hr, List.getElem_cons_zero, Nat.zero_add] at this
              rw [hk1, List.take_succ_cons, List.head?_cons, this]
          by_cases h0 : s[1].toNat = 0
          · refine (q_zero c s w h hp1 hk hl (by omega) h0).mono fun e w' => hno e w' ?_
            rw [hc]
            show rdNum (s[0] :: restB s) = none
            have hz : s[1] = 0 := by apply UInt8.toNat_inj.1; simpa using h0
            rw [rdNum_cons, if_neg (by omega), if_neg (by omega), if_pos (by rw [hhead, hz])]
          · refine (q_good c s w h hp1 hk hl (by omega) h0).mono fun e w' => hyes e w' (by omega) (by omega) ?_
            rw [hhead]
            intro hz
            simp only [Option.some.injEq] at hz
            exact h0 (by rw [hz]; rfl)
      · refine (q_short c s w h hp hk (by omega)).mono fun e w' => hno e w' ?_
        rw [hc]
        show rdNum (s[0] :: restB s) = none
        rw [rdNum_cons, if_neg (by omega), if_pos (by omega)]
    · refine (q_big c s w h hp (by omega)).mono fun e w' => hno e w' ?_
      rw [hc]
      show rdNum (s[0] :: restB s) = none
      rw [rdNum_cons, if_pos (by omega)]
  · refine (q_empty c s w h (by omega)).mono fun e w' => hno e w' ?_
    have : bl s = [] := List.length_eq_zero_iff.1 (by rw [bl_len]; omega)
    rw [this]
    rfl

end Go.Proofs.Ytklmgdiaianlbaa.wi

