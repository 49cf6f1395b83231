/- Str, Blk, Info, StillW, Dat, ChPure, ChData, Lists, ChHyp. -/
import Derived.Below
import Derived.Lib.Hide
import Derived.Lib.Strings
import Derived.Maps.AppendAt
import Derived.OwnWalk
import Derived.Deep.Draws
import Derived.Test.YtfinmfmbbgakhaaProg
import Derived.WalkKit
import Derived.StillTailTactics
import Derived.BigCall
import Derived.LoopTactic
import Derived.WalkSpells
import Derived.WalkLawsBesides
import Derived.Deep.WholeRow
import Derived.Deep.AppendSrc
import Derived.Carry
/- Strings of the program as lists of bytes; and small words that all walks use. -/
namespace Go.Proofs.Ytfinmfmbbgakhaa
open Go Go.RowKit
set_option maxRecDepth 100000

def str (l : List UInt8) : ByteArray := ⟨l.toArray⟩
def bl (s : ByteArray) : List UInt8 := s.data.toList

theorem bl_str (l : List UInt8) : bl (str l) = l := by simp [bl, str]
theorem str_bl (s : ByteArray) : str (bl s) = s := by obtain ⟨⟨l⟩⟩ := s; rfl
theorem str_size (l : List UInt8) : (str l).size = l.length := by simp [str, ByteArray.size]
theorem bl_len (s : ByteArray) : (bl s).length = s.size := by obtain ⟨⟨l⟩⟩ := s; simp [bl, ByteArray.size]
theorem str_inj {l m : List UInt8} (h : str l = str m) : l = m := by
  have := congrArg bl h
  rwa [bl_str, bl_str] at this

theorem toList_bl (s : ByteArray) : s.toList = bl s := Lib.toList_data s
theorem bl_extract (s : ByteArray) (a b : Nat) : bl (s.extract a b) = ((bl s).drop a).take (b - a) := Lib.extract_data s a b
theorem bl_upto (s : ByteArray) (k : Nat) : bl (s.extract 0 k) = (bl s).take k := by rw [bl_extract]; simp
theorem bl_from (s : ByteArray) (k : Nat) : bl (s.extract k s.size) = (bl s).drop k := by
  rw [bl_extract, List.take_of_length_le]
  rw [List.length_drop, bl_len]; omega
theorem beq_bl (s : ByteArray) (l : List UInt8) : (s.toList == (str l).toList) = decide (bl s = l) := by
  rw [toList_bl, toList_bl, bl_str, Bool.eq_iff_iff]; simp

theorem ofNat_small (k : Nat) (h : k < 256) : (UInt8.ofNat k).toNat = k := by
  simp [UInt8.toNat_ofNat']; omega

theorem addr_add (b o j : Nat) : (⟨b, o, none⟩ : Addr).add j = ⟨b, o + j, none⟩ := by
  unfold Addr.add
  split
  · subst_vars; rfl
  · rfl

theorem below_step {w A B : World} (h : Below w.heap.size w A) (g : Below A.heap.size A B) : Below w.heap.size w B := h.trans (g.mono h.size)
theorem below_new {w A : World} (h : Below w.heap.size w A) (o : Obj) : Below w.heap.size w (A.alloc o) := h.alloc h.size o

def okTrue (w : World) (e : Ending) (w' : World) : Prop := e = .returned (.bool true) ∧ Below w.heap.size w w'
def okStr (r : ByteArray) (w : World) (e : Ending) (w' : World) : Prop := e = .returned (.string r) ∧ Below w.heap.size w w'

end Go.Proofs.Ytfinmfmbbgakhaa

/- A block that is known whole; all but some blocks as it was. -/
namespace Go.Proofs.Ytfinmfmbbgakhaa.ib
open Go Go.RowKit
set_option maxRecDepth 100000

/-- A block that is known whole. -/
def Blk (w : World) (g : Nat) (t : TypeId) (cs : Array Value) : Prop := w.heap[g]? = some (.cells cs t (0, 0))
section
variable {w w' : World} {g : Nat} {t : TypeId} {cs : Array Value}
theorem Blk.lt (h : Blk w g t cs) : g < w.heap.size := by
  unfold Blk at h
  exact (Array.getElem?_eq_some_iff.1 h).1
theorem Blk.cell (h : Blk w g t cs) (i : Nat) : w.cell? ⟨g, i, none⟩ = cs[i]? := cell_of_row w g i cs t (0, 0) h
theorem Blk.frozen (h : Blk w g t cs) (i : Nat) : w.frozen? ⟨g, i, none⟩ = false := by
  unfold Blk at h
  simp [World.frozen?, h]
theorem Blk.new (w : World) (t : TypeId) (cs : Array Value) : Blk (w.alloc (.cells cs t)) w.heap.size t cs := heap_alloc_new w _
theorem Blk.of_block (h : Blk w g t cs) (hb : w'.heap[g]? = w.heap[g]?) : Blk w' g t cs := hb.trans h
theorem Blk.below (h : Blk w g t cs) (hb : Below w.heap.size w w') : Blk w' g t cs := h.of_block (hb.block _ h.lt)
theorem Blk.set_ (h : Blk w g t cs) (i : Nat) (u : Value) : Blk (w.setCell ⟨g, i, none⟩ u) g t (cs.setIfInBounds i u) := heap_setCell_same w g i cs t u h
end

/-- w' is w but for the blocks of S, and new ones. -/
structure But (S : Nat → Prop) (w w' : World) : Prop where
  os : w'.os = w.os
  tape : w'.tape = w.tape
  output : w'.output = w.output
  size : w.heap.size ≤ w'.heap.size
  block : ∀ k, k < w.heap.size → ¬ S k → w'.heap[k]? = w.heap[k]?

section
variable {S S' : Nat → Prop} {a b c w w' : World}
theorem But.refl (S : Nat → Prop) (w : World) : But S w w := ⟨rfl, rfl, rfl, Nat.le_refl _, fun _ _ _ => rfl⟩
theorem But.trans (h : But S a b) (k : But S' b c) (hs : ∀ i, S' i → S i ∨ a.heap.size ≤ i) : But S a c :=
  ⟨k.os.trans h.os, k.tape.trans h.tape, k.output.trans h.output, Nat.le_trans h.size k.size, fun i hi hn => by
    refine (k.block i (Nat.lt_of_lt_of_le hi h.size) (fun e => ?_)).trans (h.block i hi hn)
    rcases hs i e with h1 | h1
    · exact hn h1
    · omega⟩
theorem But.mono (h : But S w w') (hs : ∀ i, S i → S' i) : But S' w w' := ⟨h.os, h.tape, h.output, h.size, fun k hk hn => h.block k hk (fun e => hn (hs k e))⟩
theorem But.of_below (h : Below w.heap.size w w') : But S w w' := ⟨h.os, h.tape, h.output, h.size, fun k hk _ => h.block k hk⟩
theorem But.drew (h : But S a w) : But S a w.drew := ⟨h.os, h.tape, h.output, h.size, h.block⟩
theorem But.drewN (h : But S a w) (n : Nat) : But S a (w.drewN n) := ⟨h.os, h.tape, h.output, h.size, h.block⟩
theorem But.alloc (h : But S a w) (o : Obj) : But S a (w.alloc o) :=
  h.trans (S' := fun _ => False) ⟨rfl, rfl, rfl, by simp, fun k hk _ => Below.heap_alloc _ _ _ hk⟩ (fun _ e => e.elim)
theorem But.setCell (h : But S a w) (p : Addr) (u : Value) (hp : S p.block ∨ a.heap.size ≤ p.block) : But S a (w.setCell p u) :=
  h.trans (S' := fun k => k = p.block) ⟨rfl, rfl, rfl, by simp [World.setCell], fun k _ hn => Below.heap_setCell _ _ _ _ hn⟩ (fun i e => by rw [e]; exact hp)
theorem But.below {B : Nat} (h : But S a w) (hs : ∀ i, S i → B ≤ i) (hB : B ≤ a.heap.size) : Below B a w :=
  ⟨h.os, h.tape, h.output, h.size, fun k hk => h.block k (by omega) (fun e => by have := hs k e; omega)⟩
end
end Go.Proofs.Ytfinmfmbbgakhaa.ib

/- Rows of the table of types that walks on slices ask. -/
namespace Go.Proofs.Ytfinmfmbbgakhaa
open Go.RowKit
set_option maxRecDepth 100000

theorem Try.info9 : (Try.prog.info? 9).map (fun i => (i.zero, i.size, i.bytes)) = some (some (.string ByteArray.empty), 1, 16) := by kernel_rfl
theorem Try.info5 : (Try.prog.info? 5).map (fun i => (i.zero, i.size, i.bytes)) = some (some (.int .u8 0), 1, 1) := by kernel_rfl

end Go.Proofs.Ytfinmfmbbgakhaa

/- A region that draws its order, reads, and ends in one forced tail: walked in the text's order, the world behind the draw folded; big loads by a law. -/
namespace Go.Proofs.Ytfinmfmbbgakhaa
open Go Go.RowKit
set_option maxRecDepth 100000

theorem wp_region_still_w {P : Program} {id : Nat} {Q : Exit → Act → World → Prop} {a : Act} {w : World} {l : List Oper} (n : Nat) (hm : P.follows .mixedOrders = true) (hB : Region.lexTailB .any l.toArray n = true)
    (h : wpStill P l.toArray w.drew (fun a' => wpList P l.toArray Q (l.drop n) a' w.drew) (l.take n) a) : (Code.region id l.toArray true).wp P Q a w :=
  wp_region_still_tail n hm hB h

theorem still_value {P : Program} {ops : Array Oper} {w : World} {Q : Act → Prop} {o : Oper} {rest : List Oper} {a : Act} {v : Value} (hg : o.guard = none) (h : (execOp a.eval o).run P w = .ok (.value v) w)
    (hn : wpStill P ops w Q rest (a.put o.dst v)) : wpStill P ops w Q (o :: rest) a := by
  have hw : Region.wanted o (yielded ops a.tmps) = true := by simp [Region.wanted, hg]
  unfold wpStill
  rw [if_pos hw]
  unfold Oper.still
  rw [h]
  exact ⟨rfl, hn⟩

theorem wp_value {P : Program} {o : Oper} {a : Act} {w w' : World} {v : Value} {K : Act → World → Prop} {Q : Exit → Act → World → Prop} (h : (execOp a.eval o).run P w = .ok (.value v) w') (hn : K (a.put o.dst v) w') : o.wp P a w K Q := by
  unfold Oper.wp
  rw [h]
  exact hn

theorem wpList_value {P : Program} {ops : Array Oper} {rest : List Oper} {o : Oper} {a : Act} {w w' : World} {v : Value} {Q : Exit → Act → World → Prop} (hg : o.guard = none) (h : (execOp a.eval o).run P w = .ok (.value v) w')
    (hn : wpList P ops Q rest (a.put o.dst v) w') : wpList P ops Q (o :: rest) a w :=
  wpList_plain hg fun _ hK => wp_value h (hK _ _ hn)

theorem wp_skip {P : Program} {o : Oper} {a : Act} {w w' : World} {K : Act → World → Prop} {Q : Exit → Act → World → Prop} (h : (execOp a.eval o).run P w = .ok .skip w') (hn : K (a.put o.dst undef) w') : o.wp P a w K Q := by
  unfold Oper.wp
  rw [h]
  exact hn

theorem wpList_skip {P : Program} {ops : Array Oper} {rest : List Oper} {o : Oper} {a : Act} {w w' : World} {Q : Exit → Act → World → Prop} (hg : o.guard = none) (h : (execOp a.eval o).run P w = .ok .skip w')
    (hn : wpList P ops Q rest (a.put o.dst undef) w') : wpList P ops Q (o :: rest) a w :=
  wpList_plain hg fun _ hK => wp_skip h (hK _ _ hn)

theorem wpList_value_w {P : Program} {ops : Array Oper} {rest : List Oper} {o : Oper} {a : Act} {w w' : World} {v : Value} {Q : Exit → Act → World → Prop} (hw : Region.wanted o (yielded ops a.tmps) = true) (h : (execOp a.eval o).run P w = .ok (.value v) w')
    (hn : wpList P ops Q rest (a.put o.dst v) w') : wpList P ops Q (o :: rest) a w :=
  wpList_step fun K hK => by
    rw [if_pos hw]
    exact wp_value h (hK _ _ hn)

end Go.Proofs.Ytfinmfmbbgakhaa

/- A letter, so often, as a string: what the statements' data makes. -/
namespace Go.Proofs.Ytfinmfmbbgakhaa.ib
open Go Go.RowKit
set_option maxRecDepth 100000

abbrev Bt := List UInt8
/-- 32 zeros. -/
def zz : Bt := List.replicate 32 0
/-- A letter, so often. -/
def rep (c : UInt8) (n : Nat) : Bt := List.replicate n c
def dat (c : UInt8) : Bt := if c.toNat ≤ 250 then rep c 32 else rep c (c.toNat % 31)
theorem zz_length : zz.length = 32 := by simp [zz]
theorem dat_length {c : UInt8} (h : c.toNat ≤ 250) : (dat c).length = 32 := by unfold dat; rw [if_pos h]; simp [rep]

theorem zeros_cells (z : Nat) : madeCells #[Value.int .u8 0] z = (Lib.byteCells (List.replicate z 0)).toArray := by
  apply Array.ext'
  apply List.ext_getElem?
  intro j
  by_cases hj : j < z <;> simp [madeCells, Lib.byteCells, hj, Nat.mod_one]

theorem make_zeros (e : Int) (z : Nat) (w : World) (he : e = (z : Int)) (hz : z ≤ 1000000) :
    (Instr.makeSlice 82 (.int .i64 e) (.int .i64 e)).run Try.prog w = .ok (.slice (some ⟨w.heap.size, 0, none⟩) z z) (w.alloc (.cells (Lib.byteCells (List.replicate z 0)).toArray 5)) := by
  subst he
  obtain ⟨i0, hi, hz0, hz1, hz2⟩ := info_parts Try.info5
  have hmk := run_make (P := Try.prog) w 82 5 i0 (.int .u8 0) Try.underlying82 hi hz0 .i64 .i64 (z : Int) (z : Int) (by omega) (by omega) (by rw [hz2]; omega) (by omega)
  rw [hz1] at hmk
  rw [← zeros_cells]
  simpa [Value.cells] using hmk

theorem exec_make32 {ρ : Operand → Value} {o : Oper} {w : World} (x y : Operand) (z : Nat) (ho : o.op = .makeSlice 82 x y) (hx : ρ x = .int .i64 (z : Int)) (hy : ρ y = .int .i64 (z : Int)) (hz : z ≤ 1000000) :
    (execOp ρ o).run Try.prog w = .ok (.value (.slice (some ⟨w.heap.size, 0, none⟩) z z)) (w.alloc (.cells (Lib.byteCells (List.replicate z 0)).toArray 5)) := by
  have hr := make_zeros (z : Int) z w rfl hz
  simp [execOp, ho, hx, hy, hr, Result.andThen]

theorem conv_block (P : Bt) (b k : Nat) (t : TypeId) (w : World) (hk : P.length = k) (h : w.heap[b]? = some (.cells (Lib.byteCells P).toArray t (0, 0))) :
    (convert 82 9 (.slice (some ⟨b, 0, none⟩) k k)).run Try.prog w = .ok (.string (str P)) w := by
  subst hk
  refine run_convert_bytes_back (P := Try.prog) w 82 9 5 ⟨b, 0, none⟩ P.length P Try.underlying82 Try.underlying5 Try.underlying9 ?_
  intro j hj
  rw [addr_add, Nat.zero_add, cell_of_row w b j _ _ _ h]
  simp [Lib.byteCells, hj]

theorem conv_part (P : Bt) (cs : Array Value) (b cap : Nat) (t : TypeId) (w : World) (h : w.heap[b]? = some (.cells cs t (0, 0))) (hc : ∀ (j : Nat) (u : Value), (Lib.byteCells P)[j]? = some u → cs[j]? = some u) :
    (convert 82 9 (.slice (some ⟨b, 0, none⟩) P.length cap)).run Try.prog w = .ok (.string (str P)) w := by
  refine run_convert_bytes_back (P := Try.prog) w 82 9 5 ⟨b, 0, none⟩ cap P Try.underlying82 Try.underlying5 Try.underlying9 ?_
  intro j hj
  rw [addr_add, Nat.zero_add, cell_of_row w b j _ _ _ h]
  exact hc j _ (by simp [Lib.byteCells, hj])

def okS (v : Bt) (w : World) (e : Ending) (w' : World) : Prop := e = .returned (.string (str v)) ∧ Below w.heap.size w w'

def lpart (c : UInt8) (k : Nat) : Array Value := (Lib.byteCells (List.replicate k c ++ List.replicate (32 - k) 0)).toArray

theorem lpart_zero (c : UInt8) : lpart c 0 = (Lib.byteCells (List.replicate 32 0)).toArray := rfl
theorem lpart_size (c : UInt8) (k : Nat) (h : k ≤ 32) : (lpart c k).size = 32 := by simp [lpart, Lib.byteCells]; omega
theorem lpart_set (c : UInt8) (k : Nat) (h : k < 32) : (lpart c k).setIfInBounds k (.int .u8 (c.toNat : Int)) = lpart c (k + 1) := by
  unfold lpart Lib.byteCells
  simp only [List.setIfInBounds_toArray, List.map_append, List.map_replicate]
  rw [List.set_append_right _ _ (by simp)]
  congr 1
  rw [show 32 - k = (32 - (k + 1)) + 1 by omega, List.replicate_succ, List.replicate_succ']
  simp
theorem rep_length (c : UInt8) (n : Nat) : (rep c n).length = n := by simp [rep]
theorem lpart_full (c : UInt8) : lpart c 32 = (Lib.byteCells (rep c 32)).toArray := by simp [lpart, rep]

end Go.Proofs.Ytfinmfmbbgakhaa.ib

/- Chains as plain data: live volume, snapshots; what each call does. -/
namespace Go.Proofs.Ytfinmfmbbgakhaa.ch
open Go Go.RowKit Go.Proofs.Ytfinmfmbbgakhaa.ib
set_option maxRecDepth 100000

abbrev Gd := Nat × Nat
structure Sn where
  g : Gd
  bs : List Bt
  hid : Bool
structure CH where
  live : List Bt
  snaps : List Sn

def above (a b : Gd) : Bool := decide (b.1 < a.1) || (decide (a.1 = b.1) && decide (b.2 < a.2))
def CH.last (c : CH) : Gd := match c.snaps.getLast? with
  | none => (0, 0)
  | some s => s.g
def zvol (n : Nat) : List Bt := List.replicate n zz
def CH.base (c : CH) : List Bt := match c.snaps.getLast? with
  | none => zvol c.live.length
  | some s => s.bs
def chNew (n : Nat) : CH := ⟨zvol n, []⟩
def CH.may (c : CH) (g : Gd) : Int := if above g c.last then (if 20 ≤ c.snaps.length then 3 else 0) else 2
def CH.write (c : CH) (k : Int) (s : Bt) : CH × Int := if k < 0 ∨ (c.live.length : Int) ≤ k ∨ s.length ≠ 32 then (c, 2) else (⟨c.live.set k.toNat s, c.snaps⟩, 0)
def CH.snap (c : CH) (g : Gd) : CH × Int := if c.may g = 0 then (⟨c.live, c.snaps ++ [⟨g, c.live, false⟩]⟩, 0) else (c, c.may g)
/-- Blocks put, as long as they rise. -/
def putAll : List Bt → Int → List (Int × Bt) → Option (List Bt)
  | l, _, [] => some l
  | l, p, (k, s) :: r => if k ≤ p ∨ (l.length : Int) ≤ k ∨ s.length ≠ 32 then none else putAll (l.set k.toNat s) k r
def CH.add (c : CH) (g : Gd) (x : List (Int × Bt)) : CH × Int :=
  if c.may g = 0 then (match putAll c.base (-1) x with
    | none => (c, 2)
    | some l => (⟨l, c.snaps ++ [⟨g, l, false⟩]⟩, 0)) else (c, c.may g)
def CH.roll (c : CH) (k : Int) : CH × Int := if k < 0 ∨ (c.snaps.length : Int) < k then (c, 2) else
  (⟨(⟨c.live, c.snaps.take k.toNat⟩ : CH).base, c.snaps.take k.toNat⟩, 0)
def CH.find (c : CH) (g : Gd) : Option Nat := c.snaps.findIdx? fun s => decide (s.g = g)
def hideAt (l : List Sn) (i : Nat) : List Sn := l.modify i fun s => { s with hid := true }
def CH.hide (c : CH) (g : Gd) : CH × Int := match c.find g with
  | none => (c, 5)
  | some i => match c.snaps[i]? with
    | none => (c, 5)
    | some s => if s.hid then (c, 14) else (⟨c.live, hideAt c.snaps i⟩, 0)
def CH.list (c : CH) : List Gd := c.snaps.map (·.g)
def CH.read (c : CH) (g : Gd) : List Bt × Int := match c.find g with
  | none => ([], 5)
  | some i => match c.snaps[i]? with
    | none => ([], 5)
    | some s => if s.hid then ([], 14) else (s.bs, 0)
/-- Where a volume differs from the one ahead. -/
def diffs (p q : List Bt) : List (Int × Bt) := (List.range q.length).filterMap fun i => if q.getD i [] = p.getD i [] then none else some ((i : Int), q.getD i [])
def CH.volAt (c : CH) (k : Nat) : List Bt := match c.snaps[k]? with
  | none => []
  | some s => s.bs
def CH.prev (c : CH) (k : Nat) : List Bt := if k = 0 then zvol c.live.length else c.volAt (k - 1)
def CH.changes (c : CH) (k : Int) : List (Int × Bt) × Int := if k < 0 ∨ (c.snaps.length : Int) ≤ k then ([], 5) else (diffs (c.prev k.toNat) (c.volAt k.toNat), 0)

/-- A chain is well. -/
def volOk (n : Nat) (l : List Bt) : Prop := l.length = n ∧ ∀ v ∈ l, v.length = 32
structure CH.ok (c : CH) : Prop where
  live : volOk c.live.length c.live
  n1 : 1 ≤ c.live.length
  n8 : c.live.length ≤ 8
  snaps : ∀ s ∈ c.snaps, volOk c.live.length s.bs
  few : c.snaps.length ≤ 20
  gds : ∀ s ∈ c.snaps, s.g.1 < 18446744073709551616 ∧ s.g.2 < 18446744073709551616

theorem zvol_ok (n : Nat) : volOk n (zvol n) := ⟨by simp [zvol], fun v hv => by rw [List.eq_of_mem_replicate hv]; exact zz_length⟩
theorem set_ok {n k : Nat} {l : List Bt} {s : Bt} (h : volOk n l) (hs : s.length = 32) : volOk n (l.set k s) := by
  refine ⟨by rw [List.length_set]; exact h.1, fun v hv => ?_⟩
  rcases List.mem_or_eq_of_mem_set hv with h1 | h1
  · exact h.2 v h1
  · rw [h1]; exact hs
theorem CH.ok.base_ok {c : CH} (h : c.ok) : volOk c.live.length c.base := by
  unfold CH.base
  split
  · exact zvol_ok _
  · rename_i s hs
    exact h.snaps s (List.mem_of_getLast? hs)
theorem putAll_ok {n : Nat} : ∀ {x : List (Int × Bt)} {l l' : List Bt} {p : Int}, volOk n l → putAll l p x = some l' → volOk n l'
  | [], l, l', p, h, e => by
    simp only [putAll, Option.some.injEq] at e
    rw [← e]; exact h
  | (k, s) :: r, l, l', p, h, e => by
    unfold putAll at e
    split at e
    · cases e
    · rename_i hc
      exact putAll_ok (set_ok h (by simpa using fun h1 => hc (.inr (.inr h1)))) e

/-! ### What the calls leave -/
theorem may_zero {c : CH} {g : Gd} (h : c.may g = 0) : above g c.last = true ∧ c.snaps.length < 20 := by
  unfold CH.may at h
  split at h
  · split at h
    · cases h
    · exact ⟨by assumption, by omega⟩
  · cases h
theorem last_snoc (l : List Bt) (ss : List Sn) (s : Sn) : (⟨l, ss ++ [s]⟩ : CH).last = s.g := by
  unfold CH.last
  simp
theorem base_snoc (l : List Bt) (ss : List Sn) (s : Sn) : (⟨l, ss ++ [s]⟩ : CH).base = s.bs := by
  unfold CH.base
  simp
theorem base_none (l : List Bt) : (⟨l, []⟩ : CH).base = zvol l.length := rfl
theorem last_none (l : List Bt) : (⟨l, []⟩ : CH).last = (0, 0) := rfl
theorem putAll_nil (l : List Bt) (p : Int) : putAll l p [] = some l := rfl
end Go.Proofs.Ytfinmfmbbgakhaa.ch

/- What the statements' data does. -/
namespace Go.Proofs.Ytfinmfmbbgakhaa.ch
open Go Go.RowKit Go.Proofs.Ytfinmfmbbgakhaa.ib
set_option maxRecDepth 100000

set_option maxRecDepth 100000 in
set_option maxHeartbeats 800000 in
theorem data_any (c : UInt8) (w : World) : Calls Try.prog 14 #[.int .u8 (c.toNat : Int)] w (okS (dat c) w) := by
  have hc0 : (0 : Int) ≤ (c.toNat : Int) := by omega
  have hc1 : (c.toNat : Int) < 256 := by have := c.toNat_lt; omega
  go_enter Try.func14, Try.ntmps14
  go_wp2_with (at_make; refine wpList_value rfl (exec_make32 _ _ 32 rfl rfl rfl (by decide)) ?_; rw [← lpart_zero c])
  have hb0 : Blk (w.alloc (.cells (lpart c 0) 5)) w.heap.size 5 (lpart c 0) := Blk.new _ _ _
  have hB0 : Below w.heap.size w (w.alloc (.cells (lpart c 0) 5)) := (Below.refl _ w).alloc (Nat.le_refl _) _
  have Hb0 := Lib.hid hb0
  have HB0 := Lib.hid hB0
  clear hb0 hB0
  generalize w.alloc (.cells (lpart c 0) 5) = W0 at *
  go_loopw [4] (fun i wr => ∃ k : Nat, k ≤ 32 ∧ i = .int .i64 (k : Int) ∧ Blk wr w.heap.size 5 (lpart c k) ∧ Below w.heap.size w wr) (fun i _ => 32 - (intOf i).toNat)
  case atStart => exact ⟨0, by omega, rfl, Hb0.out, HB0.out⟩
  case round =>
    obtain ⟨k, hk, rfl, hbk, hBk⟩ := hrel
    have HBK := Lib.hid hbk
    have HB := Lib.hid hBk
    by_cases hlt : k < 32
    · have hcell : (wr.cell? ⟨w.heap.size, k, none⟩).isSome = true := by
        rw [hbk.cell k, Array.getElem?_eq_getElem (by rw [lpart_size c k hk]; exact hlt)]
        rfl
      obtain ⟨u, hu⟩ := Option.isSome_iff_exists.1 hcell
      have hf := hbk.frozen k
      clear hbk hBk hcell
      go_wp2_with fail
      go_roundw
      case rel => exact ⟨k + 1, by omega, by go_num, by rw [← lpart_set c k hlt]; exact HBK.out.set_ k _, HB.out.setCell (Nat.le_refl _) _⟩
      case measure => simp [intOf]; omega
    · have hk32 : k = 32 := by omega
      clear hbk hBk hk hlt
      subst hk32
      have hP := HBK.out
      rw [lpart_full] at hP
      have HP := Lib.hid hP
      clear hP
      by_cases h250 : c.toNat ≤ 250
      · have hcv := conv_block (rep c 32) w.heap.size 32 5 wr (rep_length _ _) HP.out
        have hd : dat c = rep c 32 := by unfold dat; rw [if_pos h250]
        have HD := Lib.hid hd
        have h250' : ¬ 250 < (c.toNat : Int) := by omega
        clear hd h250
        go_wp2_with fail
        go_ret
        exact ⟨(by rw [HD.out]; rfl), HB.out⟩
      · have hd : dat c = rep c (c.toNat % 31) := by unfold dat; rw [if_neg h250]
        have HD := Lib.hid hd
        have hm : c.toNat % 31 < 31 := Nat.mod_lt _ (by decide)
        have hcv := conv_part (rep c (c.toNat % 31)) _ w.heap.size 32 5 wr HP.out (by
          intro j u hu
          have hj : j < c.toNat % 31 := by have := (List.getElem?_eq_some_iff.1 hu).1; simpa [Lib.byteCells, rep] using this
          simp only [Lib.byteCells, rep, List.map_replicate, List.getElem?_toArray, List.getElem?_replicate] at hu ⊢
          rw [if_pos hj] at hu
          rw [if_pos (by omega)]
          exact hu)
        rw [rep_length] at hcv
        have h250' : 250 < (c.toNat : Int) := by omega
        have hmi : ((c.toNat : Int) % 31).toNat = c.toNat % 31 := by omega
        have hmi0 : 0 ≤ (c.toNat : Int) % 31 := by omega
        have hmi1 : (c.toNat : Int) % 31 ≤ 32 := by omega
        clear hd h250
        go_wp2_with fail
        go_ret
        exact ⟨(by rw [HD.out]; rfl), HB.out⟩
end Go.Proofs.Ytfinmfmbbgakhaa.ch

/- Lists of texts in memory, read alone. -/
namespace Go.Proofs.Ytfinmfmbbgakhaa.ib
open Go Go.RowKit
set_option maxRecDepth 100000

def b64 (x : Int) : Prop := -9223372036854775808 ≤ x ∧ x ≤ 9223372036854775807
/-- A slice of texts. -/
def TxL (w : World) (A : Option Addr) (ts : List Bt) : Prop :=
  ∀ i (h : i < ts.length), ∃ b o, A = some ⟨b, o, none⟩ ∧ b < w.heap.size ∧ w.cell? ⟨b, o + i, none⟩ = some (.string (str ts[i]))
theorem TxL.kept {w w' : World} {A : Option Addr} {ts : List Bt} (h : TxL w A ts) (hs : w.heap.size ≤ w'.heap.size) (hk : ∀ b o, A = some ⟨b, o, none⟩ → w'.heap[b]? = w.heap[b]?) : TxL w' A ts := by
  intro i hi
  obtain ⟨b, o, h1, h2, h3⟩ := h i hi
  exact ⟨b, o, h1, Nat.lt_of_lt_of_le h2 hs, by rw [World.cell?_of_block (a := ⟨b, o + i, none⟩) (hk b o h1)]; exact h3⟩
theorem TxL.below {w w' : World} {A : Option Addr} {ts : List Bt} (h : TxL w A ts) (hb : Below w.heap.size w w') : TxL w' A ts := by
  intro i hi
  obtain ⟨b, o, h1, h2, h3⟩ := h i hi
  exact ⟨b, o, h1, Nat.lt_of_lt_of_le h2 hb.size, by rw [hb.cell (p := ⟨b, o + i, none⟩) h2]; exact h3⟩
/-- What is answered lies in new memory. -/
def NewA (w w' : World) (A : Option Addr) : Prop := ∀ b o, A = some ⟨b, o, none⟩ → w.heap.size ≤ b ∧ b < w'.heap.size
theorem NewA.none (w w' : World) : NewA w w' none := fun _ _ h => by cases h
end Go.Proofs.Ytfinmfmbbgakhaa.ib

/- Chains' lists in memory; what is asked of the program's calls. -/
namespace Go.Proofs.Ytfinmfmbbgakhaa.ch
open Go Go.RowKit Go.Proofs.Ytfinmfmbbgakhaa.ib
set_option maxRecDepth 100000

def gdB (g : Gd) : Prop := g.1 < 18446744073709551616 ∧ g.2 < 18446744073709551616
def gv (g : Gd) : Value := .agg #[.int .u64 (g.1 : Int), .int .u64 (g.2 : Int)]
/-- A slice of changes. -/
def ChL (w : World) (A : Option Addr) (x : List (Int × Bt)) : Prop :=
  ∀ i (h : i < x.length), ∃ b o, A = some ⟨b, o, none⟩ ∧ b < w.heap.size ∧ w.cell? ⟨b, o + i * 2, none⟩ = some (.int .i64 x[i].1) ∧ w.cell? ⟨b, o + i * 2 + 1, none⟩ = some (.string (str x[i].2)) ∧ b64 x[i].1
theorem ChL.below {w w' : World} {A : Option Addr} {x : List (Int × Bt)} (h : ChL w A x) (hb : Below w.heap.size w w') : ChL w' A x := by
  intro i hi
  obtain ⟨b, o, h1, h2, h3, h4, h5⟩ := h i hi
  exact ⟨b, o, h1, Nat.lt_of_lt_of_le h2 hb.size, by rw [hb.cell (p := ⟨b, o + i * 2, none⟩) h2]; exact h3, by rw [hb.cell (p := ⟨b, o + i * 2 + 1, none⟩) h2]; exact h4, h5⟩
theorem ChL.nil (w : World) (A : Option Addr) : ChL w A [] := fun i h => absurd h (by simp)

def okTx (r : List Bt) (w : World) (e : Ending) (w' : World) : Prop := ∃ A cc, e = .returned (.slice A r.length cc) ∧ TxL w' A r ∧ NewA w w' A ∧ Below w.heap.size w w'
def okTxE (r : List Bt × Int) (w : World) (e : Ending) (w' : World) : Prop := ∃ A cc, e = .returned (.tuple #[.slice A r.1.length cc, .int .i64 r.2]) ∧ TxL w' A r.1 ∧ NewA w w' A ∧ Below w.heap.size w w'
def okChE (r : List (Int × Bt) × Int) (w : World) (e : Ending) (w' : World) : Prop := ∃ A cc, e = .returned (.tuple #[.slice A r.1.length cc, .int .i64 r.2]) ∧ ChL w' A r.1 ∧ NewA w w' A ∧ Below w.heap.size w w'
/-- A slice of guids. -/
def GdL (w : World) (A : Option Addr) (x : List Gd) : Prop :=
  ∀ i (h : i < x.length), ∃ b o, A = some ⟨b, o, none⟩ ∧ b < w.heap.size ∧ w.cell? ⟨b, o + i * 2, none⟩ = some (.int .u64 (x[i].1 : Int)) ∧ w.cell? ⟨b, o + i * 2 + 1, none⟩ = some (.int .u64 (x[i].2 : Int)) ∧ gdB x[i]
theorem GdL.below {w w' : World} {A : Option Addr} {x : List Gd} (h : GdL w A x) (hb : Below w.heap.size w w') : GdL w' A x := by
  intro i hi
  obtain ⟨b, o, h1, h2, h3, h4, h5⟩ := h i hi
  exact ⟨b, o, h1, Nat.lt_of_lt_of_le h2 hb.size, by rw [hb.cell (p := ⟨b, o + i * 2, none⟩) h2]; exact h3, by rw [hb.cell (p := ⟨b, o + i * 2 + 1, none⟩) h2]; exact h4, h5⟩
def okGd (r : List Gd) (w : World) (e : Ending) (w' : World) : Prop := ∃ A cc, e = .returned (.slice A r.length cc) ∧ GdL w' A r ∧ NewA w w' A ∧ Below w.heap.size w w'

def IsT := (Nat → Prop) → World → Nat → CH → Prop
/-- A chain behind a call, and what the call answers. -/
def Aft (Is : IsT) (own : Nat → Prop) (p : Nat) (r : CH × Int) (w : World) (e : Ending) (w' : World) : Prop :=
  e = .returned (.int .i64 r.2) ∧ ∃ own', Is own' w' p r.1 ∧ But own w w' ∧ ∀ j, own' j → own j ∨ w.heap.size ≤ j

def okErr (r : Int) (w : World) (e : Ending) (w' : World) : Prop := e = .returned (.int .i64 r) ∧ Below w.heap.size w w'

/-- What the program's calls do, of chains that lie in memory somehow. -/
structure Impl (Is : IsT) : Prop where
  low : ∀ {own w p d}, Is own w p d → ∀ j, own j → j < w.heap.size
  ok : ∀ {own w p d}, Is own w p d → d.ok
  keep : ∀ {own w w' p d}, Is own w p d → (∀ j, own j → w'.heap[j]? = w.heap[j]?) → w.heap.size ≤ w'.heap.size → Is own w' p d
  new_none : ∀ (b : Int) (w : World), b64 b → b < 1 ∨ 8 < b → Calls Try.prog 8 #[.int .i64 b] w fun e w' => e = .returned (.pointer none) ∧ Below w.heap.size w w'
  new_some : ∀ (n : Nat) (w : World), 1 ≤ n → n ≤ 8 → Calls Try.prog 8 #[.int .i64 (n : Int)] w fun e w' => ∃ p own, e = .returned (.pointer (some ⟨p, 0, none⟩)) ∧ Is own w' p (chNew n) ∧ Below w.heap.size w w' ∧ ∀ j, own j → w.heap.size ≤ j
  write : ∀ {own w p d} (k : Int) (s : Bt), Is own w p d → b64 k → Calls Try.prog 13 #[.pointer (some ⟨p, 0, none⟩), .int .i64 k, .string (str s)] w (Aft Is own p (d.write k s) w)
  snap : ∀ {own w p d} (g : Gd), Is own w p d → gdB g → Calls Try.prog 19 #[.pointer (some ⟨p, 0, none⟩), gv g] w (Aft Is own p (d.snap g) w)
  add : ∀ {own w p d} (g : Gd) (A : Option Addr) (c : Nat) (x : List (Int × Bt)), Is own w p d → gdB g → ChL w A x → x.length ≤ 1000 → (∀ b o, A = some ⟨b, o, none⟩ → ¬ own b) →
    Calls Try.prog 23 #[.pointer (some ⟨p, 0, none⟩), gv g, .slice A x.length c] w (Aft Is own p (d.add g x) w)
  roll : ∀ {own w p d} (k : Int), Is own w p d → b64 k → Calls Try.prog 15 #[.pointer (some ⟨p, 0, none⟩), .int .i64 k] w (Aft Is own p (d.roll k) w)
  hide : ∀ {own w p d} (g : Gd), Is own w p d → gdB g → Calls Try.prog 27 #[.pointer (some ⟨p, 0, none⟩), gv g] w (Aft Is own p (d.hide g) w)
  live : ∀ {own w p d}, Is own w p d → Calls Try.prog 21 #[.pointer (some ⟨p, 0, none⟩)] w (okTx d.live w)
  list : ∀ {own w p d}, Is own w p d → Calls Try.prog 25 #[.pointer (some ⟨p, 0, none⟩)] w (okGd d.list w)
  read : ∀ {own w p d} (g : Gd), Is own w p d → gdB g → Calls Try.prog 24 #[.pointer (some ⟨p, 0, none⟩), gv g] w (okTxE (d.read g) w)
  changes : ∀ {own w p d} (k : Int), Is own w p d → b64 k → Calls Try.prog 22 #[.pointer (some ⟨p, 0, none⟩), .int .i64 k] w (okChE (d.changes k) w)
  copy : ∀ {own w p d}, Is own w p d → Calls Try.prog 11 #[.pointer (some ⟨p, 0, none⟩)] w fun e w' => ∃ q own', e = .returned (.pointer (some ⟨q, 0, none⟩)) ∧ Is own' w' q d ∧ Below w.heap.size w w' ∧ ∀ j, own' j → (own j ∧ j ≠ p) ∨ w.heap.size ≤ j
  at_ : ∀ {own w p d}, Is own w p d → own p
  write1 : ∀ {own w p d} (k : Int) (s : Bt), Is own w p d → b64 k → Calls Try.prog 13 #[.pointer (some ⟨p, 0, none⟩), .int .i64 k, .string (str s)] w fun e w' => Aft Is own p (d.write k s) w e w' ∧ But (fun j => j = p) w w'
  roll1 : ∀ {own w p d} (k : Int), Is own w p d → b64 k → Calls Try.prog 15 #[.pointer (some ⟨p, 0, none⟩), .int .i64 k] w fun e w' => Aft Is own p (d.roll k) w e w' ∧ But (fun j => j = p) w w'
  nwrite : ∀ (k : Int) (s : Bt) (w : World), b64 k → Calls Try.prog 13 #[.pointer none, .int .i64 k, .string (str s)] w (okErr 1 w)
  nsnap : ∀ (g : Gd) (w : World), gdB g → Calls Try.prog 19 #[.pointer none, gv g] w (okErr 1 w)
  nadd : ∀ (g : Gd) (A : Option Addr) (c : Nat) (x : List (Int × Bt)) (w : World), gdB g → ChL w A x → x.length ≤ 1000 → Calls Try.prog 23 #[.pointer none, gv g, .slice A x.length c] w (okErr 1 w)
  nroll : ∀ (k : Int) (w : World), b64 k → Calls Try.prog 15 #[.pointer none, .int .i64 k] w (okErr 1 w)
  nhide : ∀ (g : Gd) (w : World), gdB g → Calls Try.prog 27 #[.pointer none, gv g] w (okErr 1 w)
  nlive : ∀ (w : World), Calls Try.prog 21 #[.pointer none] w (okTx [] w)
  nlist : ∀ (w : World), Calls Try.prog 25 #[.pointer none] w (okGd [] w)
  nread : ∀ (g : Gd) (w : World), gdB g → Calls Try.prog 24 #[.pointer none, gv g] w (okTxE ([], 1) w)
  nchanges : ∀ (k : Int) (w : World), b64 k → Calls Try.prog 22 #[.pointer none, .int .i64 k] w (okChE ([], 1) w)
  ncopy : ∀ (w : World), Calls Try.prog 11 #[.pointer none] w fun e w' => e = .returned (.pointer none) ∧ Below w.heap.size w w'
def HChain : Prop := ∃ Is, Impl Is

/-! ### A chain among other memory: all of it lies behind a mark -/
/-- A chain that is behind B. -/
def Ch (Is : IsT) (w : World) (B p : Nat) (d : CH) : Prop := ∃ own, Is own w p d ∧ ∀ j, own j → B ≤ j
section
variable {Is : IsT} (H : Impl Is) {w w' : World} {B p : Nat} {d : CH}
include H
theorem Ch.below (h : Ch Is w B p d) (hb : Below w.heap.size w w') : Ch Is w' B p d := by
  obtain ⟨own, h1, h2⟩ := h
  exact ⟨own, H.keep h1 (fun j hj => hb.block j (H.low h1 j hj)) hb.size, h2⟩
omit H in
theorem Ch.aft {own : Nat → Prop} {r : CH × Int} {e : Ending} (hB : B ≤ w.heap.size) (h2 : ∀ j, own j → B ≤ j) (h : Aft Is own p r w e w') : e = .returned (.int .i64 r.2) ∧ Ch Is w' B p r.1 ∧ Below B w w' := by
  obtain ⟨he, own', h3, h4, h5⟩ := h
  refine ⟨he, ⟨own', h3, fun j hj => ?_⟩, h4.below h2 hB⟩
  rcases h5 j hj with h | h
  · exact h2 j h
  · omega
/-- What a call answers, and that all behind B alone is turned. -/
def AftB (Is : IsT) (B p : Nat) (r : CH × Int) (w : World) (e : Ending) (w' : World) : Prop := e = .returned (.int .i64 r.2) ∧ Ch Is w' B p r.1 ∧ Below B w w'
theorem c_write (h : Ch Is w B p d) (hB : B ≤ w.heap.size) (k : Int) (s : Bt) (hk : b64 k) : Calls Try.prog 13 #[.pointer (some ⟨p, 0, none⟩), .int .i64 k, .string (str s)] w (AftB Is B p (d.write k s) w) := by
  obtain ⟨own, h1, h2⟩ := h
  exact (H.write k s h1 hk).mono fun e w' ha => Ch.aft hB h2 ha
theorem c_snap (h : Ch Is w B p d) (hB : B ≤ w.heap.size) (g : Gd) (hg : gdB g) : Calls Try.prog 19 #[.pointer (some ⟨p, 0, none⟩), gv g] w (AftB Is B p (d.snap g) w) := by
  obtain ⟨own, h1, h2⟩ := h
  exact (H.snap g h1 hg).mono fun e w' ha => Ch.aft hB h2 ha
theorem c_roll (h : Ch Is w B p d) (hB : B ≤ w.heap.size) (k : Int) (hk : b64 k) : Calls Try.prog 15 #[.pointer (some ⟨p, 0, none⟩), .int .i64 k] w (AftB Is B p (d.roll k) w) := by
  obtain ⟨own, h1, h2⟩ := h
  exact (H.roll k h1 hk).mono fun e w' ha => Ch.aft hB h2 ha
theorem c_hide (h : Ch Is w B p d) (hB : B ≤ w.heap.size) (g : Gd) (hg : gdB g) : Calls Try.prog 27 #[.pointer (some ⟨p, 0, none⟩), gv g] w (AftB Is B p (d.hide g) w) := by
  obtain ⟨own, h1, h2⟩ := h
  exact (H.hide g h1 hg).mono fun e w' ha => Ch.aft hB h2 ha
/-- .. and ahead of E. -/
def ChU (Is : IsT) (w : World) (B E p : Nat) (d : CH) : Prop := ∃ own, Is own w p d ∧ ∀ j, own j → B ≤ j ∧ j < E
theorem Ch.upto (h : Ch Is w B p d) : ChU Is w B w.heap.size p d := by
  obtain ⟨own, h1, h2⟩ := h
  exact ⟨own, h1, fun j hj => ⟨h2 j hj, H.low h1 j hj⟩⟩
theorem ChU.below {E : Nat} (h : ChU Is w B E p d) (hb : Below w.heap.size w w') : ChU Is w' B E p d := by
  obtain ⟨own, h1, h2⟩ := h
  exact ⟨own, H.keep h1 (fun j hj => hb.block j (H.low h1 j hj)) hb.size, h2⟩
omit H in
theorem ChU.ch {E : Nat} (h : ChU Is w B E p d) : Ch Is w B p d := by
  obtain ⟨own, h1, h2⟩ := h
  exact ⟨own, h1, fun j hj => (h2 j hj).1⟩
theorem c_add {E : Nat} (h : ChU Is w B E p d) (hB : B ≤ w.heap.size) (g : Gd) (hg : gdB g) (A : Option Addr) (c : Nat) (x : List (Int × Bt)) (hx : ChL w A x) (hl : x.length ≤ 1000) (hA : ∀ b o, A = some ⟨b, o, none⟩ → b < B ∨ E ≤ b) :
    Calls Try.prog 23 #[.pointer (some ⟨p, 0, none⟩), gv g, .slice A x.length c] w (AftB Is B p (d.add g x) w) := by
  obtain ⟨own, h1, h2⟩ := h
  refine (H.add g A c x h1 hg hx hl (fun b o e ho => ?_)).mono fun e w' ha => Ch.aft hB (fun j hj => (h2 j hj).1) ha
  have := h2 b ho
  rcases hA b o e with h | h <;> omega
theorem c_live (h : Ch Is w B p d) : Calls Try.prog 21 #[.pointer (some ⟨p, 0, none⟩)] w (okTx d.live w) := by
  obtain ⟨own, h1, h2⟩ := h
  exact H.live h1
theorem c_list (h : Ch Is w B p d) : Calls Try.prog 25 #[.pointer (some ⟨p, 0, none⟩)] w (okGd d.list w) := by
  obtain ⟨own, h1, h2⟩ := h
  exact H.list h1
theorem c_read (h : Ch Is w B p d) (g : Gd) (hg : gdB g) : Calls Try.prog 24 #[.pointer (some ⟨p, 0, none⟩), gv g] w (okTxE (d.read g) w) := by
  obtain ⟨own, h1, h2⟩ := h
  exact H.read g h1 hg
theorem c_changes (h : Ch Is w B p d) (k : Int) (hk : b64 k) : Calls Try.prog 22 #[.pointer (some ⟨p, 0, none⟩), .int .i64 k] w (okChE (d.changes k) w) := by
  obtain ⟨own, h1, h2⟩ := h
  exact H.changes k h1 hk
theorem c_ok (h : Ch Is w B p d) : d.ok := by
  obtain ⟨own, h1, h2⟩ := h
  exact H.ok h1
end
end Go.Proofs.Ytfinmfmbbgakhaa.ch

