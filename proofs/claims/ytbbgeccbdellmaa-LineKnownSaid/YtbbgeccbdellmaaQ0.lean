/- Str, LgPure, Ints, Blk, ICells, OwnKit, AppAt, LgMem, LgOwn, LgEnt, LgEq, LgChk, LgLine, LgLines. -/
import Derived.Below
import Derived.Lib.Hide
import Derived.Lib.Strings
import Derived.Test.YtbbgeccbdellmaaProg
import Derived.OpenShut
import Derived.Deep.Slices
import Derived.Deep.SlicePairs
import Derived.Deep.Fields
import Derived.ChangeSlices
import Derived.ChangeSame
import Derived.Maps.AppendAt
import Derived.WalkKit
import Derived.OwnWalk
import Derived.Deep.Draws
import Derived.Tactics
import Derived.KernelRfl
import Derived.WalkSpells
import Derived.WalkLawsBesides
import Derived.Laws.StructEq
import Derived.Laws.Cover2
import Derived.BigQuiet
import Derived.LoopTactic
import Derived.Lib.QuietBelow
import Derived.Deep.DeepCutAuto
set_option linter.unusedVariables false
set_option linter.unusedSimpArgs false
/- Strings of the program as lists of bytes; and small words that all walks use. -/
namespace Go.Proofs.Ytbbgeccbdellmaa
open Go Go.RowKit
set_option maxRecDepth 100000

def str (l : List UInt8) : ByteArray := ⟨l.toArray⟩
def bl (s : ByteArray) : List UInt8 := s.data.toList

theorem bl_str (l : List UInt8) : bl (str l) = l := by simp [bl, str]
theorem str_bl (s : ByteArray) : str (bl s) = s := by obtain ⟨⟨l⟩⟩ := s; rfl
theorem str_size (l : List UInt8) : (str l).size = l.length := by simp [str, ByteArray.size]
theorem bl_len (s : ByteArray) : (bl s).length = s.size := by obtain ⟨⟨l⟩⟩ := s; simp [bl, ByteArray.size]
theorem str_inj {l m : List UInt8} (h : str l = str m) : l = m := by
  have := congrArg bl h
  rwa [bl_str, bl_str] at this

theorem toList_bl (s : ByteArray) : s.toList = bl s := Lib.toList_data s
theorem bl_extract (s : ByteArray) (a b : Nat) : bl (s.extract a b) = ((bl s).drop a).take (b - a) := Lib.extract_data s a b
theorem bl_upto (s : ByteArray) (k : Nat) : bl (s.extract 0 k) = (bl s).take k := by rw [bl_extract]; simp
theorem bl_from (s : ByteArray) (k : Nat) : bl (s.extract k s.size) = (bl s).drop k := by
  rw [bl_extract, List.take_of_length_le]
  rw [List.length_drop, bl_len]; omega
theorem beq_bl (s : ByteArray) (l : List UInt8) : (s.toList == (str l).toList) = decide (bl s = l) := by
  rw [toList_bl, toList_bl, bl_str, Bool.eq_iff_iff]; simp

theorem ofNat_small (k : Nat) (h : k < 256) : (UInt8.ofNat k).toNat = k := by
  simp [UInt8.toNat_ofNat']; omega

theorem addr_add (b o j : Nat) : (⟨b, o, none⟩ : Addr).add j = ⟨b, o + j, none⟩ := by
  unfold Addr.add
  split
  · subst_vars; rfl
  · rfl

theorem below_step {w A B : World} (h : Below w.heap.size w A) (g : Below A.heap.size A B) : Below w.heap.size w B := h.trans (g.mono h.size)
theorem below_new {w A : World} (h : Below w.heap.size w A) (o : Obj) : Below w.heap.size w (A.alloc o) := h.alloc h.size o

def okTrue (w : World) (e : Ending) (w' : World) : Prop := e = .returned (.bool true) ∧ Below w.heap.size w w'
def okStr (r : ByteArray) (w : World) (e : Ending) (w' : World) : Prop := e = .returned (.string r) ∧ Below w.heap.size w w'

end Go.Proofs.Ytbbgeccbdellmaa

/- Entries of a log as plain data: which may be, which fit, how lists are joined, what they say. -/
namespace Go.Proofs.Ytbbgeccbdellmaa.lg
set_option maxRecDepth 100000

/-- An entry: its term, its kind, its guid's epoch and count. -/
structure En where
  t : Nat
  k : Int
  e : Nat
  c : Nat
deriving DecidableEq
abbrev Gd := Nat × Nat
def gdB (g : Gd) : Prop := g.1 < 18446744073709551616 ∧ g.2 < 18446744073709551616
structure enB (x : En) : Prop where
  t : x.t < 18446744073709551616
  k : -9223372036854775808 ≤ x.k ∧ x.k ≤ 9223372036854775807
  e : x.e < 18446744073709551616
  c : x.c < 18446744073709551616

/-- Whether an entry may be, whatever is ahead of it. -/
def mayE (x : En) : Bool := decide (1 ≤ x.t) && (if x.k = 3 then decide (1 ≤ x.e) && decide (1 ≤ x.c) else (decide (x.k = 1) || decide (x.k = 2)) && (decide (x.e = 0) && decide (x.c = 0)))
def dE : En := ⟨0, 0, 0, 0⟩
/-- The term ahead of the i-th one (from 0 on). -/
def aheadT (l : List En) (i : Nat) : Nat := if i = 0 then 0 else (l.getD (i - 1) dE).t
def goodAt (l : List En) (i : Nat) : Bool := decide (aheadT l i ≤ (l.getD i dE).t) && mayE (l.getD i dE)
def allGood (l : List En) : Bool := (List.range l.length).all (goodAt l)
def lCheck (l : List En) : Int := if 300 < l.length then 3 else if allGood l then 0 else 2
theorem good_no {l : List En} {i : Nat} (hi : i < l.length) (h : goodAt l i = false) : allGood l = false := by
  unfold allGood
  rw [List.all_eq_false]
  exact ⟨i, List.mem_range.2 hi, by simp [h]⟩
theorem good_yes {l : List En} (h : ∀ i, i < l.length → goodAt l i = true) : allGood l = true := by
  unfold allGood
  rw [List.all_eq_true]
  intro i hi
  exact h i (List.mem_range.1 hi)
theorem good_all {l : List En} (h : allGood l = true) (i : Nat) (hi : i < l.length) : goodAt l i = true := List.all_eq_true.1 h i (List.mem_range.2 hi)
theorem check_ok {l : List En} : lCheck l = 0 ↔ l.length ≤ 300 ∧ allGood l = true := by
  unfold lCheck
  split
  · constructor
    · intro h; cases h
    · intro h; omega
  · split
    · constructor
      · intro _; exact ⟨by omega, by assumption⟩
      · intro _; rfl
    · rename_i h1 h2
      constructor
      · intro h; cases h
      · intro h; exact absurd h.2 h2

def lastT (l : List En) : Nat := if l.length = 0 then 0 else (l.getD (l.length - 1) dE).t
def lFits (l : List En) (p : Int) (t : Nat) : Bool := if p = 0 then decide (t = 0) else decide (1 ≤ p) && decide (p ≤ (l.length : Int)) && decide ((l.getD (p - 1).toNat dE).t = t)
def lNewer (t : Nat) (n : Int) (l : List En) : Bool := decide (lastT l < t) || (decide (t = lastT l) && decide ((l.length : Int) ≤ n))

/-- Whether the i-th of more is not there behind the p first ones. -/
def differ (l : List En) (p : Nat) (more : List En) (i : Nat) : Bool := !(decide (p + i < l.length) && decide ((l.getD (p + i) dE).t = (more.getD i dE).t))
def firstD (l : List En) (p : Nat) (more : List En) : Option Nat := (List.range more.length).find? (differ l p more)
def lJoin (l : List En) (p : Int) (more : List En) : List En :=
  if p < 0 ∨ (l.length : Int) < p then l else
  match firstD l p.toNat more with
  | none => l
  | some i => l.take (p.toNat + i) ++ more.drop i
theorem firstD_none {l : List En} {p : Nat} {more : List En} (h : ∀ i, i < more.length → differ l p more i = false) : firstD l p more = none := by
  unfold firstD
  rw [List.find?_eq_none]
  intro i hi
  simp [h i (List.mem_range.1 hi)]
theorem firstD_some {l : List En} {p : Nat} {more : List En} {i : Nat} (hi : i < more.length) (hd : differ l p more i = true) (h : ∀ j, j < i → differ l p more j = false) : firstD l p more = some i := by
  unfold firstD
  rw [List.find?_range_eq_some]
  exact ⟨hd, List.mem_range.2 hi, fun j hj => by simp [h j hj]⟩
theorem join_out {l : List En} {p : Int} {more : List En} (h : p < 0 ∨ (l.length : Int) < p) : lJoin l p more = l := by
  unfold lJoin
  rw [if_pos h]
theorem join_none {l : List En} {p : Nat} {more : List En} (h : ∀ i, i < more.length → differ l p more i = false) : lJoin l p more = l := by
  unfold lJoin
  split
  · rfl
  · rw [Int.toNat_natCast, firstD_none h]
theorem join_some {l : List En} {p : Nat} {more : List En} {i : Nat} (hp : p ≤ l.length) (hi : i < more.length) (hd : differ l p more i = true) (h : ∀ j, j < i → differ l p more j = false) : lJoin l p more = l.take (p + i) ++ more.drop i := by
  unfold lJoin
  rw [if_neg (by omega), Int.toNat_natCast, firstD_some hi hd h]
theorem differ_room {l : List En} {p : Nat} {more : List En} {i : Nat} (hp : p ≤ l.length) (h : ∀ j, j < i → differ l p more j = false) : p + i ≤ l.length := by
  cases i with
  | zero => omega
  | succ n =>
    have := h n (by omega)
    simp [differ] at this
    omega

/-! ### What entries say -/
def above (a b : Gd) : Bool := decide (b.1 < a.1) || (decide (a.1 = b.1) && decide (b.2 < a.2))
/-- What is known. -/
structure Ln where
  ep : Nat
  bf : Nat
  ls : Bool
  gs : List Gd
deriving DecidableEq
def ln0 : Ln := ⟨0, 0, false, []⟩
def behind (gs : List Gd) (g : Gd) : Bool := if gs.length = 0 then true else above g (gs.getD (gs.length - 1) (0, 0))
def says (L : Ln) (x : En) : Ln :=
  if x.k = 1 then ⟨x.t, L.gs.length, false, L.gs⟩
  else if x.k = 2 then { L with ls := L.ls || decide (x.t = L.ep) }
  else if x.k = 3 then if x.t = L.ep ∧ x.e = x.t ∧ behind L.gs (x.e, x.c) = true then { L with gs := L.gs ++ [(x.e, x.c)] } else L
  else L
def foldN (l : List En) (n : Nat) : Ln := (l.take n).foldl says ln0
def lFold (l : List En) (c : Int) : Ln := foldN l c.toNat
theorem fold_zero (l : List En) : foldN l 0 = ln0 := by simp [foldN]
theorem fold_succ (l : List En) (n : Nat) (h : n < l.length) : foldN l (n + 1) = says (foldN l n) l[n] := by
  unfold foldN
  rw [List.take_succ_eq_append_getElem h, List.foldl_append]
  rfl
theorem fold_all (l : List En) (n : Nat) (h : l.length ≤ n) : foldN l n = foldN l l.length := by
  unfold foldN
  rw [List.take_of_length_le h, List.take_of_length_le (Nat.le_refl _)]
theorem fold_min (l : List En) (n : Nat) : foldN l n = foldN l (min n l.length) := by
  by_cases h : l.length ≤ n
  · rw [fold_all l n h, Nat.min_eq_right h]
  · rw [Nat.min_eq_left (by omega)]
theorem says_len (L : Ln) (x : En) : L.gs.length ≤ (says L x).gs.length ∧ (says L x).gs.length ≤ L.gs.length + 1 := by
  unfold says
  split
  · simp
  · split
    · simp
    · split
      · split <;> simp
      · simp
theorem fold_len (l : List En) : ∀ n, n ≤ l.length → (foldN l n).gs.length ≤ n
  | 0, _ => by simp [foldN, ln0]
  | n + 1, h => by
    rw [fold_succ l n (by omega)]
    have := fold_len l n (by omega)
    have := (says_len (foldN l n) l[n]).2
    omega
theorem fold_bf (l : List En) : ∀ n, n ≤ l.length → (foldN l n).bf ≤ (foldN l n).gs.length
  | 0, _ => by simp [foldN, ln0]
  | n + 1, h => by
    rw [fold_succ l n (by omega)]
    have h0 := fold_bf l n (by omega)
    have h1 := (says_len (foldN l n) l[n]).1
    unfold says at h1 ⊢
    split
    · simp
    · split
      · exact h0
      · split
        · split
          · simp; omega
          · exact h0
        · exact h0
/-- Bounds of what is known. -/
structure lnB (L : Ln) : Prop where
  ep : L.ep < 18446744073709551616
  gs : ∀ g ∈ L.gs, gdB g
theorem says_b {L : Ln} {x : En} (h : lnB L) (hx : enB x) : lnB (says L x) := by
  unfold says
  split
  · exact ⟨hx.t, h.gs⟩
  · split
    · exact ⟨h.ep, h.gs⟩
    · split
      · split
        · exact ⟨h.ep, fun g hg => by
            rcases List.mem_append.1 hg with h1 | h1
            · exact h.gs g h1
            · simp only [List.mem_singleton] at h1
              subst h1
              exact ⟨hx.e, hx.c⟩⟩
        · exact h
      · exact h
theorem fold_b (l : List En) (hl : ∀ x ∈ l, enB x) : ∀ n, n ≤ l.length → lnB (foldN l n)
  | 0, _ => ⟨by simp [foldN, ln0], by simp [foldN, ln0]⟩
  | n + 1, h => by
    rw [fold_succ l n (by omega)]
    exact says_b (fold_b l hl n (by omega)) (hl _ (List.getElem_mem _))
end Go.Proofs.Ytbbgeccbdellmaa.lg

/- Lists of numbers in memory: that came in, that the call made; what comes in. -/
namespace Go.Proofs.Ytbbgeccbdellmaa.ib
open Go Go.RowKit Go.ChangeShapes Go.WideShapes Go.Deep
set_option maxRecDepth 100000

def i64B (x : Int) : Prop := -9223372036854775808 ≤ x ∧ x ≤ 9223372036854775807

/-- A slice of numbers. -/
def IntsAt (w : World) (a : Option Addr) (zs : List Int) : Prop :=
  ∀ i (h : i < zs.length), ∃ b o, a = some ⟨b, o, none⟩ ∧ b < w.heap.size ∧ w.cell? ⟨b, o + i, none⟩ = some (.int .i64 zs[i]) ∧ i64B zs[i]

theorem IntsAt.below {w w' : World} {a : Option Addr} {zs : List Int} (h : IntsAt w a zs) (hb : Below w.heap.size w w') : IntsAt w' a zs := by
  intro i hi
  obtain ⟨b, o, h1, h2, h3, h4⟩ := h i hi
  exact ⟨b, o, h1, Nat.lt_of_lt_of_le h2 hb.size, by rw [hb.cell (p := ⟨b, o + i, none⟩) h2]; exact h3, h4⟩
theorem IntsAt.nil (w : World) (a : Option Addr) : IntsAt w a [] := fun i h => absurd h (by simp)
theorem IntsAt.mem {w : World} {a : Option Addr} {zs : List Int} (h : IntsAt w a zs) : ∀ z ∈ zs, i64B z := by
  intro z hz
  obtain ⟨i, hi, rfl⟩ := List.getElem_of_mem hz
  obtain ⟨_, _, _, _, _, h4⟩ := h i hi
  exact h4
theorem IntsAt.take {w : World} {a : Option Addr} {zs : List Int} (h : IntsAt w a zs) (n : Nat) : IntsAt w a (zs.take n) := fun i hi => by
  have := h i (by simp at hi; omega)
  simpa using this

/-- A slice of numbers that the call made. -/
def OInts (w : World) (B : Nat) (v : Value) (zs : List Int) : Prop := w.ownsRow B 3 1 v zs.length (zs.map (Value.int .i64))
theorem int_one (z : Int) : ∀ u ∈ ([Value.int .i64 z] : List Value), u.oneCell' = true := by
  intro u hu
  simp at hu
  subst hu
  rfl
theorem infoInt : (Try.prog.info? 3).map (fun i => (i.zero, i.size, i.bytes)) = some (some (.int .i64 0), 1, 8) := by kernel_rfl

theorem OInts.view {w : World} {B : Nat} {v : Value} {zs : List Int} (h : OInts w B v zs) (hz : ∀ z ∈ zs, i64B z) : ∃ a c, v = .slice a zs.length c ∧ IntsAt w a zs ∧ ∀ b o, a = some ⟨b, o, none⟩ → B ≤ b ∧ b < w.heap.size := by
  rcases h.2 with ⟨rfl, h0⟩ | ⟨g, cap, cur, rfl, hg, hh, hcc, hm, hcs, hcur⟩
  · obtain rfl : zs = [] := List.length_eq_zero_iff.1 h0
    exact ⟨none, 0, rfl, (fun i h => by simp at h), fun b o h => by cases h⟩
  · refine ⟨some ⟨g, 0, none⟩, cap, rfl, fun i hi => ⟨g, 0, rfl, (Array.getElem?_eq_some_iff.1 hh).1, ?_, hz _ (List.getElem_mem hi)⟩, fun b o h => ?_⟩
    · rw [Nat.zero_add, cell_of_row w g i cur 3 (0, 0) hh]
      have h3 : (cur.toList.take (zs.length * 1))[i]? = some (.int .i64 zs[i]) := by rw [hcur]; simp [hi]
      rw [List.getElem?_take] at h3
      split at h3
      · simpa using h3
      · cases h3
    · simp only [Option.some.injEq, Addr.mk.injEq, and_true] at h
      obtain ⟨rfl, _⟩ := h
      exact ⟨hg, (Array.getElem?_eq_some_iff.1 hh).1⟩

/-! ### What comes in -/
theorem spot0 {w : World} {a : Addr} {v : Value} (h : w.cell? (a.add 0) = some v) : ∃ b o, a = ⟨b, o, none⟩ ∧ b < w.heap.size := by
  have hs := World.cell?_spot h
  obtain ⟨b, o, s⟩ := a
  have hs0 : s = none := by simpa [Addr.add] using hs
  subst hs0
  exact ⟨b, o, rfl, World.block_lt_of_cell? w _ h⟩

theorem choose_list {α : Type} {p : Nat → α → Prop} : ∀ (n : Nat), (∀ i, i < n → ∃ x, p i x) → ∃ l : List α, l.length = n ∧ ∀ i (h : i < l.length), p i l[i]
  | 0, _ => ⟨[], rfl, fun i h => absurd h (by simp)⟩
  | n + 1, h => by
    obtain ⟨l, hl, hp⟩ := choose_list n (fun i hi => h i (by omega))
    obtain ⟨x, hx⟩ := h n (by omega)
    refine ⟨l ++ [x], by simp [hl], fun i hi => ?_⟩
    by_cases hin : i < l.length
    · rw [List.getElem_append_left hin]
      exact hp i hin
    · have : i = l.length := by simp at hi; omega
      subst this
      rw [List.getElem_append_right (Nat.le_refl _)]
      simpa [hl] using hx

section
variable {H : Type} {enc : TypeId × Value → H} {w : World} {held : Bool} {a : Option Addr} {l c : Nat} {d : DataW H} {pl : List MemPlace}

end
end Go.Proofs.Ytbbgeccbdellmaa.ib

/- A block that is known whole; all but some blocks as it was. -/
namespace Go.Proofs.Ytbbgeccbdellmaa.ib
open Go Go.RowKit
set_option maxRecDepth 100000

/-- A block that is known whole. -/
def Blk (w : World) (g : Nat) (t : TypeId) (cs : Array Value) : Prop := w.heap[g]? = some (.cells cs t (0, 0))
section
variable {w w' : World} {g : Nat} {t : TypeId} {cs : Array Value}
theorem Blk.lt (h : Blk w g t cs) : g < w.heap.size := by
  unfold Blk at h
  exact (Array.getElem?_eq_some_iff.1 h).1
theorem Blk.cell (h : Blk w g t cs) (i : Nat) : w.cell? ⟨g, i, none⟩ = cs[i]? := cell_of_row w g i cs t (0, 0) h
theorem Blk.frozen (h : Blk w g t cs) (i : Nat) : w.frozen? ⟨g, i, none⟩ = false := by
  unfold Blk at h
  simp [World.frozen?, h]
theorem Blk.new (w : World) (t : TypeId) (cs : Array Value) : Blk (w.alloc (.cells cs t)) w.heap.size t cs := heap_alloc_new w _
theorem Blk.of_block (h : Blk w g t cs) (hb : w'.heap[g]? = w.heap[g]?) : Blk w' g t cs := hb.trans h
theorem Blk.below (h : Blk w g t cs) (hb : Below w.heap.size w w') : Blk w' g t cs := h.of_block (hb.block _ h.lt)
theorem Blk.set_ (h : Blk w g t cs) (i : Nat) (u : Value) : Blk (w.setCell ⟨g, i, none⟩ u) g t (cs.setIfInBounds i u) := heap_setCell_same w g i cs t u h
end

/-- w' is w but for the blocks of S, and new ones. -/
structure But (S : Nat → Prop) (w w' : World) : Prop where
  os : w'.os = w.os
  tape : w'.tape = w.tape
  output : w'.output = w.output
  size : w.heap.size ≤ w'.heap.size
  block : ∀ k, k < w.heap.size → ¬ S k → w'.heap[k]? = w.heap[k]?

section
variable {S S' : Nat → Prop} {a b c w w' : World}
theorem But.refl (S : Nat → Prop) (w : World) : But S w w := ⟨rfl, rfl, rfl, Nat.le_refl _, fun _ _ _ => rfl⟩
theorem But.trans (h : But S a b) (k : But S' b c) (hs : ∀ i, S' i → S i ∨ a.heap.size ≤ i) : But S a c :=
  ⟨k.os.trans h.os, k.tape.trans h.tape, k.output.trans h.output, Nat.le_trans h.size k.size, fun i hi hn => by
    refine (k.block i (Nat.lt_of_lt_of_le hi h.size) (fun e => ?_)).trans (h.block i hi hn)
    rcases hs i e with h1 | h1
    · exact hn h1
    · omega⟩
theorem But.mono (h : But S w w') (hs : ∀ i, S i → S' i) : But S' w w' := ⟨h.os, h.tape, h.output, h.size, fun k hk hn => h.block k hk (fun e => hn (hs k e))⟩
theorem But.of_below (h : Below w.heap.size w w') : But S w w' := ⟨h.os, h.tape, h.output, h.size, fun k hk _ => h.block k hk⟩
theorem But.drew (h : But S a w) : But S a w.drew := ⟨h.os, h.tape, h.output, h.size, h.block⟩
theorem But.drewN (h : But S a w) (n : Nat) : But S a (w.drewN n) := ⟨h.os, h.tape, h.output, h.size, h.block⟩
theorem But.alloc (h : But S a w) (o : Obj) : But S a (w.alloc o) :=
  h.trans (S' := fun _ => False) ⟨rfl, rfl, rfl, by simp, fun k hk _ => Below.heap_alloc _ _ _ hk⟩ (fun _ e => e.elim)
theorem But.setCell (h : But S a w) (p : Addr) (u : Value) (hp : S p.block ∨ a.heap.size ≤ p.block) : But S a (w.setCell p u) :=
  h.trans (S' := fun k => k = p.block) ⟨rfl, rfl, rfl, by simp [World.setCell], fun k _ hn => Below.heap_setCell _ _ _ _ hn⟩ (fun i e => by rw [e]; exact hp)
theorem But.below {B : Nat} (h : But S a w) (hs : ∀ i, S i → B ≤ i) (hB : B ≤ a.heap.size) : Below B a w :=
  ⟨h.os, h.tape, h.output, h.size, fun k hk => h.block k (by omega) (fun e => by have := hs k e; omega)⟩
end
end Go.Proofs.Ytbbgeccbdellmaa.ib

/- Lists of numbers in memory: literals, what is new, what is kept. -/
namespace Go.Proofs.Ytbbgeccbdellmaa.ib
open Go Go.RowKit
set_option maxRecDepth 100000

def ncells (cs : List Int) : Array Value := (cs.map (Value.int .i64)).toArray
theorem ncells_at (cs : List Int) (i : Nat) (h : i < cs.length) : (ncells cs)[i]? = some (.int .i64 cs[i]) := by simp [ncells, h]
theorem ncells_size (cs : List Int) : (ncells cs).size = cs.length := by simp [ncells]
theorem ncells_set (cs : List Int) (i : Nat) (v : Int) : (ncells cs).setIfInBounds i (.int .i64 v) = ncells (cs.set i v) := by
  unfold ncells
  rw [List.setIfInBounds_toArray, List.map_set]
theorem ncells_new (n : Nat) : madeCells #[.int .i64 0] n = ncells (List.replicate n 0) := by
  apply Array.ext
  · simp [size_madeCells, ncells]
  · intro j h1 h2
    have e : (ncells (List.replicate n 0))[j]? = some (.int .i64 0) := by
      have hj : j < n := by simpa [ncells] using h2
      rw [ncells_at _ _ (by simpa using hj), List.getElem_replicate]
    rw [Array.getElem?_eq_getElem h2] at e
    rw [Option.some.inj e]
    simp [madeCells, Nat.mod_one]
theorem Blk.nums {w : World} {g : Nat} {cs : List Int} (h : Blk w g 3 (ncells cs)) (hz : ∀ z ∈ cs, i64B z) : IntsAt w (some ⟨g, 0, none⟩) cs := fun i hi =>
  ⟨g, 0, rfl, h.lt, by rw [Nat.zero_add, h.cell i]; exact ncells_at cs i hi, hz _ (List.getElem_mem hi)⟩
theorem nums_new (W : World) (zs : List Int) (hz : ∀ z ∈ zs, i64B z) : IntsAt (W.alloc (.cells (ncells zs) 3)) (some ⟨W.heap.size, 0, none⟩) zs := Blk.nums (Blk.new W 3 (ncells zs)) hz
/-- A bool; a number; nothing that was there is changed. -/
def endB (r : Bool) (w : World) (e : Ending) (w' : World) : Prop := e = .returned (.bool r) ∧ Below w.heap.size w w'
def endI (r : Int) (w : World) (e : Ending) (w' : World) : Prop := e = .returned (.int .i64 r) ∧ Below w.heap.size w w'
/-- A list that is new, and may be written. -/
structure New (w w' : World) (A : Option Addr) (r : List Int) (cc : Nat) : Prop where
  ints : IntsAt w' A r
  free : ∀ i, i < r.length → ∀ b o, A = some ⟨b, o, none⟩ → w'.frozen? ⟨b, o + i, none⟩ = false
  new : ∀ b o, A = some ⟨b, o, none⟩ → w.heap.size ≤ b ∧ b < w'.heap.size
  cap : r.length ≤ cc
  nil : A = none → r.length = 0 ∧ cc = 0
/-- A list, with its room. -/
structure SlAt (w : World) (A : Option Addr) (l : List Int) (c : Nat) : Prop where
  ints : IntsAt w A l
  cap : l.length ≤ c
  nil : A = none → l.length = 0 ∧ c = 0
theorem SlAt.below {w w' : World} {A : Option Addr} {l : List Int} {c : Nat} (h : SlAt w A l c) (hb : Below w.heap.size w w') : SlAt w' A l c := ⟨h.ints.below hb, h.cap, h.nil⟩
theorem New.sl {w w' : World} {A : Option Addr} {r : List Int} {cc : Nat} (h : New w w' A r cc) : SlAt w' A r cc := ⟨h.ints, h.cap, h.nil⟩
theorem SlAt.none (w : World) : SlAt w none [] 0 := ⟨IntsAt.nil _ _, Nat.le_refl _, fun _ => ⟨rfl, rfl⟩⟩
theorem sl_new (W : World) (zs : List Int) (hz : ∀ z ∈ zs, i64B z) : SlAt (W.alloc (.cells (ncells zs) 3)) (some ⟨W.heap.size, 0, Option.none⟩) zs zs.length := ⟨nums_new W zs hz, Nat.le_refl _, fun h => by cases h⟩
def endL (r : List Int) (w : World) (e : Ending) (w' : World) : Prop := ∃ A cc, e = .returned (.slice A r.length cc) ∧ New w w' A r cc ∧ Below w.heap.size w w'
def endP (r : List Int × Int) (w : World) (e : Ending) (w' : World) : Prop := ∃ A cc, e = .returned (.tuple #[.slice A r.1.length cc, .int .i64 r.2]) ∧ New w w' A r.1 cc ∧ Below w.heap.size w w'
theorem New.empty (w w' : World) : New w w' none [] 0 := ⟨IntsAt.nil _ _, fun _ h => absurd h (by simp), (fun _ _ h => by cases h), Nat.le_refl _, fun _ => ⟨rfl, rfl⟩⟩
theorem endP_nil {c : Int} {w w' : World} (h : Below w.heap.size w w') : endP ([], c) w (.returned (.tuple #[.slice none 0 0, .int .i64 c])) w' :=
  ⟨none, 0, rfl, New.empty _ _, h⟩
theorem OInts.new {w w' : World} {v : Value} {zs : List Int} (h : OInts w' w.heap.size v zs) (hz : ∀ z ∈ zs, i64B z) : ∃ A cc, v = .slice A zs.length cc ∧ New w w' A zs cc := by
  rcases h.2 with ⟨rfl, h0⟩ | ⟨g, cap, cur, rfl, hg, hh, hcc, hm, hcs, hcur⟩
  · obtain rfl : zs = [] := List.length_eq_zero_iff.1 h0
    exact ⟨none, 0, rfl, New.empty _ _⟩
  · obtain ⟨A, cc, hv, hi, hb⟩ := h.view hz
    simp only [Value.slice.injEq] at hv
    obtain ⟨rfl, _, rfl⟩ := hv
    refine ⟨_, _, rfl, hi, fun i _ b o hA => ?_, hb, by omega, fun h => by cases h⟩
    simp only [Option.some.injEq, Addr.mk.injEq, and_true] at hA
    obtain ⟨rfl, _⟩ := hA
    simp [World.frozen?, hh]
theorem endP_owned {w w' : World} {v : Value} {zs : List Int} {c : Int} {r : List Int × Int} (ho : OInts w' w.heap.size v zs) (hz : ∀ z ∈ zs, i64B z) (hb : Below w.heap.size w w') (hr : r = (zs, c)) :
    endP r w (.returned (.tuple #[v, .int .i64 c])) w' := by
  subst hr
  obtain ⟨A, cc, rfl, hn⟩ := ho.new hz
  exact ⟨A, cc, rfl, hn, hb⟩
theorem endL_owned {w w' : World} {v : Value} {zs r : List Int} (ho : OInts w' w.heap.size v zs) (hz : ∀ z ∈ zs, i64B z) (hb : Below w.heap.size w w') (hr : r = zs) :
    endL r w (.returned v) w' := by
  subst hr
  obtain ⟨A, cc, rfl, hn⟩ := ho.new hz
  exact ⟨A, cc, rfl, hn, hb⟩
end Go.Proofs.Ytbbgeccbdellmaa.ib

/- Rows that a call owns: which blocks they are not, when they stay; append in a region that draws its order, and where the row then lies. Nothing here speaks of the program. -/
namespace Go.Proofs.Ytbbgeccbdellmaa.ib
open Go Go.RowKit
set_option maxRecDepth 100000

theorem blk_type {w : World} {a b : Nat} {t u : TypeId} {x y : Array Value} (h : Blk w a t x) (k : Blk w b u y) (hn : t ≠ u) : a ≠ b := by
  rintro rfl
  unfold Blk at h k
  rw [h] at k
  simp only [Option.some.injEq, Obj.cells.injEq] at k
  exact hn k.2.1
theorem own_type {w : World} {base e size n a : Nat} {v : Value} {xs : List Value} {t : TypeId} {x : Array Value} (h : w.ownsRow base e size v n xs) (k : Blk w a t x) (hn : t ≠ e) : ∀ j, v.ownBlock = some j → j ≠ a := by
  intro j hj
  rcases h.2 with ⟨rfl, _⟩ | ⟨g, cap, cur, rfl, _, hg, _⟩
  · cases hj
  · simp [Value.ownBlock] at hj
    subst hj
    exact (blk_type k hg hn).symm
theorem row_of_block {w w' : World} {base e size n : Nat} {v : Value} {zs : List Value} (h : w.ownsRow base e size v n zs) (hb : ∀ k, v.ownBlock = some k → w'.heap[k]? = w.heap[k]?) : w'.ownsRow base e size v n zs := by
  refine ⟨h.1, ?_⟩
  rcases h.2 with h2 | ⟨g', cap, cur, h1, h2, h3, h4⟩
  · exact .inl h2
  · refine .inr ⟨g', cap, cur, h1, h2, (hb g' ?_).trans h3, h4⟩
    rw [h1]
    rfl
theorem row_base {w : World} {B B' e size n : Nat} {v : Value} {zs : List Value} (h : w.ownsRow B e size v n zs) (hB : B' ≤ B) : w.ownsRow B' e size v n zs := by
  refine ⟨h.1, ?_⟩
  rcases h.2 with h2 | ⟨g', cap, cur, h1, h2, h3⟩
  · exact .inl h2
  · exact .inr ⟨g', cap, cur, h1, Nat.le_trans hB h2, h3⟩
theorem own_form {w : World} {base e size n : Nat} {v : Value} {xs : List Value} (h : w.ownsRow base e size v n xs) : ∃ A c, v = .slice A n c := by
  rcases h.2 with ⟨rfl, rfl⟩ | ⟨g, cap, cur, rfl, _⟩
  · exact ⟨none, 0, rfl⟩
  · exact ⟨_, cap, rfl⟩
theorem set_oth (w : World) (g i : Nat) (u : Value) (k : Nat) (h : k ≠ g) : (w.setCell ⟨g, i, none⟩ u).heap[k]? = w.heap[k]? := Below.heap_setCell _ _ _ _ h
theorem but_grow {S : Nat → Prop} {a w w' : World} {row : Option Nat} (h : But S a w) (hg : w.grownBy w' row) (hr : ∀ k, row = some k → S k ∨ a.heap.size ≤ k) : But S a w' :=
  h.trans (S' := fun k => row = some k) ⟨hg.os, hg.tape, hg.output, hg.size, fun k hk hn => hg.block k hk (fun e => hn e.symm)⟩ hr

theorem wp_append_any {P : Program} {o : Oper} {a : Act} {w : World} {K : Act → World → Prop} {Q : Exit → Act → World → Prop} (s x : Operand) (t : TypeId)
    (ho : o.op = .call { callee := .builtin .append, args := #[s, x], argTypes := #[t, t] })
    (base : Nat) (e : TypeId) (i : TypeInfo) (z : Value) (size bytes : Nat) (ht : P.underlying t = some (.slice e)) (hi : P.info? e = some i) (hz : i.zero = some z)
    (hsize : i.size = size) (hby : i.bytes = bytes) (hzs : z.cells.size = size) (hsz : 0 < size)
    (v : Value) (n : Nat) (xs : List Value) (hs : a.eval s = v) (hown : w.ownsRow base e size v n xs)
    (ad : Addr) (m c : Nat) (news : List Value) (hx : a.eval x = .slice (some ad) m c) (hl : news.length = m * size) (hnews : ∀ j u, news[j]? = some u → w.cell? (ad.add j) = some u) (h1 : ∀ u ∈ news, u.oneCell' = true)
    (h63 : n + m ≤ maxLen) (hbytes : (n + m) * bytes ≤ 140737488355328) (hbase : base ≤ w.heap.size)
    (h : ∀ v' w', w'.ownsRow base e size v' (n + m) (xs ++ news) → w.grownBy w' v.ownBlock → (v'.ownBlock = v.ownBlock ∨ v'.ownBlock = some w.heap.size) → K (a.put o.dst v') w') : o.wp P a w K Q := by
  obtain ⟨v', w', hrun, h2, h3, _, h5⟩ := run_append_own_at (P := P) w base t o.type e i z size bytes ht hi hz hsize hby hzs hsz v n xs hown ad m c news hl hnews h1 h63 hbytes hbase
  unfold Oper.wp
  simp [execOp, ho, resolve, invoke, builtin, hs, hx, hrun, Result.andThen]
  exact h v' w' h2 h3 h5

/-- All blocks that are of another type than r are as they were. -/
def Kp (r : TypeId) (w w' : World) : Prop := ∀ j t cs, t ≠ r → Blk w j t cs → Blk w' j t cs
theorem Kp.refl (r : TypeId) (w : World) : Kp r w w := fun _ _ _ _ h => h
theorem Kp.trans {r : TypeId} {a b c : World} (h : Kp r a b) (k : Kp r b c) : Kp r a c := fun j t cs hn hb => k j t cs hn (h j t cs hn hb)
theorem Kp.of_below {r : TypeId} {w w' : World} (h : Below w.heap.size w w') : Kp r w w' := fun _ _ _ _ hb => hb.below h
theorem Kp.of_but {r : TypeId} {w w' : World} {c : Nat} {x : Array Value} (h : But (fun j => j = c) w w') (hc : Blk w c r x) : Kp r w w' := fun j t cs hn hb =>
  hb.of_block (h.block j hb.lt (blk_type hb hc hn))
theorem Kp.of_grown {r : TypeId} {base size n : Nat} {v : Value} {xs : List Value} {w w' : World} (h : w.grownBy w' v.ownBlock) (ho : w.ownsRow base r size v n xs) : Kp r w w' := fun j t cs hn hb =>
  hb.of_block (h.block j hb.lt (fun e => own_type ho hb hn j e.symm rfl))
theorem Kp.of_set {r : TypeId} {w : World} {g : Nat} {x : Array Value} (i : Nat) (u : Value) (hg : Blk w g r x) : Kp r w (w.setCell ⟨g, i, none⟩ u) := fun j t cs hn hb =>
  hb.of_block (set_oth _ _ _ _ _ (blk_type hb hg hn))
theorem Kp.row {r : TypeId} {w w' : World} {base e size n : Nat} {v : Value} {zs : List Value} (h : Kp r w w') (hn : e ≠ r) (ho : w.ownsRow base e size v n zs) : w'.ownsRow base e size v n zs := by
  refine ⟨ho.1, ?_⟩
  rcases ho.2 with h2 | ⟨g', cap, cur, h1, h2, h3, h4⟩
  · exact .inl h2
  · exact .inr ⟨g', cap, cur, h1, h2, h g' e cur hn h3, h4⟩
end Go.Proofs.Ytbbgeccbdellmaa.ib

/- append, and where the list then lies. -/
namespace Go.Proofs.Ytbbgeccbdellmaa
open Go Go.RowKit
set_option maxRecDepth 100000

theorem wpList_append_at {P : Program} {ops : Array Oper} {rest : List Oper} {o : Oper} {a : Act} {w : World} {Q : Exit → Act → World → Prop} (hgd : o.guard = none) (s x : Operand) (t : TypeId)
    (ho : o.op = .call { callee := .builtin .append, args := #[s, x], argTypes := #[t, t] })
    (base : Nat) (e : TypeId) (i : TypeInfo) (z : Value) (size bytes : Nat) (ht : P.underlying t = some (.slice e)) (hi : P.info? e = some i) (hz : i.zero = some z)
    (hsize : i.size = size) (hby : i.bytes = bytes) (hzs : z.cells.size = size) (hsz : 0 < size)
    (v : Value) (n : Nat) (xs : List Value) (hs : a.eval s = v) (hown : w.ownsRow base e size v n xs)
    (ad : Addr) (m c : Nat) (news : List Value) (hx : a.eval x = .slice (some ad) m c) (hl : news.length = m * size) (hnews : ∀ j u, news[j]? = some u → w.cell? (ad.add j) = some u) (h1 : ∀ u ∈ news, u.oneCell' = true)
    (h63 : n + m ≤ maxLen) (hbytes : (n + m) * bytes ≤ 140737488355328) (hbase : base ≤ w.heap.size)
    (h : ∀ v' w', w'.ownsRow base e size v' (n + m) (xs ++ news) → w.grownBy w' v.ownBlock → (v'.ownBlock = v.ownBlock ∨ v'.ownBlock = some w.heap.size) → wpList P ops Q rest (a.put o.dst v') w') : wpList P ops Q (o :: rest) a w := by
  refine wpList_plain hgd fun K hK => ?_
  obtain ⟨v', w', hrun, h2, h3, _, h5⟩ := run_append_own_at (P := P) w base t o.type e i z size bytes ht hi hz hsize hby hzs hsz v n xs hown ad m c news hl hnews h1 h63 hbytes hbase
  unfold Oper.wp
  simp [execOp, ho, resolve, invoke, builtin, hs, hx, hrun, Result.andThen]
  exact hK _ _ (h v' w' h2 h3 h5)
end Go.Proofs.Ytbbgeccbdellmaa

/- Lists of entries in memory: that came in, that a call made. -/
namespace Go.Proofs.Ytbbgeccbdellmaa.lg
open Go Go.RowKit Go.Proofs.Ytbbgeccbdellmaa.ib
set_option maxRecDepth 100000

/-- An entry's four cells. -/
def enV (x : En) : List Value := [.int .u64 (x.t : Int), .int .i64 x.k, .int .u64 (x.e : Int), .int .u64 (x.c : Int)]
def enRow : List En → List Value
  | [] => []
  | x :: r => enV x ++ enRow r
theorem enRow_append : ∀ (l r : List En), enRow (l ++ r) = enRow l ++ enRow r
  | [], _ => rfl
  | x :: l, r => by
    show enV x ++ enRow (l ++ r) = enV x ++ enRow l ++ enRow r
    rw [enRow_append l r, List.append_assoc]
theorem enRow_one (x : En) : enRow [x] = enV x := by simp [enRow]
theorem enRow_len : ∀ l : List En, (enRow l).length = l.length * 4
  | [] => rfl
  | x :: l => by simp [enRow, enV, enRow_len l]; omega
theorem enRow_get : ∀ (l : List En) (i : Nat) (h : i < l.length) (j : Nat), j < 4 → (enRow l)[i * 4 + j]? = (enV l[i])[j]?
  | x :: l, 0, _, j, hj => by
    show (enV x ++ enRow l)[0 * 4 + j]? = _
    rw [List.getElem?_append_left (by simp [enV]; omega), Nat.zero_mul, Nat.zero_add]
    rfl
  | x :: l, i + 1, h, j, hj => by
    have := enRow_get l i (by simpa using h) j hj
    show (enV x ++ enRow l)[(i + 1) * 4 + j]? = _
    rw [List.getElem?_append_right (by simp [enV]; omega)]
    rw [show (i + 1) * 4 + j - (enV x).length = i * 4 + j from by simp [enV]; omega]
    exact this
theorem enRow_at (l : List En) (j : Nat) (u : Value) (h : (enRow l)[j]? = some u) : ∃ i k, ∃ h : i < l.length, k < 4 ∧ j = i * 4 + k ∧ (enV l[i])[k]? = some u := by
  have hj : j < l.length * 4 := by
    have := (List.getElem?_eq_some_iff.1 h).1
    rw [enRow_len] at this
    exact this
  have hi : j / 4 < l.length := by omega
  have hk : j % 4 < 4 := Nat.mod_lt _ (by omega)
  refine ⟨j / 4, j % 4, hi, hk, by omega, ?_⟩
  rw [← enRow_get l (j / 4) hi (j % 4) hk, show j / 4 * 4 + j % 4 = j by omega]
  exact h
theorem enV_ones (x : En) : ∀ u ∈ enV x, u.oneCell' = true := by
  intro u hu
  simp only [enV, List.mem_cons, List.not_mem_nil, or_false] at hu
  rcases hu with rfl | rfl | rfl | rfl <;> rfl
theorem enRow_ones : ∀ (l : List En), ∀ u ∈ enRow l, u.oneCell' = true
  | [] => fun u hu => by simp [enRow] at hu
  | x :: l => fun u hu => by
    rcases List.mem_append.1 hu with h | h
    · exact enV_ones x u h
    · exact enRow_ones l u h

/-- A slice of entries. -/
def EnAt (w : World) (A : Option Addr) (xs : List En) : Prop :=
  ∀ i (h : i < xs.length), ∃ b o, A = some ⟨b, o, none⟩ ∧ b < w.heap.size ∧ w.cell? ⟨b, o + i * 4, none⟩ = some (.int .u64 (xs[i].t : Int)) ∧ w.cell? ⟨b, o + i * 4 + 1, none⟩ = some (.int .i64 xs[i].k) ∧
    w.cell? ⟨b, o + i * 4 + 2, none⟩ = some (.int .u64 (xs[i].e : Int)) ∧ w.cell? ⟨b, o + i * 4 + 3, none⟩ = some (.int .u64 (xs[i].c : Int)) ∧ enB xs[i]
theorem EnAt.nil (w : World) (A : Option Addr) : EnAt w A [] := fun i h => absurd h (by simp)
theorem EnAt.keep {w w' : World} {A : Option Addr} {xs : List En} (h : EnAt w A xs) (hs : w.heap.size ≤ w'.heap.size) (hk : ∀ b o, A = some ⟨b, o, none⟩ → b < w.heap.size → w'.heap[b]? = w.heap[b]?) : EnAt w' A xs := by
  intro i hi
  obtain ⟨b, o, h1, h2, h3, h4, h5, h6, h7⟩ := h i hi
  have e := hk b o h1 h2
  exact ⟨b, o, h1, Nat.lt_of_lt_of_le h2 hs, by rw [World.cell?_of_block (a := ⟨b, o + i * 4, none⟩) e]; exact h3, by rw [World.cell?_of_block (a := ⟨b, o + i * 4 + 1, none⟩) e]; exact h4, by rw [World.cell?_of_block (a := ⟨b, o + i * 4 + 2, none⟩) e]; exact h5, by rw [World.cell?_of_block (a := ⟨b, o + i * 4 + 3, none⟩) e]; exact h6, h7⟩
theorem EnAt.below {w w' : World} {A : Option Addr} {xs : List En} (h : EnAt w A xs) (hb : Below w.heap.size w w') : EnAt w' A xs := h.keep hb.size (fun b _ _ hl => hb.block b hl)
theorem EnAt.b {w : World} {A : Option Addr} {xs : List En} (h : EnAt w A xs) : ∀ x ∈ xs, enB x := by
  intro x hx
  obtain ⟨i, hi, rfl⟩ := List.getElem_of_mem hx
  obtain ⟨_, _, _, _, _, _, _, _, h7⟩ := h i hi
  exact h7
theorem EnAt.take {w : World} {A : Option Addr} {xs : List En} (h : EnAt w A xs) (n : Nat) : EnAt w A (xs.take n) := fun i hi => by
  have := h i (by simp at hi; omega)
  simpa using this
/-- What lies behind the first n ones: at a place of its own. -/
theorem EnAt.drop {w : World} {b o : Nat} {xs : List En} (h : EnAt w (some ⟨b, o, none⟩) xs) (n : Nat) : EnAt w (some ⟨b, o + n * 4, none⟩) (xs.drop n) := fun i hi => by
  obtain ⟨b', o', h1, h2, h3, h4, h5, h6, h7⟩ := h (n + i) (by simp at hi; omega)
  simp only [Option.some.injEq, Addr.mk.injEq, and_true] at h1
  obtain ⟨rfl, rfl⟩ := h1
  refine ⟨b, o + n * 4, rfl, h2, ?_, ?_, ?_, ?_, ?_⟩
  · rw [show o + n * 4 + i * 4 = o + (n + i) * 4 by omega]; simpa using h3
  · rw [show o + n * 4 + i * 4 = o + (n + i) * 4 by omega]; simpa using h4
  · rw [show o + n * 4 + i * 4 = o + (n + i) * 4 by omega]; simpa using h5
  · rw [show o + n * 4 + i * 4 = o + (n + i) * 4 by omega]; simpa using h6
  · simpa using h7
/-- Its cells, as a row. -/
theorem EnAt.row {w : World} {ad : Addr} {xs : List En} (h : EnAt w (some ad) xs) : ∀ (j : Nat) (u : Value), (enRow xs)[j]? = some u → w.cell? (ad.add j) = some u := by
  intro j u hu
  obtain ⟨i, k, hi, hk, rfl, hv⟩ := enRow_at xs j u hu
  obtain ⟨b, o, h1, h2, h3, h4, h5, h6, h7⟩ := h i hi
  injection h1 with h1
  subst h1
  rw [addr_add, ← Nat.add_assoc]
  match k, hk with
  | 0, _ => simp [enV] at hv; subst hv; exact h3
  | 1, _ => simp [enV] at hv; subst hv; exact h4
  | 2, _ => simp [enV] at hv; subst hv; exact h5
  | 3, _ => simp [enV] at hv; subst hv; exact h6
/-- A slice of entries, with its room. -/
structure EnL (w : World) (A : Option Addr) (l : List En) (c : Nat) : Prop where
  ents : EnAt w A l
  cap : l.length ≤ c
  nil : A = none → l.length = 0 ∧ c = 0
section
variable {w w' : World} {A : Option Addr} {l : List En} {c : Nat}
theorem EnL.below (h : EnL w A l c) (hb : Below w.heap.size w w') : EnL w' A l c := ⟨h.ents.below hb, h.cap, h.nil⟩
theorem EnL.none (w : World) : EnL w none [] 0 := ⟨EnAt.nil _ _, Nat.le_refl _, fun _ => ⟨rfl, rfl⟩⟩
theorem EnL.b (h : EnL w A l c) : ∀ x ∈ l, enB x := h.ents.b
theorem EnL.take (h : EnL w A l c) (n : Nat) : EnL w A (l.take n) c := ⟨h.ents.take n, by have := h.cap; simp; omega, fun e => by have := h.nil e; rw [List.length_take]; omega⟩
end

section
variable {w w' : World} {B : Nat} {v : Value} {l : List En}
end
/-- An entry. -/
def ev (x : En) : Value := .agg #[.int .u64 (x.t : Int), .int .i64 x.k, .int .u64 (x.e : Int), .int .u64 (x.c : Int)]
def gv (g : Gd) : Value := .agg #[.int .u64 (g.1 : Int), .int .u64 (g.2 : Int)]
def endV (v : Value) (w : World) (e : Ending) (w' : World) : Prop := e = .returned v ∧ Below w.heap.size w w'
end Go.Proofs.Ytbbgeccbdellmaa.lg

/- A list of one's own, 400 entries at most. -/
namespace Go.Proofs.Ytbbgeccbdellmaa.lg
open Go Go.RowKit Go.Proofs.Ytbbgeccbdellmaa.ib
set_option maxRecDepth 100000

/-- .. as a list. -/
def endN (r : List En) (w : World) (e : Ending) (w' : World) : Prop := ∃ A c, e = .returned (.slice A r.length c) ∧ EnL w' A r c ∧ (∀ b o, A = some ⟨b, o, none⟩ → w.heap.size ≤ b ∧ b < w'.heap.size) ∧ Below w.heap.size w w'
end Go.Proofs.Ytbbgeccbdellmaa.lg

/- Whether an entry may be: the program's answer, the document's. -/
namespace Go.Proofs.Ytbbgeccbdellmaa.lg
open Go Go.RowKit Go.Proofs.Ytbbgeccbdellmaa.ib
set_option maxRecDepth 100000

@[go_sem] theorem eq_gd (a b c d : Int) (w : World) : (Op.equalIn 10000 34 (.agg #[.int .u64 a, .int .u64 b]) (.agg #[.int .u64 c, .int .u64 d])).run Try.prog w = .ok (a == c && b == d) w := by
  have u3 := Try.underlying22
  have a3 := Try.isAgg22
  have z3 := Try.sizeOf22
  rw [show (10000 : Nat) = 9999 + 1 from rfl, run_equalIn_agg w 9999 34 _ _ (by kernel_rfl) (by kernel_rfl)]
  simp only [Program.fieldsOf, Try.underlying34]
  go_simp
  by_cases h1 : a = c <;> by_cases h2 : b = d <;> simp [h1, h2]

theorem may_is (x : En) : mayE x = (decide ((0 : Int) < (x.t : Int)) && (if x.k = 3 then !((x.e : Int) == 0) && !((x.c : Int) == 0) else (decide (x.k = 1) || decide (x.k = 2)) && (((x.e : Int) == 0) && ((x.c : Int) == 0)))) := by
  obtain ⟨t, k, e, c⟩ := x
  unfold mayE
  rw [Bool.eq_iff_iff]
  by_cases h3 : k = 3 <;> simp [h3] <;> omega

end Go.Proofs.Ytbbgeccbdellmaa.lg

/- Are two lists of entries alike: slices.Equal, the program's answer, the document's. -/
namespace Go.Proofs.Ytbbgeccbdellmaa.lg
open Go Go.RowKit Go.Proofs.Ytbbgeccbdellmaa.ib
set_option maxRecDepth 100000

theorem en_ne {x y : En} (h : x ≠ y) : ¬ (x.t : Int) = (y.t : Int) ∨ (x.t : Int) = (y.t : Int) ∧ (¬ x.k = y.k ∨ x.k = y.k ∧ (¬ (x.e : Int) = (y.e : Int) ∨ (x.e : Int) = (y.e : Int) ∧ ¬ (x.c : Int) = (y.c : Int))) := by
  obtain ⟨a, b, c, d⟩ := x
  obtain ⟨a', b', c', d'⟩ := y
  simp only [En.mk.injEq, ne_eq] at h ⊢
  omega
theorem take_snoc {l m : List En} {k : Nat} (h1 : k < l.length) (h2 : k < m.length) (h : l.take k = m.take k) (he : l[k] = m[k]) : l.take (k + 1) = m.take (k + 1) := by
  rw [List.take_succ_eq_append_getElem h1, List.take_succ_eq_append_getElem h2, h, he]

/-- The four cells of the i-th one, in a later world. -/
theorem EnAt.cells {w wr : World} {A : Option Addr} {l : List En} (h : EnAt w A l) (hb : Below w.heap.size w wr) (i : Nat) (hi : i < l.length) : ∃ b o, A = some ⟨b, o, none⟩ ∧ b < wr.heap.size ∧ wr.cell? ⟨b, o + i * 4, none⟩ = some (.int .u64 (l[i].t : Int)) ∧ wr.cell? ⟨b, o + i * 4 + 1, none⟩ = some (.int .i64 l[i].k) ∧
    wr.cell? ⟨b, o + i * 4 + 2, none⟩ = some (.int .u64 (l[i].e : Int)) ∧ wr.cell? ⟨b, o + i * 4 + 3, none⟩ = some (.int .u64 (l[i].c : Int)) ∧ enB l[i] := by
  exact h.below hb i hi

/-- As far as k both lists are alike. -/
def SaRel (l m : List En) (w : World) (i : Value) (wr : World) : Prop :=
  ∃ k : Nat, k ≤ l.length ∧ i = .int .i64 (k : Int) ∧ l.take k = m.take k ∧ Below w.heap.size w wr

end Go.Proofs.Ytbbgeccbdellmaa.lg

/- Whether a log may be: the program's answer, the document's. -/
namespace Go.Proofs.Ytbbgeccbdellmaa.lg
open Go Go.RowKit Go.Sort Go.Proofs.Ytbbgeccbdellmaa.ib
set_option maxRecDepth 100000

theorem rmixed : Try.prog.follows .mixedOrders = true := by kernel_rfl
theorem ahead_succ {l : List En} {k : Nat} (h : k < l.length) : aheadT l (k + 1) = l[k].t := by
  unfold aheadT
  rw [if_neg (by omega), Nat.add_sub_cancel]
  simp [List.getD, h]
theorem good_at {l : List En} {k : Nat} (h : k < l.length) : goodAt l k = (decide (aheadT l k ≤ l[k].t) && mayE l[k]) := by
  unfold goodAt
  simp [List.getD, h]

/-- As far as k all may be. -/
def CkRel (l : List En) (w : World) (a i : Value) (wr : World) : Prop :=
  ∃ k : Nat, k ≤ l.length ∧ i = .int .i64 (k : Int) ∧ a = .int .u64 (aheadT l k : Int) ∧ (∀ j, j < k → goodAt l j = true) ∧ Below w.heap.size w wr

def RkRel (l : List En) (w : World) (i : Value) (wr : World) : Prop :=
  ∃ k : Nat, k ≤ l.length ∧ i = .int .i64 (k : Int) ∧ (∀ j, j < k → goodAt l j = true) ∧ Below w.heap.size w wr
end Go.Proofs.Ytbbgeccbdellmaa.lg

/- Guids in memory; a line in memory; which guid is above which: the program's answer, the document's. -/
namespace Go.Proofs.Ytbbgeccbdellmaa.lg
open Go Go.RowKit Go.Sort Go.Proofs.Ytbbgeccbdellmaa.ib
set_option maxRecDepth 100000

theorem infoGd : (Try.prog.info? 34).map (fun i => (i.zero, i.size, i.bytes)) = some (some (.agg #[.int .u64 0, .int .u64 0]), 2, 16) := by kernel_rfl
def gdV (g : Gd) : List Value := [.int .u64 (g.1 : Int), .int .u64 (g.2 : Int)]
def gdRow : List Gd → List Value
  | [] => []
  | x :: r => gdV x ++ gdRow r
theorem gdRow_append : ∀ (l r : List Gd), gdRow (l ++ r) = gdRow l ++ gdRow r
  | [], _ => rfl
  | x :: l, r => by
    show gdV x ++ gdRow (l ++ r) = gdV x ++ gdRow l ++ gdRow r
    rw [gdRow_append l r, List.append_assoc]
theorem gdRow_one (x : Gd) : gdRow [x] = gdV x := by simp [gdRow]
theorem gdRow_len : ∀ l : List Gd, (gdRow l).length = l.length * 2
  | [] => rfl
  | x :: l => by simp [gdRow, gdV, gdRow_len l]; omega
theorem gdRow_get : ∀ (l : List Gd) (i : Nat) (h : i < l.length) (j : Nat), j < 2 → (gdRow l)[i * 2 + j]? = (gdV l[i])[j]?
  | x :: l, 0, _, j, hj => by
    show (gdV x ++ gdRow l)[0 * 2 + j]? = _
    rw [List.getElem?_append_left (by simp [gdV]; omega), Nat.zero_mul, Nat.zero_add]
    rfl
  | x :: l, i + 1, h, j, hj => by
    have := gdRow_get l i (by simpa using h) j hj
    show (gdV x ++ gdRow l)[(i + 1) * 2 + j]? = _
    rw [List.getElem?_append_right (by simp [gdV]; omega)]
    rw [show (i + 1) * 2 + j - (gdV x).length = i * 2 + j from by simp [gdV]; omega]
    exact this
theorem gdV_ones (x : Gd) : ∀ u ∈ gdV x, u.oneCell' = true := by
  intro u hu
  simp only [gdV, List.mem_cons, List.not_mem_nil, or_false] at hu
  rcases hu with rfl | rfl <;> rfl
/-- A slice of guids. -/
def GdAt (w : World) (A : Option Addr) (gs : List Gd) : Prop :=
  ∀ i (h : i < gs.length), ∃ b o, A = some ⟨b, o, none⟩ ∧ b < w.heap.size ∧ w.cell? ⟨b, o + i * 2, none⟩ = some (.int .u64 (gs[i].1 : Int)) ∧ w.cell? ⟨b, o + i * 2 + 1, none⟩ = some (.int .u64 (gs[i].2 : Int))
theorem GdAt.nil (w : World) (A : Option Addr) : GdAt w A [] := fun i h => absurd h (by simp)
theorem GdAt.below {w w' : World} {A : Option Addr} {gs : List Gd} (h : GdAt w A gs) (hb : Below w.heap.size w w') : GdAt w' A gs := by
  intro i hi
  obtain ⟨b, o, h1, h2, h3, h4⟩ := h i hi
  exact ⟨b, o, h1, Nat.lt_of_lt_of_le h2 hb.size, by rw [hb.cell (p := ⟨b, o + i * 2, none⟩) h2]; exact h3, by rw [hb.cell (p := ⟨b, o + i * 2 + 1, none⟩) h2]; exact h4⟩
/-- Guids in a row that the call made. -/
def OGd (w : World) (B : Nat) (v : Value) (gs : List Gd) : Prop := w.ownsRow B 34 2 v gs.length (gdRow gs)
section
variable {w w' : World} {B : Nat} {v : Value} {gs : List Gd}
theorem OGd.nil (w : World) (B : Nat) : OGd w B (.slice none 0 0) [] := World.ownsRow_nil _ _ _ _
theorem OGd.view (h : OGd w B v gs) : ∃ A c, v = .slice A gs.length c ∧ GdAt w A gs := by
  rcases h.2 with ⟨rfl, h0⟩ | ⟨g, cap, cur, rfl, hg, hh, hcc, hm, hcs, hcur⟩
  · obtain rfl : gs = [] := List.length_eq_zero_iff.1 h0
    exact ⟨none, 0, rfl, GdAt.nil _ _⟩
  · have hgl : g < w.heap.size := (Array.getElem?_eq_some_iff.1 hh).1
    have key : ∀ (j : Nat) (u : Value), (gdRow gs)[j]? = some u → w.cell? ⟨g, j, none⟩ = some u := by
      intro j u hu
      rw [cell_of_row w g j cur 34 (0, 0) hh]
      rw [← hcur, List.getElem?_take] at hu
      split at hu
      · simpa using hu
      · cases hu
    refine ⟨some ⟨g, 0, none⟩, cap, rfl, fun i hi => ⟨g, 0, rfl, hgl, ?_, ?_⟩⟩
    · rw [Nat.zero_add]
      have := key (i * 2 + 0) _ (gdRow_get gs i hi 0 (by omega))
      exact this
    · rw [Nat.zero_add]
      exact key (i * 2 + 1) _ (gdRow_get gs i hi 1 (by omega))
theorem OGd.below (h : OGd w B v gs) (hb : Below w.heap.size w w') : OGd w' B v gs := row_of_block h (fun j hj => hb.block j (h.lt j hj).2)
theorem OGd.snoc {x : Gd} (h : w.ownsRow B 34 2 v (gs.length + 1) (gdRow gs ++ gdV x)) : OGd w B v (gs ++ [x]) := by
  unfold OGd
  rw [gdRow_append, gdRow_one, List.length_append]
  exact h
end
/-- A line's four cells. -/
def lnC (L : Ln) (v : Value) : Array Value := #[.int .u64 (L.ep : Int), .int .i64 (L.bf : Int), .bool L.ls, v]
/-- A line in a block g of its own; its list in a row of the call's own. -/
structure LnIs (w : World) (B g : Nat) (L : Ln) (v : Value) : Prop where
  blk : Blk w g 25 (lnC L v)
  own : OGd w B v L.gs
  low : B ≤ g
section
variable {w w' : World} {B g : Nat} {L : Ln} {v : Value}
theorem LnIs.below (h : LnIs w B g L v) (hb : Below w.heap.size w w') : LnIs w' B g L v := ⟨h.blk.below hb, h.own.below hb, h.low⟩
theorem LnIs.ne (h : LnIs w B g L v) : ∀ j, v.ownBlock = some j → j ≠ g := own_type h.own h.blk (by decide)
theorem LnIs.set_ {L' : Ln} (h : LnIs w B g L v) (i : Nat) (u : Value) (hc : (lnC L v).setIfInBounds i u = lnC L' v) (hg : L'.gs = L.gs) : LnIs (w.setCell ⟨g, i, none⟩ u) B g L' v :=
  ⟨by rw [← hc]; exact h.blk.set_ i u, by unfold OGd; rw [hg]; exact row_of_block h.own (fun j hj => set_oth _ _ _ _ _ (h.ne j hj)), h.low⟩
end
/-- A line, as a value. -/
def LnAt (w : World) (v : Value) (L : Ln) : Prop := ∃ A c, v = .agg #[.int .u64 (L.ep : Int), .int .i64 (L.bf : Int), .bool L.ls, .slice A L.gs.length c] ∧ GdAt w A L.gs
theorem LnAt.below {w w' : World} {v : Value} {L : Ln} (h : LnAt w v L) (hb : Below w.heap.size w w') : LnAt w' v L := by
  obtain ⟨A, c, h1, h2⟩ := h
  exact ⟨A, c, h1, h2.below hb⟩
def endLn (L : Ln) (w : World) (e : Ending) (w' : World) : Prop := ∃ v, e = .returned v ∧ LnAt w' v L ∧ Below w.heap.size w w'

end Go.Proofs.Ytbbgeccbdellmaa.lg

/- Are two lists of guids, two lines alike; does a line say this. -/
namespace Go.Proofs.Ytbbgeccbdellmaa.lg
open Go Go.RowKit Go.Sort Go.Proofs.Ytbbgeccbdellmaa.ib
set_option maxRecDepth 100000

theorem gd_ne {x y : Gd} (h : x ≠ y) : ¬ (x.1 : Int) = (y.1 : Int) ∨ (x.1 : Int) = (y.1 : Int) ∧ ¬ (x.2 : Int) = (y.2 : Int) := by
  obtain ⟨a, b⟩ := x
  obtain ⟨a', b'⟩ := y
  simp only [Prod.mk.injEq, ne_eq] at h ⊢
  omega
theorem gtake_snoc {l m : List Gd} {k : Nat} (h1 : k < l.length) (h2 : k < m.length) (h : l.take k = m.take k) (he : l[k] = m[k]) : l.take (k + 1) = m.take (k + 1) := by
  rw [List.take_succ_eq_append_getElem h1, List.take_succ_eq_append_getElem h2, h, he]
def SgRel (l m : List Gd) (w : World) (i : Value) (wr : World) : Prop :=
  ∃ k : Nat, k ≤ l.length ∧ i = .int .i64 (k : Int) ∧ l.take k = m.take k ∧ Below w.heap.size w wr

theorem ln_ne {L M : Ln} (h : L ≠ M) : ¬ (L.ep : Int) = (M.ep : Int) ∨ (L.ep : Int) = (M.ep : Int) ∧ (¬ (L.bf : Int) = (M.bf : Int) ∨ (L.bf : Int) = (M.bf : Int) ∧ (¬ L.ls = M.ls ∨ L.ls = M.ls ∧ ¬ L.gs = M.gs)) := by
  obtain ⟨a, b, c, d⟩ := L
  obtain ⟨a', b', c', d'⟩ := M
  simp only [Ln.mk.injEq, ne_eq, not_and] at h ⊢
  by_cases h1 : a = a'
  · by_cases h2 : b = b'
    · by_cases h3 : c = c'
      · exact .inr ⟨by omega, .inr ⟨by omega, .inr ⟨h3, h h1 h2 h3⟩⟩⟩
      · exact .inr ⟨by omega, .inr ⟨by omega, .inl h3⟩⟩
    · exact .inr ⟨by omega, .inl (by omega)⟩
  · exact .inl (by omega)

def IsRel (l m : List Gd) (w W1 : World) (i : Value) (wr : World) : Prop :=
  ∃ k : Nat, k ≤ m.length ∧ i = .int .i64 (k : Int) ∧ l.take k = m.take k ∧ Below W1.heap.size W1 wr
end Go.Proofs.Ytbbgeccbdellmaa.lg

