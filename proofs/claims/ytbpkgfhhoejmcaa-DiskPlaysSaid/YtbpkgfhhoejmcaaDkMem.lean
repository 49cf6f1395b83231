/- A disk in memory: its struct, its map, its list of unflushed writes; and what a call may turn. -/
import Derived.Test.YtbpkgfhhoejmcaaDkMap
import Derived.Maps.AppendAt
import Derived.OwnWalk
import Derived.Deep.Draws
namespace Go.Proofs.Ytbpkgfhhoejmcaa.dk
open Go Go.RowKit

/-- A block that is known whole. -/
def Blk (w : World) (g : Nat) (t : TypeId) (cs : Array Value) : Prop := w.heap[g]? = some (.cells cs t (0, 0))

section
variable {w w' : World} {g : Nat} {t : TypeId} {cs : Array Value}
theorem Blk.lt (h : Blk w g t cs) : g < w.heap.size := by
  unfold Blk at h
  exact (Array.getElem?_eq_some_iff.1 h).1
theorem Blk.cell (h : Blk w g t cs) (i : Nat) : w.cell? ⟨g, i, none⟩ = cs[i]? := cell_of_row w g i cs t (0, 0) h
theorem Blk.frozen (h : Blk w g t cs) (i : Nat) : w.frozen? ⟨g, i, none⟩ = false := by
  unfold Blk at h
  simp [World.frozen?, h]
theorem Blk.new (w : World) (t : TypeId) (cs : Array Value) : Blk (w.alloc (.cells cs t)) w.heap.size t cs := heap_alloc_new w _
theorem Blk.of_block (h : Blk w g t cs) (hb : w'.heap[g]? = w.heap[g]?) : Blk w' g t cs := hb.trans h
theorem Blk.set_ (h : Blk w g t cs) (i : Nat) (u : Value) : Blk (w.setCell ⟨g, i, none⟩ u) g t (cs.setIfInBounds i u) := heap_setCell_same w g i cs t u h
end

/-- w' is w but for the blocks of S, and new ones. -/
structure But (S : Nat → Prop) (w w' : World) : Prop where
  os : w'.os = w.os
  tape : w'.tape = w.tape
  output : w'.output = w.output
  size : w.heap.size ≤ w'.heap.size
  block : ∀ k, k < w.heap.size → ¬ S k → w'.heap[k]? = w.heap[k]?

section
variable {S S' : Nat → Prop} {a b c w w' : World}
theorem But.refl (S : Nat → Prop) (w : World) : But S w w := ⟨rfl, rfl, rfl, Nat.le_refl _, fun _ _ _ => rfl⟩
theorem But.trans (h : But S a b) (k : But S' b c) (hs : ∀ i, S' i → S i ∨ a.heap.size ≤ i) : But S a c :=
  ⟨k.os.trans h.os, k.tape.trans h.tape, k.output.trans h.output, Nat.le_trans h.size k.size, fun i hi hn => by
    refine (k.block i (Nat.lt_of_lt_of_le hi h.size) (fun e => ?_)).trans (h.block i hi hn)
    rcases hs i e with h1 | h1
    · exact hn h1
    · omega⟩
theorem But.mono (h : But S w w') (hs : ∀ i, S i → S' i) : But S' w w' := ⟨h.os, h.tape, h.output, h.size, fun k hk hn => h.block k hk (fun e => hn (hs k e))⟩
theorem But.of_below (h : Below w.heap.size w w') : But S w w' := ⟨h.os, h.tape, h.output, h.size, fun k hk _ => h.block k hk⟩
theorem But.of_grown {row : Option Nat} (h : w.grownBy w' row) (hs : ∀ k, row = some k → S k) : But S w w' :=
  ⟨h.os, h.tape, h.output, h.size, fun k hk hn => h.block k hk (fun e => hn (hs k e.symm))⟩
theorem But.drew (h : But S a w) : But S a w.drew := ⟨h.os, h.tape, h.output, h.size, h.block⟩
theorem But.drewN (h : But S a w) (n : Nat) : But S a (w.drewN n) := ⟨h.os, h.tape, h.output, h.size, h.block⟩
theorem But.alloc (h : But S a w) (o : Obj) : But S a (w.alloc o) :=
  h.trans (S' := fun _ => False) ⟨rfl, rfl, rfl, by simp, fun k hk _ => Below.heap_alloc _ _ _ hk⟩ (fun _ e => e.elim)
theorem But.setCell (h : But S a w) (p : Addr) (u : Value) (hp : S p.block ∨ a.heap.size ≤ p.block) : But S a (w.setCell p u) :=
  h.trans (S' := fun k => k = p.block) ⟨rfl, rfl, rfl, by simp [World.setCell], fun k _ hn => Below.heap_setCell _ _ _ _ hn⟩ (fun i e => by rw [e]; exact hp)
theorem But.grown {row : Option Nat} (h : But S a w) (hg : w.grownBy w' row) (hs : ∀ k, row = some k → S k ∨ a.heap.size ≤ k) : But S a w' :=
  h.trans (S' := fun k => row = some k) (But.of_grown hg (fun _ e => e)) hs
theorem But.below {B : Nat} (h : But S a w) (hs : ∀ i, S i → B ≤ i) (hB : B ≤ a.heap.size) : Below B a w :=
  ⟨h.os, h.tape, h.output, h.size, fun k hk => h.block k (by omega) (fun e => by have := hs k e; omega)⟩
end

/-- An unflushed write as its 66 cells. -/
def wrCells (x : Nat × Bt × Bt × Bool) : List Value := .int .i64 (x.1 : Int) :: (Lib.byteCells x.2.1 ++ (Lib.byteCells x.2.2.1 ++ [.bool x.2.2.2]))
def wrRow (l : List (Nat × Bt × Bt × Bool)) : List Value := l.flatMap wrCells

theorem own_of_block {w w' : World} {base e size n : Nat} {v : Value} {xs : List Value} (h : w.ownsRow base e size v n xs) (hb : ∀ k, v.ownBlock = some k → w'.heap[k]? = w.heap[k]?) : w'.ownsRow base e size v n xs := by
  refine ⟨h.1, ?_⟩
  rcases h.2 with hn | ⟨g, cap, cur, rfl, h1, h2, r⟩
  · exact .inl hn
  · exact .inr ⟨g, cap, cur, rfl, h1, (hb g rfl).trans h2, r⟩

theorem own_lt {w : World} {base e size n : Nat} {v : Value} {xs : List Value} (h : w.ownsRow base e size v n xs) : ∀ k, v.ownBlock = some k → k < w.heap.size := by
  intro k hk
  rcases h.2 with ⟨rfl, _⟩ | ⟨g, cap, cur, rfl, h1, h2, r⟩
  · cases hk
  · simp [Value.ownBlock] at hk
    subst hk
    exact (Array.getElem?_eq_some_iff.1 h2).1

/-- What lies behind a disk's pointer: its cells, its map, the list of its unflushed writes; all of it its own. -/
def DkAt (w : World) (own : Nat → Prop) (p m : Nat) (v : Value) (d : DD) : Prop :=
  Blk w p 45 #[.int .i64 (d.n : Int), .int .i64 d.room, .map (some m), v, .bool d.on, .int .i64 d.fuse] ∧ MapIs w m d.now ∧
  w.ownsRow 0 61 66 v d.more.length (wrRow (unOf d.base d.more)) ∧
  own p ∧ own m ∧ (∀ k, v.ownBlock = some k → own k) ∧ (∀ k, own k → k < w.heap.size)

def DkIs (most : Nat) (w : World) (own : Nat → Prop) (p : Nat) (d : DD) : Prop := d.ok most ∧ ∃ m v, DkAt w own p m v d

theorem DkAt.ne {w : World} {own : Nat → Prop} {p m : Nat} {v : Value} {d : DD} (h : DkAt w own p m v d) : p ≠ m ∧ (∀ k, v.ownBlock = some k → k ≠ p ∧ k ≠ m) := by
  obtain ⟨h1, ⟨D, ⟨es, clock, h2, _⟩, _⟩, h3, _⟩ := h
  unfold Blk at h1
  refine ⟨?_, ?_⟩
  · rintro rfl
    rw [h1] at h2
    cases h2
  · intro k hk
    rcases h3.2 with ⟨rfl, _⟩ | ⟨g, cap, cur, rfl, _, hg, _⟩
    · cases hk
    · simp [Value.ownBlock] at hk
      subst hk
      refine ⟨?_, ?_⟩
      · rintro rfl
        rw [h1] at hg
        simp only [Option.some.injEq, Obj.cells.injEq] at hg
        exact absurd hg.2.1 (by decide)
      · rintro rfl
        rw [h2] at hg
        cases hg

theorem DkAt.keep {w w' : World} {own : Nat → Prop} {p m : Nat} {v : Value} {d : DD} (h : DkAt w own p m v d) (hs : w.heap.size ≤ w'.heap.size) (hb : ∀ k, own k → w'.heap[k]? = w.heap[k]?) : DkAt w' own p m v d := by
  obtain ⟨h1, h2, h3, hp, hm, hv, hl⟩ := h
  exact ⟨h1.of_block (hb _ hp), h2.of_block (hb _ hm), own_of_block h3 (fun k hk => hb k (hv k hk)), hp, hm, hv, fun k hk => Nat.lt_of_lt_of_le (hl k hk) hs⟩

theorem DkIs.keep {most : Nat} {w w' : World} {own : Nat → Prop} {p : Nat} {d : DD} (h : DkIs most w own p d) (hs : w.heap.size ≤ w'.heap.size) (hb : ∀ k, own k → w'.heap[k]? = w.heap[k]?) : DkIs most w' own p d := by
  obtain ⟨h0, m, v, h1⟩ := h
  exact ⟨h0, m, v, h1.keep hs hb⟩

/-- While another one is turned. -/
theorem DkIs.but {most : Nat} {w w' : World} {own S : Nat → Prop} {p : Nat} {d : DD} (h : DkIs most w own p d) (hb : But S w w') (hd : ∀ k, own k → ¬ S k) : DkIs most w' own p d := by
  obtain ⟨h0, m, v, h1⟩ := h
  have hl := h1.2.2.2.2.2.2
  exact ⟨h0, m, v, h1.keep hb.size (fun k hk => hb.block k (hl k hk) (hd k hk))⟩

/-- The new blocks of a call belong to it. -/
def Grows (own own' : Nat → Prop) (w : World) : Prop := ∀ k, own' k → own k ∨ w.heap.size ≤ k

theorem Grows.refl (own : Nat → Prop) (w : World) : Grows own own w := fun _ h => .inl h

/-- What a call that turns a disk leaves. -/
def DkPost (most : Nat) (own : Nat → Prop) (p : Nat) (d : DD) (r : Value) (w : World) (e : Ending) (w' : World) : Prop :=
  e = .returned r ∧ ∃ own', DkIs most w' own' p d ∧ But own w w' ∧ Grows own own' w

end Go.Proofs.Ytbpkgfhhoejmcaa.dk
