/- The document's disk in memory: its struct, two rows of strings, the writes that were not flushed. -/
import Derived.Test.YtbpkgfhhoejmcaaDkInG
import Derived.Test.YtbpkgfhhoejmcaaDkApp
namespace Go.Proofs.Ytbpkgfhhoejmcaa.dk
open Go Go.RowKit

/-- A sector as a string: none for one that was not written. -/
def sStr (o : Option Bt) : ByteArray := str (o.getD [])
def sRow (s : Sects) : List Value := s.map fun o => .string (sStr o)
def wCells (x : Nat × Bt) : List Value := [.int .i64 (x.1 : Int), .string (str x.2)]
def wRow (l : List (Nat × Bt)) : List Value := l.flatMap wCells

theorem sRow_length (s : Sects) : (sRow s).length = s.length := by simp [sRow]
theorem sRow_get (s : Sects) (k : Nat) (h : k < s.length) : (sRow s)[k]? = some (.string (sStr (look s (k : Int)))) := by
  rw [look_nat]
  simp [sRow, List.getElem?_eq_getElem h]
theorem sRow_put (s : Sects) (k : Nat) (v : Bt) : (sRow s).set k (.string (str v)) = sRow (put s k v) := by
  simp [sRow, put, List.map_set, sStr]
theorem sRow_none (n : Nat) : sRow (List.replicate n none) = List.replicate n (.string (str [])) := by simp [sRow, sStr]
theorem wRow_snoc (l : List (Nat × Bt)) (x : Nat × Bt) : wRow (l ++ [x]) = wRow l ++ wCells x := by simp [wRow]

theorem sStr_some (o : Option Bt) (h : ∀ v, o = some v → v.length = 32) : (sStr o).toList.isEmpty = !o.isSome := by
  cases o with
  | none => rw [sStr, toList_bl, bl_str]; rfl
  | some v =>
    have := h v rfl
    rw [sStr, toList_bl, bl_str]
    cases v with
    | nil => simp at this
    | cons => rfl

def StrsB (w : World) (g : Nat) (s : Sects) : Prop := ∃ e, Blk w g 9 (sRow s ++ e).toArray

section
variable {w w' : World} {g : Nat} {s : Sects}
theorem StrsB.cell (h : StrsB w g s) (k : Nat) (hk : k < s.length) : w.cell? ⟨g, k, none⟩ = some (.string (sStr (look s (k : Int)))) := by
  obtain ⟨e, h⟩ := h
  rw [h.cell k]
  simp only [List.getElem?_toArray]
  rw [List.getElem?_append_left (by rw [sRow_length]; exact hk)]
  exact sRow_get s k hk
theorem StrsB.frozen (h : StrsB w g s) (k : Nat) : w.frozen? ⟨g, k, none⟩ = false := by
  obtain ⟨e, h⟩ := h
  exact h.frozen k
theorem StrsB.lt (h : StrsB w g s) : g < w.heap.size := by
  obtain ⟨e, h⟩ := h
  exact h.lt
theorem StrsB.of_block (h : StrsB w g s) (hb : w'.heap[g]? = w.heap[g]?) : StrsB w' g s := by
  obtain ⟨e, h⟩ := h
  exact ⟨e, h.of_block hb⟩
theorem StrsB.set_ (h : StrsB w g s) (k : Nat) (hk : k < s.length) (v : Bt) : StrsB (w.setCell ⟨g, k, none⟩ (.string (str v))) g (put s k v) := by
  obtain ⟨e, h⟩ := h
  refine ⟨e, ?_⟩
  have h2 := h.set_ k (.string (str v))
  rw [show (sRow s ++ e).toArray.setIfInBounds k (.string (str v)) = (sRow (put s k v) ++ e).toArray from by
    rw [List.setIfInBounds_toArray, List.set_append_left _ _ (by rw [sRow_length]; exact hk), sRow_put]] at h2
  exact h2
end

/-- What lies behind the pointer of the document's disk. -/
structure RkAt (w : World) (own : Nat → Prop) (p gb cb gn cn : Nat) (v : Value) (d : DD) : Prop where
  blk : Blk w p 49 #[.int .i64 (d.n : Int), .int .i64 d.room, .slice (some ⟨gb, 0, none⟩) d.n cb, .slice (some ⟨gn, 0, none⟩) d.n cn, .int .i64 (d.used : Int), v, .int .i64 d.fuse, .bool d.on]
  base : StrsB w gb d.base
  now : StrsB w gn d.now
  more : w.ownsRow 0 73 2 v d.more.length (wRow d.more)
  op : own p
  ob : own gb
  on_ : own gn
  om : ∀ k, v.ownBlock = some k → own k
  bn : gb ≠ gn
  low : ∀ k, own k → k < w.heap.size

def RkIs (most : Nat) (w : World) (own : Nat → Prop) (p : Nat) (d : DD) : Prop := d.ok most ∧ ∃ gb cb gn cn v, RkAt w own p gb cb gn cn v d

section
variable {w w' : World} {own : Nat → Prop} {p gb cb gn cn : Nat} {v : Value} {d : DD}

theorem blk_type {w : World} {a b : Nat} {t u : TypeId} {x y : Array Value} (h : Blk w a t x) (k : Blk w b u y) (hn : t ≠ u) : a ≠ b := by
  rintro rfl
  unfold Blk at h k
  rw [h] at k
  simp only [Option.some.injEq, Obj.cells.injEq] at k
  exact hn k.2.1

theorem own_type {w : World} {base e size n a : Nat} {v : Value} {xs : List Value} {t : TypeId} {x : Array Value} (h : w.ownsRow base e size v n xs) (k : Blk w a t x) (hn : t ≠ e) : ∀ j, v.ownBlock = some j → j ≠ a := by
  intro j hj
  rcases h.2 with ⟨rfl, _⟩ | ⟨g, cap, cur, rfl, _, hg, _⟩
  · cases hj
  · simp [Value.ownBlock] at hj
    subst hj
    exact (blk_type k hg hn).symm

theorem RkAt.pb (h : RkAt w own p gb cb gn cn v d) : p ≠ gb := by
  obtain ⟨e, hb⟩ := h.base
  exact blk_type h.blk hb (by decide)
theorem RkAt.pn (h : RkAt w own p gb cb gn cn v d) : p ≠ gn := by
  obtain ⟨e, hb⟩ := h.now
  exact blk_type h.blk hb (by decide)
theorem RkAt.vp (h : RkAt w own p gb cb gn cn v d) : ∀ j, v.ownBlock = some j → j ≠ p := own_type h.more h.blk (by decide)
theorem RkAt.vb (h : RkAt w own p gb cb gn cn v d) : ∀ j, v.ownBlock = some j → j ≠ gb := by
  obtain ⟨e, hb⟩ := h.base
  exact own_type h.more hb (by decide)
theorem RkAt.vn (h : RkAt w own p gb cb gn cn v d) : ∀ j, v.ownBlock = some j → j ≠ gn := by
  obtain ⟨e, hb⟩ := h.now
  exact own_type h.more hb (by decide)

theorem RkAt.keep (h : RkAt w own p gb cb gn cn v d) (hs : w.heap.size ≤ w'.heap.size) (hb : ∀ k, own k → w'.heap[k]? = w.heap[k]?) : RkAt w' own p gb cb gn cn v d :=
  ⟨h.blk.of_block (hb _ h.op), h.base.of_block (hb _ h.ob), h.now.of_block (hb _ h.on_), own_of_block h.more (fun k hk => hb k (h.om k hk)), h.op, h.ob, h.on_, h.om, h.bn, fun k hk => Nat.lt_of_lt_of_le (h.low k hk) hs⟩

theorem RkIs.keep {most : Nat} (h : RkIs most w own p d) (hs : w.heap.size ≤ w'.heap.size) (hb : ∀ k, own k → w'.heap[k]? = w.heap[k]?) : RkIs most w' own p d := by
  obtain ⟨h0, gb, cb, gn, cn, v, h1⟩ := h
  exact ⟨h0, gb, cb, gn, cn, v, h1.keep hs hb⟩

theorem RkIs.but {most : Nat} {S : Nat → Prop} (h : RkIs most w own p d) (hb : But S w w') (hd : ∀ k, own k → ¬ S k) : RkIs most w' own p d := by
  obtain ⟨h0, gb, cb, gn, cn, v, h1⟩ := h
  exact ⟨h0, gb, cb, gn, cn, v, h1.keep hb.size (fun k hk => hb.block k (h1.low k hk) (hd k hk))⟩

/-- .. behind stores into the struct alone. -/
theorem RkAt.turn {d' : DD} (h : RkAt w own p gb cb gn cn v d) (hb : d'.base = d.base) (hm : d'.more = d.more)
    (hk : Blk w' p 49 #[.int .i64 (d'.n : Int), .int .i64 d'.room, .slice (some ⟨gb, 0, none⟩) d'.n cb, .slice (some ⟨gn, 0, none⟩) d'.n cn, .int .i64 (d'.used : Int), v, .int .i64 d'.fuse, .bool d'.on]) (hs : w.heap.size ≤ w'.heap.size) (hr : ∀ k, k < w.heap.size → k ≠ p → w'.heap[k]? = w.heap[k]?) : RkAt w' own p gb cb gn cn v d' := by
  have hn : d'.now = d.now := by unfold DD.now; rw [hb, hm]
  refine ⟨hk, ?_, ?_, ?_, h.op, h.ob, h.on_, h.om, h.bn, fun k hk => Nat.lt_of_lt_of_le (h.low k hk) hs⟩
  · rw [hb]
    exact h.base.of_block (hr _ (h.low _ h.ob) h.pb.symm)
  · rw [hn]
    exact h.now.of_block (hr _ (h.low _ h.on_) h.pn.symm)
  · rw [hm]
    exact own_of_block h.more (fun k hk => hr k (h.low k (h.om k hk)) (h.vp k hk))
end

def RkPost (most : Nat) (own : Nat → Prop) (p : Nat) (d : DD) (r : Value) (w : World) (e : Ending) (w' : World) : Prop :=
  e = .returned r ∧ ∃ own', RkIs most w' own' p d ∧ But own w w' ∧ Grows own own' w

theorem blk8 {w : World} {p : Nat} {t : TypeId} {a b c e f g h i : Value} (k : Blk w p t #[a, b, c, e, f, g, h, i]) :
    w.cell? ⟨p, 0, none⟩ = some a ∧ w.cell? ⟨p, 1, none⟩ = some b ∧ w.cell? ⟨p, 2, none⟩ = some c ∧ w.cell? ⟨p, 3, none⟩ = some e ∧ w.cell? ⟨p, 4, none⟩ = some f ∧ w.cell? ⟨p, 5, none⟩ = some g ∧ w.cell? ⟨p, 6, none⟩ = some h ∧ w.cell? ⟨p, 7, none⟩ = some i :=
  ⟨k.cell 0, k.cell 1, k.cell 2, k.cell 3, k.cell 4, k.cell 5, k.cell 6, k.cell 7⟩
end Go.Proofs.Ytbpkgfhhoejmcaa.dk
