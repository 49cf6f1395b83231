/- Images as plain data: whether one may be, where two differ, one with another place. -/
import Derived.Test.YtadobhfmhcaofaaStr
import Derived.RowKit
namespace Go.Proofs.Ytadobhfmhcaofaa.im
open Go Go.RowKit
set_option maxRecDepth 100000

/-- A place; those that a list has not count as 0. -/
def pl (l : List Int) (i : Nat) : Int := l.getD i 0
theorem pl_at {l : List Int} {i : Nat} (h : i < l.length) : pl l i = l[i] := by simp [pl, List.getD, h]
theorem pl_out {l : List Int} {i : Nat} (h : l.length ≤ i) : pl l i = 0 := by simp [pl, List.getD, h]

def badP (n z : Int) : Bool := decide (z ≠ 0) && (decide (z < 193) || decide (n ≤ z))
/-- Is the i-th place one of the first k? -/
def dupAt (l : List Int) (i k : Nat) : Bool := (List.range k).any fun j => decide (pl l i = pl l j)
/-- Is one of the first i places, that is not 0, there twice? -/
def dupTo (l : List Int) (i : Nat) : Bool := (List.range i).any fun j => decide (pl l j ≠ 0) && dupAt l j j
def iCheck (l : List Int) (blocks n : Int) : Int :=
  if blocks < 1 ∨ 8 < blocks ∨ (l.length : Int) ≠ blocks then 2 else if l.any (badP n) then 2 else if dupTo l l.length then 16 else 0
def diffTo (a b : List Int) (i : Nat) : List Int := ((List.range i).filter fun j => decide (pl a j ≠ pl b j)).map fun (j : Nat) => (j : Int)
def iDiff (a b : List Int) : List Int := diffTo a b (max a.length b.length)
def iWith (l : List Int) (k s : Int) : List Int × Int := if k < 0 ∨ (l.length : Int) ≤ k ∨ s < 0 then ([], 2) else (l.set k.toNat s, 0)

theorem dupAt_succ (l : List Int) (i k : Nat) : dupAt l i (k + 1) = (dupAt l i k || decide (pl l i = pl l k)) := by
  unfold dupAt
  rw [List.range_succ, List.any_append, List.any_cons, List.any_nil, Bool.or_false]
theorem dupTo_succ (l : List Int) (i : Nat) : dupTo l (i + 1) = (dupTo l i || (decide (pl l i ≠ 0) && dupAt l i i)) := by
  unfold dupTo
  rw [List.range_succ, List.any_append, List.any_cons, List.any_nil, Bool.or_false]
theorem dupTo_true {l : List Int} {i j m : Nat} (hi : i < m) (hj : j < i) (h0 : pl l i ≠ 0) (h : pl l i = pl l j) : dupTo l m = true := by
  unfold dupTo dupAt
  rw [List.any_eq_true]
  refine ⟨i, List.mem_range.2 hi, ?_⟩
  rw [decide_eq_true h0, Bool.true_and, List.any_eq_true]
  exact ⟨j, List.mem_range.2 hj, decide_eq_true h⟩
theorem any_snoc {l : List Int} {k : Nat} (h : k < l.length) (p : Int → Bool) : (l.take (k + 1)).any p = ((l.take k).any p || p l[k]) := by
  rw [List.take_succ_eq_append_getElem h, List.any_append, List.any_cons, List.any_nil, Bool.or_false]
theorem any_at {l : List Int} {k : Nat} (h : k < l.length) {p : Int → Bool} (hp : p l[k] = true) : l.any p = true :=
  List.any_eq_true.2 ⟨_, List.getElem_mem h, hp⟩

theorem diffTo_succ (a b : List Int) (i : Nat) : diffTo a b (i + 1) = diffTo a b i ++ (if pl a i ≠ pl b i then [(i : Int)] else []) := by
  unfold diffTo
  rw [List.range_succ, List.filter_append, List.map_append]
  congr 1
  by_cases h : pl a i ≠ pl b i
  · rw [if_pos h, List.filter_cons_of_pos (by simpa using h)]
    rfl
  · rw [if_neg h, List.filter_cons_of_neg (by simpa using h)]
    rfl
theorem diffTo_len (a b : List Int) (i : Nat) : (diffTo a b i).length ≤ i := by
  unfold diffTo
  rw [List.length_map]
  exact Nat.le_trans (List.length_filter_le _ _) (by simp)
theorem iDiff_len (a b : List Int) : (iDiff a b).length ≤ max a.length b.length := diffTo_len _ _ _
theorem mem_diffTo {a b : List Int} {i : Nat} {z : Int} : z ∈ diffTo a b i ↔ ∃ j : Nat, j < i ∧ pl a j ≠ pl b j ∧ z = (j : Int) := by
  unfold diffTo
  rw [List.mem_map]
  constructor
  · rintro ⟨j, hj, rfl⟩
    have := List.mem_filter.1 hj
    exact ⟨j, List.mem_range.1 this.1, of_decide_eq_true this.2, rfl⟩
  · rintro ⟨j, h1, h2, rfl⟩
    exact ⟨j, List.mem_filter.2 ⟨List.mem_range.2 h1, decide_eq_true h2⟩, rfl⟩
theorem iWith_len (l : List Int) (k s : Int) : (iWith l k s).1.length ≤ l.length := by
  unfold iWith
  split
  · simp
  · simp
end Go.Proofs.Ytadobhfmhcaofaa.im
