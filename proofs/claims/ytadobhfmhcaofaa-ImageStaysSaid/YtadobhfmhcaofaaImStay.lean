/- An image that may be, with another place. -/
import Derived.Test.YtadobhfmhcaofaaImMath
namespace Go.Proofs.Ytadobhfmhcaofaa.im
open Go Go.RowKit
set_option maxRecDepth 100000

theorem dupTo_iff {l : List Int} {m : Nat} : dupTo l m = true ↔ ∃ i j : Nat, j < i ∧ i < m ∧ pl l i ≠ 0 ∧ pl l i = pl l j := by
  constructor
  · intro h
    unfold dupTo dupAt at h
    obtain ⟨i, hi, h⟩ := List.any_eq_true.1 h
    rw [Bool.and_eq_true] at h
    obtain ⟨j, hj, h2⟩ := List.any_eq_true.1 h.2
    exact ⟨i, j, List.mem_range.1 hj, List.mem_range.1 hi, of_decide_eq_true h.1, of_decide_eq_true h2⟩
  · rintro ⟨i, j, h1, h2, h3, h4⟩
    exact dupTo_true h2 h1 h3 h4

/-- Has another block than b the sector s, of the first k? -/
def twTo (l : List Int) (b s : Int) (k : Nat) : Bool := (List.range k).any fun i => decide ((i : Int) ≠ b) && decide (pl l i = s) && decide (s ≠ 0)
theorem twTo_succ (l : List Int) (b s : Int) (k : Nat) : twTo l b s (k + 1) = (twTo l b s k || (decide ((k : Int) ≠ b) && decide (pl l k = s) && decide (s ≠ 0))) := by
  unfold twTo
  rw [List.range_succ, List.any_append, List.any_cons, List.any_nil, Bool.or_false]
theorem twTo_iff {l : List Int} {b s : Int} {k : Nat} : twTo l b s k = true ↔ ∃ i : Nat, i < k ∧ (i : Int) ≠ b ∧ pl l i = s ∧ s ≠ 0 := by
  unfold twTo
  rw [List.any_eq_true]
  constructor
  · rintro ⟨i, hi, h⟩
    rw [Bool.and_eq_true, Bool.and_eq_true] at h
    exact ⟨i, List.mem_range.1 hi, of_decide_eq_true h.1.1, of_decide_eq_true h.1.2, of_decide_eq_true h.2⟩
  · rintro ⟨i, h1, h2, h3, h4⟩
    refine ⟨i, List.mem_range.2 h1, ?_⟩
    rw [decide_eq_true h2, decide_eq_true h3, decide_eq_true h4]
    rfl

theorem any_set {l : List Int} {p : Int → Bool} (h : l.any p = false) {b : Nat} (hb : b < l.length) (s : Int) : (l.set b s).any p = p s := by
  cases hp : p s with
  | true => exact List.any_eq_true.2 ⟨s, List.mem_iff_getElem.2 ⟨b, by simpa using hb, by simp⟩, hp⟩
  | false =>
    rw [List.any_eq_false]
    intro z hz
    rcases List.mem_or_eq_of_mem_set hz with h1 | h1
    · exact List.any_eq_false.1 h z h1
    · rw [h1, hp]; decide

theorem dup_set {l : List Int} (h : dupTo l l.length = false) {b : Nat} (hb : b < l.length) (s : Int) : dupTo (l.set b s) l.length = twTo l (b : Int) s l.length := by
  have hno : ¬ ∃ i j : Nat, j < i ∧ i < l.length ∧ pl l i ≠ 0 ∧ pl l i = pl l j := by
    rw [← dupTo_iff, h]; decide
  have key : dupTo (l.set b s) l.length = true ↔ twTo l (b : Int) s l.length = true := by
    rw [dupTo_iff, twTo_iff]
    constructor
    · rintro ⟨i, j, hji, him, h0, he⟩
      rw [pl_set hb, pl_set hb] at he
      rw [pl_set hb] at h0
      by_cases e1 : i = b
      · rw [if_pos e1] at he h0
        rw [if_neg (by omega)] at he
        exact ⟨j, by omega, by omega, he.symm, h0⟩
      · rw [if_neg e1] at he h0
        by_cases e2 : j = b
        · rw [if_pos e2] at he
          exact ⟨i, him, by omega, he, by rw [← he]; exact h0⟩
        · rw [if_neg e2] at he
          exact absurd ⟨i, j, hji, him, h0, he⟩ hno
    · rintro ⟨i, h1, h2, h3, h4⟩
      have hib : i ≠ b := by omega
      rcases Nat.lt_or_ge i b with hlt | hge
      · refine ⟨b, i, hlt, hb, ?_, ?_⟩
        · rw [pl_set hb, if_pos rfl]; exact h4
        · rw [pl_set hb, pl_set hb, if_pos rfl, if_neg hib, h3]
      · refine ⟨i, b, by omega, h1, ?_, ?_⟩
        · rw [pl_set hb, if_neg hib, h3]; exact h4
        · rw [pl_set hb, pl_set hb, if_pos rfl, if_neg hib, h3]
  cases hx : twTo l (b : Int) s l.length with
  | true => exact key.2 hx
  | false =>
    cases hy : dupTo (l.set b s) l.length with
    | false => rfl
    | true => rw [key.1 hy] at hx; cases hx

/-- What is asked of it. -/
def wantS (s n : Int) (tw : Bool) : Int := if s ≠ 0 ∧ (s < 193 ∨ n ≤ s) then 2 else if tw then 16 else 0
theorem stays {l : List Int} {n : Int} (h : iCheck l l.length n = 0) {b : Nat} (hb : b < l.length) (s : Int) : iCheck (l.set b s) l.length n = wantS s n (twTo l (b : Int) s l.length) := by
  unfold iCheck at h ⊢
  by_cases h1 : (l.length : Int) < 1 ∨ 8 < (l.length : Int) ∨ (l.length : Int) ≠ (l.length : Int)
  · rw [if_pos h1] at h; cases h
  rw [if_neg h1] at h
  rw [if_neg (by rw [List.length_set]; exact h1)]
  cases ha : l.any (badP n) with
  | true => rw [ha, if_pos rfl] at h; cases h
  | false =>
    rw [ha, if_neg (by decide)] at h
    cases hd : dupTo l l.length with
    | true => rw [hd, if_pos rfl] at h; cases h
    | false =>
      rw [any_set ha hb, List.length_set, dup_set hd hb]
      unfold wantS
      have e : (badP n s = true) ↔ (s ≠ 0 ∧ (s < 193 ∨ n ≤ s)) := by
        unfold badP
        rw [Bool.and_eq_true, Bool.or_eq_true, decide_eq_true_iff, decide_eq_true_iff, decide_eq_true_iff]
      by_cases hs : s ≠ 0 ∧ (s < 193 ∨ n ≤ s)
      · rw [if_pos (e.2 hs), if_pos hs]
      · rw [if_neg (fun h => hs (e.1 h)), if_neg hs]
end Go.Proofs.Ytadobhfmhcaofaa.im
