/- Where images differ, as lists: the same from both sides, by two steps, one fewer behind each change. -/
import Derived.Test.YtadobhfmhcaofaaImPure
namespace Go.Proofs.Ytadobhfmhcaofaa.im
open Go Go.RowKit
set_option maxRecDepth 100000

theorem pl_ne_lt {a b : List Int} {j : Nat} (h : pl a j ≠ pl b j) : j < max a.length b.length := by
  rcases Nat.lt_or_ge j (max a.length b.length) with h1 | h1
  · exact h1
  · exact absurd (by rw [pl_out (by omega), pl_out (by omega)]) h
theorem mem_iDiff {a b : List Int} {z : Int} : z ∈ iDiff a b ↔ ∃ j : Nat, pl a j ≠ pl b j ∧ z = (j : Int) := by
  unfold iDiff
  rw [mem_diffTo]
  constructor
  · rintro ⟨j, _, h2, h3⟩
    exact ⟨j, h2, h3⟩
  · rintro ⟨j, h2, h3⟩
    exact ⟨j, pl_ne_lt h2, h2, h3⟩
theorem diffTo_comm (a b : List Int) (i : Nat) : diffTo b a i = diffTo a b i := by
  unfold diffTo
  congr 1
  refine List.filter_congr fun j _ => ?_
  by_cases h : pl a j = pl b j
  · rw [h]
  · have h' : pl b j ≠ pl a j := fun e => h e.symm
    have e1 := decide_eq_true (p := pl b j ≠ pl a j) h'
    have e2 := decide_eq_true (p := pl a j ≠ pl b j) h
    rw [e1, e2]
theorem iDiff_comm (a b : List Int) : iDiff b a = iDiff a b := by
  unfold iDiff
  rw [Nat.max_comm, diffTo_comm]
theorem iDiff_self (a : List Int) : iDiff a a = [] := by
  rw [List.eq_nil_iff_forall_not_mem]
  intro z hz
  obtain ⟨j, h, _⟩ := mem_iDiff.1 hz
  exact h rfl
theorem iDiff_two {a b c : List Int} {z : Int} (h : z ∈ iDiff a c) : z ∈ iDiff a b ∨ z ∈ iDiff b c := by
  obtain ⟨j, h1, rfl⟩ := mem_iDiff.1 h
  by_cases h2 : pl a j = pl b j
  · exact .inr (mem_iDiff.2 ⟨j, fun e => h1 (h2.trans e), rfl⟩)
  · exact .inl (mem_iDiff.2 ⟨j, h2, rfl⟩)
theorem iDiff_rise (a b : List Int) : (iDiff a b).Pairwise (· < ·) := by
  unfold iDiff diffTo
  rw [List.pairwise_map]
  exact (List.pairwise_lt_range.filter _).imp (fun h => by omega)

theorem pl_set {l : List Int} {j : Nat} (hj : j < l.length) (s : Int) (i : Nat) : pl (l.set j s) i = if i = j then s else pl l i := by
  unfold pl
  rw [List.getD_eq_getElem?_getD, List.getD_eq_getElem?_getD, List.getElem?_set]
  by_cases e : j = i
  · subst e
    rw [if_pos rfl, if_pos hj, if_pos rfl]
    rfl
  · rw [if_neg e, if_neg (fun h => e h.symm)]
theorem iDiff_set {l b : List Int} {j : Nat} (hj : j < l.length) : iDiff (l.set j (pl b j)) b = (iDiff l b).filter fun z => decide (z ≠ (j : Int)) := by
  unfold iDiff diffTo
  rw [List.length_set, List.filter_map, List.filter_filter]
  congr 1
  refine List.filter_congr fun i _ => ?_
  rw [pl_set hj]
  by_cases e : i = j
  · subst e
    rw [if_pos rfl]
    simp
  · rw [if_neg e]
    have : ((i : Int) ≠ (j : Int)) := by omega
    simp [this]
theorem step_apart {ls b d : List Int} {k : Nat} (hk : k < d.length) (h : iDiff ls b = d.drop k) (hb : b.length ≤ ls.length) : ∃ j : Nat, d[k] = (j : Int) ∧ j < ls.length ∧ iDiff (ls.set j (pl b j)) b = d.drop (k + 1) := by
  have hd : d.drop k = d[k] :: d.drop (k + 1) := List.drop_eq_getElem_cons hk
  have hm : d[k] ∈ iDiff ls b := by rw [h, hd]; exact List.mem_cons_self
  obtain ⟨j, h1, h2⟩ := mem_iDiff.1 hm
  have hj : j < ls.length := by have := pl_ne_lt h1; omega
  refine ⟨j, h2, hj, ?_⟩
  rw [iDiff_set hj, h, hd, h2]
  have hr := iDiff_rise ls b
  rw [h, hd, h2, List.pairwise_cons] at hr
  rw [List.filter_cons_of_neg (by simp), List.filter_eq_self]
  intro z hz
  have := hr.1 z hz
  simp
  omega

/-- Zeros behind a list say nothing else. -/
def padTo (a : List Int) (k : Nat) : List Int := a ++ List.replicate k 0
theorem padTo_len (a : List Int) (k : Nat) : (padTo a k).length = a.length + k := by simp [padTo]
theorem padTo_succ (a : List Int) (k : Nat) : padTo a (k + 1) = padTo a k ++ [0] := by
  unfold padTo
  rw [List.replicate_succ', List.append_assoc]
end Go.Proofs.Ytadobhfmhcaofaa.im
