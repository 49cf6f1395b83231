/- What the free sectors of a disk are, as plain data. -/
import Derived.Test.YtpeeoaogklkjlaaStr
import Derived.RowKit
namespace Go.Proofs.Ytpeeoaogklkjlaa.sp
open Go Go.RowKit
set_option maxRecDepth 100000

/-- One place more. -/
def bump (cs : List Int) (k : Nat) : List Int := cs.set k (wrap64 (cs.getD k 0 + 1))
/-- Places, one behind the other, counted; nothing, if one of them may not be. -/
def cnts (n : Int) : List Int → List Int → Option (List Int)
  | cs, [] => some cs
  | cs, k :: r => if k = 0 then cnts n cs r else if k < 193 ∨ n ≤ k then none else cnts n (bump cs k.toNat) r
def sCounts (zss : List (List Int)) (n : Int) : List Int × Int :=
  if n < 0 ∨ 1024 < n then ([], 2) else match cnts n (List.replicate n.toNat 0) zss.flatten with
    | none => ([], 2)
    | some cs => (cs, 0)
/-- The free sectors below i. -/
def frees (cs : List Int) (i : Nat) : List Int := ((List.range i).filter fun j => decide (193 ≤ j) && decide (cs.getD j 0 = 0)).map fun (j : Nat) => (j : Int)
def sFree (cs : List Int) : Nat := (frees cs cs.length).length
def sTake (cs : List Int) (n : Int) : List Int × Int :=
  if n < 0 then ([], 2) else if (sFree cs : Int) < n then ([], 7) else ((frees cs cs.length).take n.toNat, 0)

theorem bump_len (cs : List Int) (k : Nat) : (bump cs k).length = cs.length := by simp [bump]
theorem cnts_len {n : Int} : ∀ {l cs cs' : List Int}, cnts n cs l = some cs' → cs'.length = cs.length
  | [], cs, cs', h => by simp only [cnts, Option.some.injEq] at h; rw [h]
  | k :: r, cs, cs', h => by
    unfold cnts at h
    split at h
    · exact cnts_len h
    · split at h
      · cases h
      · rw [cnts_len h, bump_len]
theorem cnts_cons (n : Int) (cs : List Int) (k : Int) (r : List Int) : cnts n cs (k :: r) = if k = 0 then cnts n cs r else if k < 193 ∨ n ≤ k then none else cnts n (bump cs k.toNat) r := rfl
theorem cnts_append {n : Int} : ∀ (a b cs : List Int), cnts n cs (a ++ b) = (cnts n cs a).bind fun c => cnts n c b
  | [], b, cs => rfl
  | k :: r, b, cs => by
    show cnts n cs (k :: (r ++ b)) = _
    rw [cnts_cons, cnts_cons]
    split
    · exact cnts_append r b cs
    · split
      · rfl
      · exact cnts_append r b _
theorem cnts_snoc {n : Int} {a cs c : List Int} (h : cnts n cs a = some c) (k : Int) : cnts n cs (a ++ [k]) = if k = 0 then some c else if k < 193 ∨ n ≤ k then none else some (bump c k.toNat) := by
  rw [cnts_append, h]
  rfl
theorem cnts_none {n : Int} {a cs : List Int} (h : cnts n cs a = none) (b : List Int) : cnts n cs (a ++ b) = none := by
  rw [cnts_append, h]
  rfl

theorem frees_zero (cs : List Int) : frees cs 0 = [] := rfl
theorem frees_low (cs : List Int) (i : Nat) (h : i ≤ 193) : frees cs i = [] := by
  unfold frees
  rw [List.map_eq_nil_iff, List.filter_eq_nil_iff]
  intro j hj
  rw [List.mem_range] at hj
  simp
  omega
theorem frees_succ (cs : List Int) (i : Nat) : frees cs (i + 1) = frees cs i ++ (if 193 ≤ i ∧ cs.getD i 0 = 0 then [(i : Int)] else []) := by
  unfold frees
  rw [List.range_succ, List.filter_append, List.map_append]
  congr 1
  by_cases h1 : 193 ≤ i
  · by_cases h2 : cs.getD i 0 = 0
    · rw [if_pos ⟨h1, h2⟩, List.filter_cons_of_pos (by rw [decide_eq_true h1, decide_eq_true h2]; rfl)]
      rfl
    · rw [if_neg (fun h => h2 h.2), List.filter_cons_of_neg (by rw [decide_eq_false h2, Bool.and_false]; decide)]
      rfl
  · rw [if_neg (fun h => h1 h.1), List.filter_cons_of_neg (by rw [decide_eq_false h1, Bool.false_and]; decide)]
    rfl
theorem frees_succ_len' (cs : List Int) (i : Nat) (h : 193 ≤ i) : (frees cs (i + 1)).length = (frees cs i).length + if cs.getD i 0 = 0 then 1 else 0 := by
  rw [frees_succ, List.length_append]
  by_cases h0 : cs.getD i 0 = 0
  · rw [if_pos ⟨h, h0⟩, if_pos h0]; rfl
  · rw [if_neg (fun g => h0 g.2), if_neg h0]; rfl
theorem frees_len (cs : List Int) (i : Nat) : (frees cs i).length ≤ i := by
  unfold frees
  rw [List.length_map]
  exact Nat.le_trans (List.length_filter_le _ _) (by simp)
theorem frees_pre (cs : List Int) : ∀ (i j : Nat), i ≤ j → ∃ r, frees cs j = frees cs i ++ r
  | i, 0, h => by
    obtain rfl : i = 0 := by omega
    exact ⟨[], by simp⟩
  | i, j + 1, h => by
    by_cases e : i = j + 1
    · subst e
      exact ⟨[], by simp⟩
    · obtain ⟨r, hr⟩ := frees_pre cs i j (by omega)
      exact ⟨r ++ _, by rw [frees_succ, hr, List.append_assoc]⟩
end Go.Proofs.Ytpeeoaogklkjlaa.sp
