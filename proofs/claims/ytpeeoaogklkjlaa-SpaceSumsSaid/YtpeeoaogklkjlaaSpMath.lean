/- What follows: with what was taken there are as many less; all counts are together the places. -/
import Derived.Test.YtpeeoaogklkjlaaSpPure
namespace Go.Proofs.Ytpeeoaogklkjlaa.sp
open Go Go.RowKit
set_option maxRecDepth 100000

theorem mem_frees {cs : List Int} {i : Nat} {z : Int} : z ∈ frees cs i ↔ ∃ j : Nat, z = (j : Int) ∧ j < i ∧ 193 ≤ j ∧ cs.getD j 0 = 0 := by
  unfold frees
  simp only [List.mem_map, List.mem_filter, List.mem_range, Bool.and_eq_true, decide_eq_true_eq]
  constructor
  · rintro ⟨j, ⟨h1, h2, h3⟩, rfl⟩
    exact ⟨j, rfl, h1, h2, h3⟩
  · rintro ⟨j, rfl, h1, h2, h3⟩
    exact ⟨j, ⟨h1, h2, h3⟩, rfl⟩

/-- They rise. -/
theorem frees_rise (cs : List Int) (i : Nat) : (frees cs i).Pairwise (· < ·) := by
  unfold frees
  rw [List.pairwise_map]
  refine List.Pairwise.imp (R := fun (a b : Nat) => a < b) (fun h => by omega) ?_
  exact (List.pairwise_lt_range).filter _

/-- The next free one stands where as many are as there are below it. -/
theorem frees_at (cs : List Int) {i N : Nat} (hi : i < N) (h1 : 193 ≤ i) (h2 : cs.getD i 0 = 0) : (frees cs N)[(frees cs i).length]? = some (i : Int) := by
  obtain ⟨r, hr⟩ := frees_pre cs (i + 1) N hi
  rw [hr, frees_succ, if_pos ⟨h1, h2⟩, List.append_assoc, List.getElem?_append_right (Nat.le_refl _), Nat.sub_self]
  rfl

theorem bump_same (cs : List Int) (k : Nat) (h : k < cs.length) (h0 : cs.getD k 0 = 0) : (bump cs k).getD k 0 = 1 := by
  unfold bump
  rw [h0]
  simp [List.getD, h]
  rfl
theorem bump_other (cs : List Int) (k j : Nat) (h : j ≠ k) : (bump cs k).getD j 0 = cs.getD j 0 := by
  unfold bump
  simp [List.getD, List.getElem?_set_ne (Ne.symm h)]

theorem frees_succ_len (cs : List Int) (i : Nat) : (frees cs (i + 1)).length = (frees cs i).length + if 193 ≤ i ∧ cs.getD i 0 = 0 then 1 else 0 := by
  rw [frees_succ, List.length_append]
  split <;> rfl
theorem frees_bump (cs : List Int) (k : Nat) (h : k < cs.length) (h1 : 193 ≤ k) (h0 : cs.getD k 0 = 0) : ∀ i, (frees (bump cs k) i).length + (if k < i then 1 else 0) = (frees cs i).length
  | 0 => by simp [frees_zero]
  | i + 1 => by
    have ih := frees_bump cs k h h1 h0 i
    rw [frees_succ_len, frees_succ_len]
    by_cases e : i = k
    · subst e
      rw [bump_same cs i h h0, h0]
      split at ih <;> split <;> split <;> split <;> omega
    · rw [bump_other cs k i e]
      split at ih <;> split <;> split <;> omega

/-- Places that are free and rise, counted: as many less are free. -/
theorem cnts_free {n : Int} : ∀ (l cs : List Int), l.Pairwise (· < ·) → (∀ z ∈ l, ∃ j : Nat, z = (j : Int) ∧ j < cs.length ∧ 193 ≤ j ∧ cs.getD j 0 = 0) → ((cs.length : Int) ≤ n) →
    ∃ cs', cnts n cs l = some cs' ∧ cs'.length = cs.length ∧ sFree cs' + l.length = sFree cs
  | [], cs, _, _, _ => ⟨cs, rfl, rfl, rfl⟩
  | z :: r, cs, hp, hz, hn => by
    obtain ⟨j, rfl, h1, h2, h3⟩ := hz z (by simp)
    rw [List.pairwise_cons] at hp
    have hb := frees_bump cs j h1 h2 h3 cs.length
    rw [if_pos h1] at hb
    obtain ⟨cs', e1, e2, e3⟩ := cnts_free r (bump cs j) hp.2 (fun y hy => by
      obtain ⟨i, rfl, g1, g2, g3⟩ := hz y (by simp [hy])
      have hij : j ≠ i := by have := hp.1 _ hy; omega
      exact ⟨i, rfl, by rw [bump_len]; exact g1, g2, by rw [bump_other cs j i (Ne.symm hij)]; exact g3⟩) (by rw [bump_len]; exact hn)
    refine ⟨cs', ?_, by rw [e2, bump_len], ?_⟩
    · rw [cnts_cons, if_neg (by omega), if_neg (by omega)]
      simpa using e1
    · unfold sFree at e3 ⊢
      rw [bump_len] at e3
      simp only [List.length_cons]
      omega

/-- How many places hold a sector. -/
def nz (l : List Int) : Nat := (l.filter fun z => decide (z ≠ 0)).length
theorem nz_snoc (l : List Int) (z : Int) : nz (l ++ [z]) = nz l + if z = 0 then 0 else 1 := by
  unfold nz
  rw [List.filter_append, List.length_append]
  by_cases h : z = 0 <;> simp [h]
theorem nz_len (l : List Int) : nz l ≤ l.length := List.length_filter_le _ _

def bnd (M : Nat) (cs : List Int) : Prop := ∀ z ∈ cs, 0 ≤ z ∧ z ≤ (M : Int)
theorem sum_set : ∀ (cs : List Int) (k : Nat) (v : Int), k < cs.length → (cs.set k v).sum = cs.sum - cs.getD k 0 + v
  | [], k, v, h => by simp at h
  | c :: r, 0, v, h => by simp [List.getD]; omega
  | c :: r, k + 1, v, h => by
    have ih := sum_set r k v (by simpa using h)
    simp only [List.set_cons_succ, List.sum_cons, ih]
    simp [List.getD]
    omega

theorem cnts_sum {n : Int} : ∀ (l cs cs' : List Int) (M : Nat), cnts n cs l = some cs' → bnd M cs → ((cs.length : Int) = n) → M + l.length ≤ 1000000000 → cs'.sum = cs.sum + nz l ∧ bnd (M + l.length) cs'
  | [], cs, cs', M, h, hb, _, _ => by
    simp only [cnts, Option.some.injEq] at h
    subst h
    exact ⟨by simp [nz], hb⟩
  | k :: r, cs, cs', M, h, hb, hn, hM => by
    rw [cnts_cons] at h
    have hnz : nz (k :: r) = nz r + if k = 0 then 0 else 1 := by
      unfold nz
      by_cases hk : k = 0 <;> simp [hk]
    by_cases hk : k = 0
    · rw [if_pos hk] at h
      obtain ⟨a, b⟩ := cnts_sum r cs cs' M h hb hn (by simp at hM; omega)
      rw [hnz, if_pos hk]
      exact ⟨by simpa using a, fun z hz => by have := b z hz; simp only [List.length_cons]; omega⟩
    · rw [if_neg hk] at h
      by_cases hr : k < 193 ∨ n ≤ k
      · rw [if_pos hr] at h; cases h
      · rw [if_neg hr] at h
        have hkl : k.toNat < cs.length := by omega
        have hg : 0 ≤ cs.getD k.toNat 0 ∧ cs.getD k.toNat 0 ≤ (M : Int) := by
          have : cs.getD k.toNat 0 = cs[k.toNat] := by simp [List.getD, hkl]
          rw [this]
          exact hb _ (List.getElem_mem hkl)
        have hM' : M + (r.length + 1) ≤ 1000000000 := by simpa using hM
        have hw : wrap64 (cs.getD k.toNat 0 + 1) = cs.getD k.toNat 0 + 1 := by unfold wrap64; omega
        have hb' : bnd (M + 1) (bump cs k.toNat) := by
          intro z hz
          unfold bump at hz
          rcases List.mem_or_eq_of_mem_set hz with h1 | h1
          · have := hb z h1; omega
          · rw [h1, hw]; omega
        obtain ⟨a, b⟩ := cnts_sum r _ cs' (M + 1) h hb' (by rw [bump_len]; exact hn) (by omega)
        rw [hnz, if_neg hk]
        refine ⟨?_, fun z hz => by have := b z hz; simp only [List.length_cons]; omega⟩
        rw [a]
        unfold bump
        rw [sum_set _ _ _ hkl, hw]
        omega
end Go.Proofs.Ytpeeoaogklkjlaa.sp
