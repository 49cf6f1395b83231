/- LnPure, LnEq, LnMem, LnCpy, LnMrk. -/
import Derived.Test.YtbbgeccbdellmaaQ0
import Derived.Lib.AppendZeros
import Derived.Laws.AppendOwnNone
import Derived.Lib.SliceRun
import Derived.LoopTactic
import Derived.BigQuiet
set_option linter.unusedVariables false
set_option linter.unusedSimpArgs false
/- Lines as plain data: which may be, which is further, what is common to two lists, what of a list stays. -/
namespace Go.Proofs.Ytbbgeccbdellmaa.ln
open Go.Proofs.Ytbbgeccbdellmaa.lg
set_option maxRecDepth 100000

/-- A line; Before is any int (log's own Ln holds one that is not below 0). -/
structure Ln where
  ep : Nat
  bf : Int
  ls : Bool
  gs : List Gd
deriving DecidableEq

/-! ### Which line may be -/
/-- The guid ahead of the i-th one (from 0 on). -/
def aheadG (l : List Gd) (i : Nat) : Gd := if i = 0 then (0, 0) else l.getD (i - 1) (0, 0)
def goodG (L : Ln) (i : Nat) : Bool := above (L.gs.getD i (0, 0)) (aheadG L.gs i) && decide ((L.gs.getD i (0, 0)).1 ≤ L.ep)
def allG (L : Ln) : Bool := (List.range L.gs.length).all (goodG L)
def nCheck (L : Ln) : Int := if 20 < L.gs.length then 3 else if allG L && (decide (0 ≤ L.bf) && decide (L.bf ≤ (L.gs.length : Int))) then 0 else 2
theorem allG_no {L : Ln} {i : Nat} (hi : i < L.gs.length) (h : goodG L i = false) : allG L = false := by
  unfold allG
  rw [List.all_eq_false]
  exact ⟨i, List.mem_range.2 hi, by simp [h]⟩
theorem allG_yes {L : Ln} (h : ∀ i, i < L.gs.length → goodG L i = true) : allG L = true := by
  unfold allG
  rw [List.all_eq_true]
  intro i hi
  exact h i (List.mem_range.1 hi)
theorem allG_all {L : Ln} (h : allG L = true) (i : Nat) (hi : i < L.gs.length) : goodG L i = true := List.all_eq_true.1 h i (List.mem_range.2 hi)

/-! ### Which one is further -/
def fur (a b : Ln) : Bool :=
  if a.ep = b.ep then if a.gs.length = b.gs.length then a.ls && !b.ls else decide (b.gs.length < a.gs.length) else decide (b.ep < a.ep)
def lMerge (a b : Ln) : Ln := if fur b a = true then b else a
theorem merge_yes {a b : Ln} (h : fur b a = true) : lMerge a b = b := by unfold lMerge; rw [if_pos h]
theorem merge_no {a b : Ln} (h : fur b a = false) : lMerge a b = a := by unfold lMerge; rw [h]; rfl
theorem merge_or (a b : Ln) : lMerge a b = a ∨ lMerge a b = b := by
  unfold lMerge
  split
  · exact .inr rfl
  · exact .inl rfl
/-- A line's place among all. -/
def rank (a : Ln) (e n s : Nat) : Prop := a.ep = e ∧ a.gs.length = n ∧ a.ls.toNat = s
theorem fur_iff (a b : Ln) : fur a b = true ↔ b.ep < a.ep ∨ (a.ep = b.ep ∧ (b.gs.length < a.gs.length ∨ (a.gs.length = b.gs.length ∧ b.ls.toNat < a.ls.toNat))) := by
  unfold fur
  split
  · rename_i h
    split
    · rename_i h2
      cases a.ls <;> cases b.ls <;> simp [h, h2]
    · rename_i h2
      simp [h, h2]
  · rename_i h
    simp [h]
theorem fur_not (a b : Ln) : fur a b = false ↔ ¬ (b.ep < a.ep ∨ (a.ep = b.ep ∧ (b.gs.length < a.gs.length ∨ (a.gs.length = b.gs.length ∧ b.ls.toNat < a.ls.toNat)))) := by
  rw [← fur_iff]
  simp
theorem toNat_inj {a b : Bool} (h : a.toNat = b.toNat) : a = b := by cases a <;> cases b <;> simp_all
theorem merge_both (a b : Ln) : (lMerge a b).ep = (lMerge b a).ep ∧ (lMerge a b).gs.length = (lMerge b a).gs.length ∧ (lMerge a b).ls = (lMerge b a).ls := by
  cases h : fur b a <;> cases h' : fur a b
  · rw [merge_no h, merge_no h']
    rw [fur_not] at h h'
    exact ⟨by omega, by omega, toNat_inj (by omega)⟩
  · rw [merge_no h, merge_yes h']; exact ⟨rfl, rfl, rfl⟩
  · rw [merge_yes h, merge_no h']; exact ⟨rfl, rfl, rfl⟩
  · rw [fur_iff] at h h'
    omega
theorem merge_ep (a b : Ln) : a.ep ≤ (lMerge a b).ep ∧ b.ep ≤ (lMerge a b).ep := by
  cases h : fur b a
  · rw [merge_no h]
    rw [fur_not] at h
    omega
  · rw [merge_yes h]
    rw [fur_iff] at h
    omega
theorem merge_top (a b : Ln) : fur a (lMerge a b) = false := by
  cases h : fur b a
  · rw [merge_no h, fur_not]
    omega
  · rw [merge_yes h, fur_not]
    rw [fur_iff] at h
    omega
theorem merge_again (a b : Ln) : lMerge (lMerge a b) a = lMerge a b := merge_no (merge_top a b)
theorem merge_three (a b c : Ln) : lMerge (lMerge a b) c = lMerge a (lMerge b c) := by
  cases h : fur b a <;> cases h' : fur c b
  · rw [merge_no h, merge_no h', merge_no h]
    apply merge_no
    rw [fur_not] at *
    omega
  · rw [merge_no h, merge_yes h']
  · rw [merge_yes h, merge_no h', merge_yes h]
  · rw [merge_yes h, merge_yes h']
    refine (merge_yes ?_).symm
    rw [fur_iff] at *
    omega

/-! ### What is common, what stays -/
def common : List Gd → List Gd → Nat
  | x :: l, y :: m => if x = y then common l m + 1 else 0
  | _, _ => 0
/-- How many first ones are of that epoch, or later ones. -/
def run (e : Nat) : List Gd → Nat
  | x :: l => if e ≤ x.1 then run e l + 1 else 0
  | [] => 0
def stays (l : List Gd) (L : Ln) : Nat := if common l L.gs = L.gs.length then common l L.gs + run L.ep (l.drop (common l L.gs)) else common l L.gs

theorem common_le : ∀ (l m : List Gd), common l m ≤ l.length ∧ common l m ≤ m.length
  | [], _ => by simp [common]
  | _ :: _, [] => by simp [common]
  | x :: l, y :: m => by
    have := common_le l m
    simp only [common, List.length_cons]
    split <;> omega
theorem common_get : ∀ (l m : List Gd) (i : Nat), i < common l m → l.getD i (0, 0) = m.getD i (0, 0)
  | [], _, i, h => by simp [common] at h
  | _ :: _, [], i, h => by simp [common] at h
  | x :: l, y :: m, i, h => by
    simp only [common] at h
    split at h
    · rename_i he
      cases i with
      | zero => simpa using he
      | succ k => simpa using common_get l m k (by omega)
    · omega
theorem common_stop : ∀ (l m : List Gd), common l m < l.length → common l m < m.length → l.getD (common l m) (0, 0) ≠ m.getD (common l m) (0, 0)
  | [], _, h, _ => by simp [common] at h
  | _ :: _, [], _, h => by simp [common] at h
  | x :: l, y :: m, h, h' => by
    simp only [common] at h h' ⊢
    split
    · rename_i he
      simp only [he, if_true, List.length_cons] at h h'
      simpa using common_stop l m (by omega) (by omega)
    · rename_i he
      simpa using he
theorem common_eq : ∀ (l m : List Gd) (k : Nat), k ≤ l.length → k ≤ m.length → (∀ i, i < k → l.getD i (0, 0) = m.getD i (0, 0)) → (k = l.length ∨ k = m.length ∨ l.getD k (0, 0) ≠ m.getD k (0, 0)) → common l m = k
  | [], _, k, h, _, _, _ => by simp only [List.length_nil] at h; simp [common]; omega
  | _ :: _, [], k, _, h, _, _ => by simp only [List.length_nil] at h; simp [common]; omega
  | x :: l, y :: m, k, h1, h2, h3, h4 => by
    simp only [common]
    cases k with
    | zero =>
      rcases h4 with h | h | h
      · simp at h
      · simp at h
      · rw [if_neg (by simpa using h)]
    | succ k =>
      rw [if_pos (by simpa using h3 0 (by omega)), common_eq l m k (by simpa using h1) (by simpa using h2) (fun i hi => by simpa using h3 (i + 1) (by omega)) (by simpa using h4)]
theorem run_le (e : Nat) : ∀ l : List Gd, run e l ≤ l.length
  | [] => by simp [run]
  | x :: l => by
    have := run_le e l
    simp only [run, List.length_cons]
    split <;> omega
theorem run_get (e : Nat) : ∀ (l : List Gd) (i : Nat), i < run e l → e ≤ (l.getD i (0, 0)).1
  | [], i, h => by simp [run] at h
  | x :: l, i, h => by
    simp only [run] at h
    split at h
    · rename_i he
      cases i with
      | zero => simpa using he
      | succ k => simpa using run_get e l k (by omega)
    · omega
theorem run_stop (e : Nat) : ∀ (l : List Gd), run e l < l.length → (l.getD (run e l) (0, 0)).1 < e
  | [], h => by simp [run] at h
  | x :: l, h => by
    simp only [run] at h ⊢
    split
    · rename_i he
      simp only [he, if_true, List.length_cons] at h
      simpa using run_stop e l (by omega)
    · rename_i he
      simpa using he
theorem run_eq (e : Nat) : ∀ (l : List Gd) (k : Nat), k ≤ l.length → (∀ i, i < k → e ≤ (l.getD i (0, 0)).1) → (k = l.length ∨ (l.getD k (0, 0)).1 < e) → run e l = k
  | [], k, h, _, _ => by simp only [List.length_nil] at h; simp [run]; omega
  | x :: l, k, h1, h2, h3 => by
    simp only [run]
    cases k with
    | zero =>
      rcases h3 with h | h
      · simp at h
      · rw [if_neg (by simpa using h)]
    | succ k =>
      rw [if_pos (by simpa using h2 0 (by omega)), run_eq e l k (by simpa using h1) (fun i hi => by simpa using h2 (i + 1) (by omega)) (by simpa using h3)]
theorem getD_drop (l : List Gd) (c i : Nat) : (l.drop c).getD i (0, 0) = l.getD (c + i) (0, 0) := by simp [List.getD_eq_getElem?_getD, List.getElem?_drop]
/-- How a loop finds what stays. -/
theorem stays_eq {l : List Gd} {L : Ln} {n : Nat} (hc : common l L.gs = L.gs.length) (h1 : common l L.gs ≤ n) (h2 : n ≤ l.length)
    (h3 : ∀ i, common l L.gs ≤ i → i < n → L.ep ≤ (l.getD i (0, 0)).1) (h4 : n = l.length ∨ (l.getD n (0, 0)).1 < L.ep) : stays l L = n := by
  unfold stays
  rw [if_pos hc, run_eq L.ep (l.drop (common l L.gs)) (n - common l L.gs) (by rw [List.length_drop]; omega)
    (fun i hi => by rw [getD_drop]; exact h3 _ (by omega) (by omega))
    (by rcases h4 with h | h
        · left; rw [List.length_drop]; omega
        · right; rw [getD_drop, show common l L.gs + (n - common l L.gs) = n from by omega]; exact h)]
  omega
theorem stays_less {l : List Gd} {L : Ln} (hc : common l L.gs < L.gs.length) : stays l L = common l L.gs := by
  unfold stays
  rw [if_neg (by omega)]
theorem stays_le (l : List Gd) (L : Ln) : common l L.gs ≤ stays l L ∧ stays l L ≤ l.length := by
  have := common_le l L.gs
  have h := run_le L.ep (l.drop (common l L.gs))
  rw [List.length_drop] at h
  unfold stays
  split <;> omega
theorem stays_get (l : List Gd) (L : Ln) (i : Nat) (h1 : common l L.gs ≤ i) (h2 : i < stays l L) : L.ep ≤ (l.getD i (0, 0)).1 := by
  unfold stays at h2
  split at h2
  · have := run_get L.ep (l.drop (common l L.gs)) (i - common l L.gs) (by omega)
    rwa [getD_drop, show common l L.gs + (i - common l L.gs) = i from by omega] at this
  · omega
theorem stays_stop (l : List Gd) (L : Ln) (hc : common l L.gs = L.gs.length) (h : stays l L < l.length) : (l.getD (stays l L) (0, 0)).1 < L.ep := by
  unfold stays at h ⊢
  rw [if_pos hc] at h ⊢
  have := run_stop L.ep (l.drop (common l L.gs)) (by rw [List.length_drop]; omega)
  rwa [getD_drop] at this
/-- The last question of what keeps: nothing, or an older one. -/
theorem stays_end (l : List Gd) (L : Ln) (h : ¬ (common l L.gs < l.length ∧ common l L.gs < L.gs.length)) : stays l L = l.length ∨ (l.getD (stays l L) (0, 0)).1 < L.ep := by
  have h1 := common_le l L.gs
  have h2 := stays_le l L
  by_cases hc : common l L.gs = L.gs.length
  · by_cases hl : stays l L < l.length
    · exact .inr (stays_stop l L hc hl)
    · left; omega
  · left; omega
theorem getD_take {l : List Gd} {n i : Nat} (h : i < n) : (l.take n).getD i (0, 0) = l.getD i (0, 0) := by simp [List.getD_eq_getElem?_getD, List.getElem?_take, h]
theorem common_take (l m : List Gd) (n : Nat) (h : common l m ≤ n) (hn : n ≤ l.length) : common (l.take n) m = common l m := by
  have h1 := common_le l m
  refine common_eq _ _ _ (by rw [List.length_take]; omega) h1.2 (fun i hi => by rw [getD_take (by omega)]; exact common_get l m i hi) ?_
  by_cases hm : common l m = m.length
  · exact .inr (.inl hm)
  · by_cases hk : common l m < n
    · exact .inr (.inr (by rw [getD_take hk]; exact common_stop l m (by omega) (by omega)))
    · left; rw [List.length_take]; omega
theorem stays_again (l : List Gd) (L : Ln) : stays (l.take (stays l L)) L = stays l L := by
  have h := stays_le l L
  have hc := common_take l L.gs (stays l L) h.1 h.2
  by_cases hm : common l L.gs = L.gs.length
  · refine stays_eq (by rw [hc]; exact hm) (by rw [hc]; exact h.1) (by rw [List.length_take]; omega) (fun i h1 h2 => ?_) (.inl (by rw [List.length_take]; omega))
    rw [hc] at h1
    rw [getD_take h2]
    exact stays_get l L i h1 h2
  · have h1 := common_le l L.gs
    rw [stays_less (by rw [hc]; omega), hc, stays_less (by omega)]
theorem getD_append {m more : List Gd} {i : Nat} (h : i < m.length) : (m ++ more).getD i (0, 0) = m.getD i (0, 0) := by simp [List.getD_eq_getElem?_getD, List.getElem?_append_left h]
theorem common_more (l m more : List Gd) (h : common l m < m.length) : common l (m ++ more) = common l m := by
  have h1 := common_le l m
  refine common_eq _ _ _ h1.1 (by rw [List.length_append]; omega) (fun i hi => by rw [getD_append (by omega)]; exact common_get l m i hi) ?_
  by_cases hl : common l m = l.length
  · exact .inl hl
  · exact .inr (.inr (by rw [getD_append h]; exact common_stop l m (by omega) h))
theorem common_mono : ∀ (l m more : List Gd), common l m ≤ common l (m ++ more)
  | [], _, _ => by simp [common]
  | _ :: _, [], _ => by simp [common]
  | x :: l, y :: m, more => by
    have := common_mono l m more
    simp only [common, List.cons_append]
    split <;> omega
theorem stays_more (l : List Gd) (L : Ln) (more : List Gd) (h : common l L.gs < L.gs.length) : stays l { L with gs := L.gs ++ more } = stays l L := by
  have hc := common_more l L.gs more h
  rw [stays_less h, stays_less (by show common l (L.gs ++ more) < (L.gs ++ more).length; rw [hc, List.length_append]; omega)]
  exact hc
theorem stays_mono (l : List Gd) (L : Ln) (more : List Gd) : common l L.gs ≤ stays l { L with gs := L.gs ++ more } :=
  Nat.le_trans (common_mono l L.gs more) (stays_le l { L with gs := L.gs ++ more }).1
end Go.Proofs.Ytbbgeccbdellmaa.ln

/- The document's answers: which guid is above which, are lists of guids alike, are lines. -/
namespace Go.Proofs.Ytbbgeccbdellmaa.ln
open Go Go.RowKit Go.Sort Go.Proofs.Ytbbgeccbdellmaa.ib Go.Proofs.Ytbbgeccbdellmaa.lg
set_option maxRecDepth 100000

/-- A line, as a value. -/
def LnAt (w : World) (v : Value) (L : Ln) : Prop := ∃ A c, v = .agg #[.int .u64 (L.ep : Int), .int .i64 L.bf, .bool L.ls, .slice A L.gs.length c] ∧ GdAt w A L.gs
theorem LnAt.below {w w' : World} {v : Value} {L : Ln} (h : LnAt w v L) (hb : Below w.heap.size w w') : LnAt w' v L := by
  obtain ⟨A, c, h1, h2⟩ := h
  exact ⟨A, c, h1, h2.below hb⟩
theorem ln_ne {L M : Ln} (h : L ≠ M) : ¬ (L.ep : Int) = (M.ep : Int) ∨ (L.ep : Int) = (M.ep : Int) ∧ (¬ L.bf = M.bf ∨ L.bf = M.bf ∧ (¬ L.ls = M.ls ∨ L.ls = M.ls ∧ ¬ L.gs = M.gs)) := by
  obtain ⟨a, b, c, d⟩ := L
  obtain ⟨a', b', c', d'⟩ := M
  simp only [Ln.mk.injEq, ne_eq, not_and] at h ⊢
  by_cases h1 : a = a'
  · by_cases h2 : b = b'
    · by_cases h3 : c = c'
      · exact .inr ⟨by omega, .inr ⟨by omega, .inr ⟨h3, h h1 h2 h3⟩⟩⟩
      · exact .inr ⟨by omega, .inr ⟨by omega, .inl h3⟩⟩
    · exact .inr ⟨by omega, .inl (by omega)⟩
  · exact .inl (by omega)

set_option maxHeartbeats 1600000 in
theorem rabove_any (a b : Gd) (w : World) : Calls Try.prog 26 #[gv a, gv b] w (endB (above a b) w) := by
  obtain ⟨a1, a2⟩ := a
  obtain ⟨b1, b2⟩ := b
  have HR : Hid (above (a1, a2) (b1, b2) = (decide ((b1 : Int) < (a1 : Int)) || (decide ((a1 : Int) = (b1 : Int)) && decide ((b2 : Int) < (a2 : Int))))) := by
    unfold Hid above
    simp [Int.ofNat_inj]
  show Calls Try.prog 26 #[.agg #[.int .u64 (a1 : Int), .int .u64 (a2 : Int)], .agg #[.int .u64 (b1 : Int), .int .u64 (b2 : Int)]] w _
  obtain ⟨r, hr⟩ : ∃ r, above (a1, a2) (b1, b2) = r := ⟨_, rfl⟩
  rw [hr] at HR ⊢
  generalize (a1 : Int) = x1 at *
  generalize (a2 : Int) = x2 at *
  generalize (b1 : Int) = y1 at *
  generalize (b2 : Int) = y2 at *
  clear hr
  have hB1 := (Below.refl w.heap.size w).alloc (Nat.le_refl _) (.cells #[.int .u64 x1, .int .u64 x2] 34)
  have HB := Lib.hid (hB1.alloc hB1.size (.cells #[.int .u64 y1, .int .u64 y2] 34))
  clear hB1
  by_cases h1 : y1 < x1
  · have HT : Hid (r = true) := by unfold Hid; rw [HR.out]; simp [h1]
    have hq : (x1 != y1) = true := by simp; omega
    clear HR
    go_enter Try.func26, Try.ntmps26
    go_wp2_with fail
    go_ret
    rw [HT.out]
    exact ⟨by simp [h1], HB.out⟩
  · by_cases h2 : x1 = y1
    · subst h2
      have hq : (x1 != x1) = false := by simp
      by_cases h3 : y2 < x2
      · have HT : Hid (r = true) := by unfold Hid; rw [HR.out]; simp [h3]
        clear HR
        go_enter Try.func26, Try.ntmps26
        go_wp2_with fail
        go_ret
        rw [HT.out]
        exact ⟨by simp [h3], HB.out⟩
      · have HT : Hid (r = false) := by unfold Hid; rw [HR.out]; simp [h3]
        clear HR
        go_enter Try.func26, Try.ntmps26
        go_wp2_with fail
        go_ret
        rw [HT.out]
        exact ⟨by simp [h3], HB.out⟩
    · have HT : Hid (r = false) := by unfold Hid; rw [HR.out]; simp [h1, h2]
      have hq : (x1 == y1) = false := by simpa using h2
      have hq2 : (x1 != y1) = true := by simpa using h2
      clear HR
      go_enter Try.func26, Try.ntmps26
      go_wp2_with fail
      go_ret
      rw [HT.out]
      exact ⟨by simp [h1], HB.out⟩

set_option maxHeartbeats 3200000 in
theorem rguids_any (A B : Option Addr) (c d : Nat) (l m : List Gd) (w : World) (hA : GdAt w A l) (hB : GdAt w B m) (hl : l.length ≤ 9223372036854775807) (hm : m.length ≤ 9223372036854775807) :
    Calls Try.prog 28 #[.slice A l.length c, .slice B m.length d] w (endB (decide (l = m)) w) := by
  have HA := Lib.hid hA
  have HB := Lib.hid hB
  clear hA hB
  by_cases hlen : l.length = m.length
  · obtain ⟨len, hln⟩ : ∃ k, l.length = k := ⟨_, rfl⟩
    have HLL := Lib.hid hln
    have HLM : Hid (m.length = len) := by unfold Hid; rw [← hln, hlen]
    rw [hln] at hl
    rw [← hlen, hln]
    have hne : ((len : Int) != (len : Int)) = false := by simp
    clear hln hlen hm
    go_enter Try.func28, Try.ntmps28
    go_wp2_with fail
    go_loopw [5] (fun i wr => SgRel l m w i wr) (fun i _ => len - (intOf i).toNat)
    case atStart => exact ⟨0, Nat.zero_le _, rfl, by rw [List.take_zero, List.take_zero], Below.refl _ _⟩
    case round =>
      obtain ⟨k, hk, rfl, ht, hB⟩ := hrel
      have HT := Lib.hid ht
      have HBW := Lib.hid hB
      rw [HLL.out] at hk
      clear ht hB
      by_cases hlt : k < len
      · have hki : (k : Int) < (len : Int) := by omega
        have hkl : k < l.length := by rw [HLL.out]; exact hlt
        have hkm : k < m.length := by rw [HLM.out]; exact hlt
        obtain ⟨b1, o1, rfl, l1, e0, e1⟩ := HA.out.below HBW.out k hkl
        obtain ⟨b2, o2, rfl, l2, f0, f1⟩ := HB.out.below HBW.out k hkm
        have HNE : Hid (l[k] ≠ m[k] → l ≠ m) := fun h e => h (by subst e; rfl)
        have HTS : Hid (l[k] = m[k] → l.take (k + 1) = m.take (k + 1)) := fun e => gtake_snoc hkl hkm HT.out e
        obtain ⟨x, hx⟩ : ∃ x, l[k] = x := ⟨_, rfl⟩
        obtain ⟨y, hy⟩ : ∃ y, m[k] = y := ⟨_, rfl⟩
        rw [hx] at e0 e1 HNE HTS
        rw [hy] at f0 f1 HNE HTS
        clear hx hy
        by_cases he : x = y
        · have HS := Lib.hid (HTS.out he)
          subst he
          clear HTS HNE
          generalize (x.1 : Int) = x1 at *
          generalize (x.2 : Int) = x2 at *
          go_wp2_with fail
          go_quiet (fail)
          have HB2 := Lib.hid (below_drewN HBW.out nq)
          go_wp2_with fail
          go_roundw
          case rel => exact ⟨k + 1, by rw [HLL.out]; omega, by go_num, HS.out, HB2.out⟩
          case measure => simp [intOf]; omega
        · have HS := Lib.hid (decide_eq_false (HNE.out he))
          have hd := gd_ne he
          clear he HTS HNE
          generalize (x.1 : Int) = x1 at *
          generalize (x.2 : Int) = x2 at *
          generalize (y.1 : Int) = y1 at *
          generalize (y.2 : Int) = y2 at *
          rcases hd with hd | ⟨rfl, hd⟩
          all_goals
            go_wp2_with fail
            go_quiet (fail)
            have HB2 := Lib.hid (below_drewN HBW.out nq)
            go_wp2_with fail
            go_ret
            exact ⟨by rw [HS.out]; rfl, HB2.out⟩
      · have hki : ¬ (k : Int) < (len : Int) := by omega
        have HEQ : Hid (decide (l = m) = true) := by
          unfold Hid
          have := HT.out
          rw [List.take_of_length_le (by rw [HLL.out]; omega), List.take_of_length_le (by rw [HLM.out]; omega)] at this
          simpa using this
        go_wp2_with fail
        go_ret
        exact ⟨by rw [HEQ.out]; rfl, HBW.out⟩
  · have HN : Hid (decide (l = m) = false) := by
      unfold Hid
      simp only [decide_eq_false_iff_not]
      rintro rfl
      exact hlen rfl
    have hli : ((l.length : Int) != (m.length : Int)) = true := by simp; omega
    clear hlen
    go_enter Try.func28, Try.ntmps28
    go_wp2_with fail
    go_ret
    exact ⟨by rw [HN.out]; rfl, Below.refl _ _⟩

set_option maxHeartbeats 3200000 in
theorem rsame_any (v u : Value) (L M : Ln) (w : World) (hv : LnAt w v L) (hu : LnAt w u M) (hl : L.gs.length ≤ 9223372036854775807) (hm : M.gs.length ≤ 9223372036854775807) :
    Calls Try.prog 13 #[v, u] w (endB (decide (L = M)) w) := by
  obtain ⟨A, c, rfl, hA⟩ := hv
  obtain ⟨B, d, rfl, hB⟩ := hu
  have HG : Hid (∀ W, Below w.heap.size w W → Calls Try.prog 28 #[.slice A L.gs.length c, .slice B M.gs.length d] W (endB (decide (L.gs = M.gs)) W)) := fun W hb => rguids_any A B c d _ _ W (hA.below hb) (hB.below hb) hl hm
  have HB2 := Lib.hid (below_new (below_new (Below.refl w.heap.size w) (.cells #[.int .u64 (L.ep : Int), .int .i64 L.bf, .bool L.ls, .slice A L.gs.length c] 25)) (.cells #[.int .u64 (M.ep : Int), .int .i64 M.bf, .bool M.ls, .slice B M.gs.length d] 25))
  clear hA hB hl hm
  by_cases he : L = M
  · subst he
    have HT : Hid (decide (L = L) = true) := decide_eq_true rfl
    rw [decide_eq_true (rfl : L.gs = L.gs)] at HG
    generalize (L.ep : Int) = e1 at *
    generalize L.bf = b1 at *
    generalize L.ls = s at *
    generalize L.gs.length = n1 at *
    have q1 : (e1 == e1) = true := by simp
    have q2 : (b1 == b1) = true := by simp
    have q3 : (s == s) = true := by simp
    rw [HT.out]
    go_enter Try.func13, Try.ntmps13
    go_wp2_with fail
    refine (HG.out _ HB2.out).mono ?_
    rintro e W3 ⟨rfl, hb3⟩
    have HB3 := Lib.hid (below_step HB2.out hb3)
    clear hb3
    go_wp2_with fail
    go_ret
    exact ⟨rfl, HB3.out⟩
  · have HT : Hid (decide (L = M) = false) := decide_eq_false he
    have hd := ln_ne he
    rw [HT.out]
    clear he HT
    obtain ⟨q, hq⟩ : ∃ q, decide (L.gs = M.gs) = q := ⟨_, rfl⟩
    rw [hq] at HG
    have hd : ¬ (L.ep : Int) = (M.ep : Int) ∨ (L.ep : Int) = (M.ep : Int) ∧ (¬ L.bf = M.bf ∨ L.bf = M.bf ∧ ((L.ls == M.ls) = false ∨ L.ls = M.ls ∧ q = false)) := by
      rcases hd with h | ⟨h1, h | ⟨h2, h | ⟨h3, h⟩⟩⟩
      · exact .inl h
      · exact .inr ⟨h1, .inl h⟩
      · exact .inr ⟨h1, .inr ⟨h2, .inl (by simpa using h)⟩⟩
      · exact .inr ⟨h1, .inr ⟨h2, .inr ⟨h3, by rw [← hq]; exact decide_eq_false h⟩⟩⟩
    clear hq
    generalize (L.ep : Int) = e1 at *
    generalize (M.ep : Int) = e2 at *
    generalize L.bf = b1 at *
    generalize M.bf = b2 at *
    generalize L.ls = s1 at *
    generalize M.ls = s2 at *
    generalize L.gs.length = n1 at *
    generalize M.gs.length = n2 at *
    rcases hd with h | ⟨rfl, h | ⟨rfl, h | ⟨rfl, rfl⟩⟩⟩
    · have q1 : (e1 == e2) = false := by simpa using h
      clear h
      go_enter Try.func13, Try.ntmps13
      go_wp2_with fail
      go_ret
      exact ⟨rfl, HB2.out⟩
    · have q1 : (e1 == e1) = true := by simp
      have q2 : (b1 == b2) = false := by simpa using h
      clear h
      go_enter Try.func13, Try.ntmps13
      go_wp2_with fail
      go_ret
      exact ⟨rfl, HB2.out⟩
    · have q1 : (e1 == e1) = true := by simp
      have q2 : (b1 == b1) = true := by simp
      go_enter Try.func13, Try.ntmps13
      go_wp2_with fail
      go_ret
      exact ⟨rfl, HB2.out⟩
    · have q1 : (e1 == e1) = true := by simp
      have q2 : (b1 == b1) = true := by simp
      have q3 : (s1 == s1) = true := by simp
      go_enter Try.func13, Try.ntmps13
      go_wp2_with fail
      refine (HG.out _ HB2.out).mono ?_
      rintro e W3 ⟨rfl, hb3⟩
      have HB3 := Lib.hid (below_step HB2.out hb3)
      clear hb3
      go_wp2_with fail
      go_ret
      exact ⟨rfl, HB3.out⟩
end Go.Proofs.Ytbbgeccbdellmaa.ln

/- Lists of guids with their room; lines by value: that came in, that a call made. -/
namespace Go.Proofs.Ytbbgeccbdellmaa.ln
open Go Go.RowKit Go.Sort Go.Proofs.Ytbbgeccbdellmaa.ib Go.Proofs.Ytbbgeccbdellmaa.lg
set_option maxRecDepth 100000

theorem gdRow_at : ∀ (l : List Gd) (j : Nat) (u : Value), (gdRow l)[j]? = some u → ∃ i k, ∃ h : i < l.length, k < 2 ∧ j = i * 2 + k ∧ (gdV l[i])[k]? = some u := by
  intro l j u h
  have hj : j < l.length * 2 := by
    have := (List.getElem?_eq_some_iff.1 h).1
    rw [gdRow_len] at this
    exact this
  have hi : j / 2 < l.length := by omega
  have hk : j % 2 < 2 := Nat.mod_lt _ (by omega)
  refine ⟨j / 2, j % 2, hi, hk, by omega, ?_⟩
  rw [← gdRow_get l (j / 2) hi (j % 2) hk, show j / 2 * 2 + j % 2 = j by omega]
  exact h
theorem gdRow_ones : ∀ (l : List Gd), ∀ u ∈ gdRow l, u.oneCell' = true
  | [] => fun u hu => by simp [gdRow] at hu
  | x :: l => fun u hu => by
    rcases List.mem_append.1 hu with h | h
    · exact gdV_ones x u h
    · exact gdRow_ones l u h
/-- Its cells, as a row. -/
theorem gdAt_row {w : World} {ad : Addr} {xs : List Gd} (h : GdAt w (some ad) xs) : ∀ (j : Nat) (u : Value), (gdRow xs)[j]? = some u → w.cell? (ad.add j) = some u := by
  intro j u hu
  obtain ⟨i, k, hi, hk, rfl, hv⟩ := gdRow_at xs j u hu
  obtain ⟨b, o, h1, h2, h3, h4⟩ := h i hi
  injection h1 with h1
  subst h1
  rw [addr_add, ← Nat.add_assoc]
  match k, hk with
  | 0, _ => simp [gdV] at hv; subst hv; exact h3
  | 1, _ => simp [gdV] at hv; subst hv; exact h4
theorem gdAt_take {w : World} {A : Option Addr} {xs : List Gd} (h : GdAt w A xs) (n : Nat) : GdAt w A (xs.take n) := fun i hi => by
  have := h i (by simp at hi; omega)
  simpa using this
/-- A slice of guids, with its room. -/
structure GdL (w : World) (A : Option Addr) (l : List Gd) (c : Nat) : Prop where
  gds : GdAt w A l
  cap : l.length ≤ c
  nil : A = none → l.length = 0 ∧ c = 0
section
variable {w w' : World} {A : Option Addr} {l : List Gd} {c : Nat}
theorem GdL.below (h : GdL w A l c) (hb : Below w.heap.size w w') : GdL w' A l c := ⟨h.gds.below hb, h.cap, h.nil⟩
theorem GdL.none (w : World) : GdL w none [] 0 := ⟨GdAt.nil _ _, Nat.le_refl _, fun _ => ⟨rfl, rfl⟩⟩
theorem GdL.take (h : GdL w A l c) (n : Nat) : GdL w A (l.take n) c := ⟨gdAt_take h.gds n, by have := h.cap; simp; omega, fun e => by have := h.nil e; rw [List.length_take]; omega⟩
end
section
variable {w w' : World} {B : Nat} {v : Value} {l : List Gd}
theorem OGd.viewL (h : OGd w B v l) : ∃ A c, v = .slice A l.length c ∧ GdL w A l c ∧ ∀ b o, A = some ⟨b, o, none⟩ → B ≤ b ∧ b < w.heap.size := by
  rcases h.2 with ⟨rfl, h0⟩ | ⟨g, cap, cur, rfl, hg, hh, hcc, hm, hcs, hcur⟩
  · obtain rfl : l = [] := List.length_eq_zero_iff.1 h0
    exact ⟨none, 0, rfl, GdL.none _, fun b o h => by cases h⟩
  · obtain ⟨A, c, e, hA⟩ := OGd.view h
    injection e with e1 e2 e3
    subst e1
    refine ⟨_, _, rfl, ⟨hA, hcc, fun h => by cases h⟩, fun b o h => ?_⟩
    simp only [Option.some.injEq, Addr.mk.injEq, and_true] at h
    obtain ⟨rfl, _⟩ := h
    exact ⟨hg, (Array.getElem?_eq_some_iff.1 hh).1⟩
theorem OGd.blk {g : Nat} (h : Blk w g 34 (gdRow l).toArray) (hB : B ≤ g) (hl : l.length ≤ 100000) : OGd w B (.slice (some ⟨g, 0, none⟩) l.length l.length) l :=
  ⟨gdRow_len l, .inr ⟨g, l.length, (gdRow l).toArray, rfl, hB, h, Nat.le_refl _, by unfold maxLen; omega, by simp [gdRow_len], by rw [List.take_of_length_le (by simp [gdRow_len])]⟩⟩
theorem OGd.app {r : List Gd} (h : w.ownsRow B 34 2 v (l.length + r.length) (gdRow l ++ gdRow r)) : OGd w B v (l ++ r) := by
  unfold OGd
  rw [gdRow_append, List.length_append]
  exact h
end
/-- A list of guids that the call made. -/
def endG (r : List Gd) (w : World) (e : Ending) (w' : World) : Prop := ∃ v, e = .returned v ∧ OGd w' w.heap.size v r ∧ Below w.heap.size w w'

/-- A line by value, its list's room known. -/
def LnL (w : World) (v : Value) (L : Ln) : Prop := ∃ A c, v = .agg #[.int .u64 (L.ep : Int), .int .i64 L.bf, .bool L.ls, .slice A L.gs.length c] ∧ GdL w A L.gs c
/-- .. that the call made. -/
def LnO (w : World) (B : Nat) (v : Value) (L : Ln) : Prop := ∃ u, v = .agg #[.int .u64 (L.ep : Int), .int .i64 L.bf, .bool L.ls, u] ∧ OGd w B u L.gs
/-- How a line's list may be copied. -/
def szL (L : Ln) : Prop := L.gs.length * 16 ≤ 140737488351232
section
variable {w w' : World} {B : Nat} {v : Value} {L : Ln}
theorem LnL.below (h : LnL w v L) (hb : Below w.heap.size w w') : LnL w' v L := by
  obtain ⟨A, c, h1, h2⟩ := h
  exact ⟨A, c, h1, h2.below hb⟩
theorem LnL.at (h : LnL w v L) : LnAt w v L := by
  obtain ⟨A, c, h1, h2⟩ := h
  exact ⟨A, c, h1, h2.gds⟩
theorem LnO.below (h : LnO w B v L) (hb : Below w.heap.size w w') : LnO w' B v L := by
  obtain ⟨u, h1, h2⟩ := h
  exact ⟨u, h1, h2.below hb⟩
theorem LnO.l (h : LnO w B v L) : LnL w v L := by
  obtain ⟨u, rfl, h2⟩ := h
  obtain ⟨A, c, rfl, h3, _⟩ := OGd.viewL h2
  exact ⟨A, c, rfl, h3⟩
theorem szL.int (h : szL L) : L.gs.length ≤ 9223372036854775807 := by
  unfold szL at h
  omega
theorem szL.merge {a b : Ln} (ha : szL a) (hb : szL b) : szL (lMerge a b) := by
  rcases merge_or a b with h | h <;> rw [h]
  · exact ha
  · exact hb
end
/-- A line that the call made. -/
def endLn (L : Ln) (w : World) (e : Ending) (w' : World) : Prop := ∃ v, e = .returned v ∧ LnO w' w.heap.size v L ∧ Below w.heap.size w w'
end Go.Proofs.Ytbbgeccbdellmaa.ln

/- What copies a list of guids: slices.Clone, the document's own. -/
namespace Go.Proofs.Ytbbgeccbdellmaa.ln
open Go Go.RowKit Go.Sort Go.Proofs.Ytbbgeccbdellmaa.ib Go.Proofs.Ytbbgeccbdellmaa.lg
set_option maxRecDepth 100000

set_option maxHeartbeats 1600000 in
theorem clone_any (A : Option Addr) (c : Nat) (l : List Gd) (w : World) (hp : GdL w A l c) (hl : l.length * 16 ≤ 140737488351232) :
    Calls Try.prog 30 #[.slice A l.length c] w (endG l w) := by
  obtain ⟨i0, hi, hz0, hz1, hz2⟩ := info_parts infoGd
  cases A with
  | none =>
    obtain ⟨h1, rfl⟩ := hp.nil rfl
    obtain rfl : l = [] := List.length_eq_zero_iff.1 h1
    clear hp
    have qn : (binOp .eql 23 (.slice none 0 0) (.slice none 0 0)).run Try.prog w = .ok (.bool true) w := Lib.run_eql_slice_nil w _ _ _ _ _ _ _ Try.underlying23
    go_enter Try.func30, Try.ntmps30
    go_wp2_with fail
    go_ret
    exact ⟨_, rfl, OGd.nil _ _, Below.refl _ _⟩
  | some ad =>
    have H0 : Hid ((w.alloc (.cells #[] 34)).ownsRow w.heap.size 34 2 (.slice (some ⟨w.heap.size, 0, none⟩) 0 0) 0 []) :=
      ⟨rfl, .inr ⟨w.heap.size, 0, #[], rfl, Nat.le_refl _, heap_alloc_new w _, Nat.le_refl _, by unfold maxLen; omega, rfl, rfl⟩⟩
    have HB := Lib.hid ((Below.refl w.heap.size w).alloc (Nat.le_refl _) (.cells #[] 34))
    have HNEWS := Lib.hid (gdAt_row (hp.gds.below HB.out))
    have HONE := Lib.hid (gdRow_ones l)
    have qn : (binOp .eql 23 (.slice (some ad) l.length c) (.slice none 0 0)).run Try.prog w = .ok (.bool false) w := Lib.run_eql_slice_nil w _ _ _ _ _ _ _ Try.underlying23
    clear hp
    go_enter Try.func30, Try.ntmps30
    go_wp2_with (at_builtin; refine wpList_append_own _ rfl (.tmp 5) (.tmp 6) 23 rfl w.heap.size 34 i0 (.agg #[.int .u64 0, .int .u64 0]) 2 16 Try.underlying23 hi hz0 hz1 hz2 rfl (by decide) _ 0 [] rfl H0.out ad l.length c (gdRow l) rfl (gdRow_len l) HNEWS.out HONE.out ?_ ?_ HB.out.size ?_)
    · unfold maxLen; omega
    · omega
    · intro v' w1 hown hgrow _
      have hb1 := HB.out.grown hgrow HB.out.size (fun j hj => (H0.out.lt j hj).1)
      have hos : OGd w1 w.heap.size v' l := by simpa [OGd] using hown
      have HO := Lib.hid hos
      have HB1 := Lib.hid hb1
      clear hown hgrow hb1 hos
      go_wp2_with fail
      go_ret
      exact ⟨_, rfl, HO.out, HB1.out⟩

def lnV (L : Ln) (u : Value) : Array Value := #[.int .u64 (L.ep : Int), .int .i64 L.bf, .bool L.ls, u]
def lnZ : Array Value := #[.int .u64 0, .int .i64 0, .bool false, .slice none 0 0]
theorem two_new (w : World) (c d : Array Value) (t u : TypeId) : Blk ((w.alloc (.cells c t)).alloc (.cells d u)) w.heap.size t c ∧ Blk ((w.alloc (.cells c t)).alloc (.cells d u)) (w.heap.size + 1) u d ∧ Below w.heap.size w ((w.alloc (.cells c t)).alloc (.cells d u)) := by
  have hs : (w.alloc (.cells c t)).heap.size = w.heap.size + 1 := by simp
  have h1 := Blk.new w t c
  have h2 := Blk.new (w.alloc (.cells c t)) u d
  rw [hs] at h2
  exact ⟨h1.below ((Below.refl _ _).alloc (Nat.le_refl _) _), h2, ((Below.refl _ w).alloc (Nat.le_refl _) _).alloc (by omega) _⟩
theorem three_new (w : World) (c d e : Array Value) (t u v : TypeId) : Blk (((w.alloc (.cells c t)).alloc (.cells d u)).alloc (.cells e v)) w.heap.size t c ∧ Blk (((w.alloc (.cells c t)).alloc (.cells d u)).alloc (.cells e v)) (w.heap.size + 1) u d ∧
    Blk (((w.alloc (.cells c t)).alloc (.cells d u)).alloc (.cells e v)) (w.heap.size + 2) v e ∧ Below w.heap.size w (((w.alloc (.cells c t)).alloc (.cells d u)).alloc (.cells e v)) := by
  have hs : (w.alloc (.cells c t)).heap.size = w.heap.size + 1 := by simp
  obtain ⟨h1, h2, h3⟩ := two_new w c d t u
  have h4 := two_new (w.alloc (.cells c t)) d e u v
  rw [hs] at h4
  have hb : Below ((w.alloc (.cells c t)).alloc (.cells d u)).heap.size ((w.alloc (.cells c t)).alloc (.cells d u)) (((w.alloc (.cells c t)).alloc (.cells d u)).alloc (.cells e v)) := (Below.refl _ _).alloc (Nat.le_refl _) _
  exact ⟨h1.below hb, h4.1, h4.2.1, h3.alloc h3.size _⟩
/-- A line's block, whole. -/
theorem blk_ln {w : World} {g : Nat} {t : TypeId} {a b c d : Value} (h : Blk w g t #[a, b, c, d]) : w.cell? ⟨g, 0, none⟩ = some a ∧ w.cell? ⟨g, 1, none⟩ = some b ∧ w.cell? ⟨g, 2, none⟩ = some c ∧ w.cell? ⟨g, 3, none⟩ = some d := ⟨h.cell 0, h.cell 1, h.cell 2, h.cell 3⟩

/-- A block that takes a whole line. -/
def lnP (W : World) (g : Nat) (a b c d : Value) : World := (((W.setCell ⟨g, 0, none⟩ a).setCell ⟨g, 1, none⟩ b).setCell ⟨g, 2, none⟩ c).setCell ⟨g, 3, none⟩ d
theorem lnP_blk {W : World} {g : Nat} {t : TypeId} {z0 z1 z2 z3 : Value} (h : Blk W g t #[z0, z1, z2, z3]) (a b c d : Value) : Blk (lnP W g a b c d) g t #[a, b, c, d] := (((h.set_ 0 a).set_ 1 b).set_ 2 c).set_ 3 d
theorem lnP_oth (W : World) (g : Nat) (a b c d : Value) {j : Nat} (h : j ≠ g) : (lnP W g a b c d).heap[j]? = W.heap[j]? := by
  unfold lnP
  rw [set_oth _ _ _ _ _ h, set_oth _ _ _ _ _ h, set_oth _ _ _ _ _ h, set_oth _ _ _ _ _ h]
theorem lnP_below {n : Nat} {w W : World} (h : Below n w W) {g : Nat} (hg : n ≤ g) (a b c d : Value) : Below n w (lnP W g a b c d) := (((h.setCell hg _).setCell hg _).setCell hg _).setCell hg _
theorem ogd_keep {W W' : World} {B : Nat} {v : Value} {l : List Gd} (h : OGd W B v l) (hk : ∀ j, B ≤ j → W'.heap[j]? = W.heap[j]?) : OGd W' B v l := row_of_block h (fun j hj => hk j (h.lt j hj).1)
theorem ogd_low {W : World} {B B' : Nat} {v : Value} {l : List Gd} (h : OGd W B v l) (hb : B' ≤ B) : OGd W B' v l := by
  refine ⟨h.1, ?_⟩
  rcases h.2 with h0 | ⟨g, cap, cur, h1, hg, h2⟩
  · exact .inl h0
  · exact .inr ⟨g, cap, cur, h1, Nat.le_trans hb hg, h2⟩
/-- Where a copy of a line ends: its list stored in the copy's box, this one whole in the result. -/
theorem own_fin {w W2 W : World} {gx : Nat} {X L : Ln} {t : TypeId} {u0 u : Value} {z0 z1 z2 z3 : Value} (hx : Blk W gx t (lnV X u0)) (hr : Blk W (gx + 1) t #[z0, z1, z2, z3]) (hb : Below gx w W2) (hb2 : Below W2.heap.size W2 W) (hl : gx + 1 < W2.heap.size)
    (hw : w.heap.size = gx) (ho : OGd W W2.heap.size u L.gs) :
    Blk (lnP (W.setCell ⟨gx, 3, none⟩ u) (gx + 1) (.int .u64 (L.ep : Int)) (.int .i64 L.bf) (.bool L.ls) u) (gx + 1) t #[.int .u64 (L.ep : Int), .int .i64 L.bf, .bool L.ls, u] ∧
    OGd (lnP (W.setCell ⟨gx, 3, none⟩ u) (gx + 1) (.int .u64 (L.ep : Int)) (.int .i64 L.bf) (.bool L.ls) u) w.heap.size u L.gs ∧ Below w.heap.size w (lnP (W.setCell ⟨gx, 3, none⟩ u) (gx + 1) (.int .u64 (L.ep : Int)) (.int .i64 L.bf) (.bool L.ls) u) := by
  refine ⟨lnP_blk (hr.of_block (set_oth _ _ _ _ _ (by omega))) _ _ _ _, ?_, ?_⟩
  · refine ogd_low (ogd_keep ho fun j hj => ?_) (by omega)
    rw [lnP_oth _ _ _ _ _ _ (by omega), set_oth _ _ _ _ _ (by omega)]
  · rw [hw]
    have h1 : Below gx w W := by
      subst hw
      exact below_step hb hb2
    exact lnP_below (h1.setCell (Nat.le_refl _) _) (by omega) _ _ _ _

set_option maxHeartbeats 1600000 in
theorem rown_any (v : Value) (L : Ln) (w : World) (hv : LnL w v L) (hz : szL L) :
    Calls Try.prog 32 #[v] w (endLn L w) := by
  obtain ⟨i0, hi, hz0, hz1, hz2⟩ := info_parts infoGd
  obtain ⟨A, c, rfl, hA⟩ := hv
  unfold szL at hz
  obtain ⟨hx, hr, hb⟩ := two_new w (lnV L (.slice A L.gs.length c)) lnZ 25 25
  unfold lnV lnZ at hx hr hb
  obtain ⟨W2, hW2⟩ : ∃ z, (w.alloc (.cells #[.int .u64 (L.ep : Int), .int .i64 L.bf, .bool L.ls, .slice A L.gs.length c] 25)).alloc (.cells #[.int .u64 0, .int .i64 0, .bool false, .slice none 0 0] 25) = z := ⟨_, rfl⟩
  rw [hW2] at hx hr hb
  have HA := Lib.hid (hA.below hb)
  have HB := Lib.hid hb
  have HX := Lib.hid hx
  have HR := Lib.hid hr
  have HL : Hid (endLn L w = fun e w' => ∃ v, e = .returned v ∧ LnO w' w.heap.size v L ∧ Below w.heap.size w w') := rfl
  have q3 := hx.cell 3
  simp only [List.getElem?_toArray, List.getElem?_cons_zero, List.getElem?_cons_succ] at q3
  have hlg := hx.lt
  have HLR := Lib.hid hr.lt
  have H0 : Hid (W2.ownsRow W2.heap.size 34 2 (.slice none 0 0) 0 []) := World.ownsRow_nil _ _ _ _
  go_enter Try.func32, Try.ntmps32
  go_upto_region 2 with fail
  try rw [hW2]
  clear hW2 hA hb hx hr
  obtain ⟨gx, hgx⟩ : ∃ g, w.heap.size = g := ⟨_, rfl⟩
  have HG := Lib.hid hgx
  rw [hgx] at HX HR HB HLR q3 hlg ⊢
  clear hgx
  cases A with
  | none =>
    obtain ⟨h1, rfl⟩ := HA.out.nil rfl
    rw [h1] at HX q3
    simp only [h1]
    have HE : Hid (L.gs = []) := List.length_eq_zero_iff.1 h1
    have hlx := HX.out.lt
    have hlr := HR.out.lt
    obtain ⟨x0, x1, x2, -⟩ := blk_ln HX.out
    obtain ⟨r0, r1, r2, r3⟩ := blk_ln HR.out
    have fx := HX.out.frozen 3
    have f0 := HR.out.frozen 0
    have f1 := HR.out.frozen 1
    have f2 := HR.out.frozen 2
    have f3 := HR.out.frozen 3
    go_wp2_with (at_builtin; refine wpList_append_own_none rfl (.tmp 4) (.tmp 6) 23 rfl W2.heap.size 34 i0 2 Try.underlying23 hi _ 0 [] rfl H0.out rfl ?_)
    clear q3
    have hf := own_fin (X := L) (L := L) HX.out HR.out HB.out (Below.refl _ _) hlr HG.out (by rw [HE.out]; exact OGd.nil _ _)
    show bodyPost _ _ _ _ _ (lnP (W2.setCell ⟨gx, 3, none⟩ (.slice none 0 0)) (gx + 1) (.int .u64 (L.ep : Int)) (.int .i64 L.bf) (.bool L.ls) (.slice none 0 0))
    obtain ⟨h1, h2, h3⟩ := hf
    generalize lnP (W2.setCell ⟨gx, 3, none⟩ (.slice none 0 0)) (gx + 1) (.int .u64 (L.ep : Int)) (.int .i64 L.bf) (.bool L.ls) (.slice none 0 0) = WF at *
    obtain ⟨q0, q1, q2, q3⟩ := blk_ln h1
    refine bodyPost_ret (v := .agg #[.int .u64 (L.ep : Int), .int .i64 L.bf, .bool L.ls, (.slice none 0 0)]) (by simp [results, Try.results32, go_sem, q0, q1, q2, q3]) rfl ?_
    exact ⟨_, rfl, ⟨_, rfl, h2⟩, h3⟩
  | some ad =>
    have HNEWS := Lib.hid (gdAt_row HA.out.gds)
    have HONE := Lib.hid (gdRow_ones L.gs)
    go_wp2_with (at_builtin; refine wpList_append_own _ rfl (.tmp 4) (.tmp 6) 23 rfl W2.heap.size 34 i0 (.agg #[.int .u64 0, .int .u64 0]) 2 16 Try.underlying23 hi hz0 hz1 hz2 rfl (by decide) _ 0 [] rfl H0.out ad L.gs.length c (gdRow L.gs) rfl (gdRow_len L.gs) HNEWS.out HONE.out ?_ ?_ (Nat.le_refl _) ?_)
    · unfold maxLen; omega
    · omega
    · intro v' w1 hown hgrow _
      have hb1 := (Below.refl W2.heap.size W2).grown hgrow (Nat.le_refl _) (fun j hj => (H0.out.lt j hj).1)
      have hos : OGd w1 W2.heap.size v' L.gs := by simpa [OGd] using hown
      obtain ⟨X, cx, rfl, -⟩ := OGd.viewL hos
      have HO := Lib.hid hos
      have HB1 := Lib.hid hb1
      have HX1 := Lib.hid (HX.out.below hb1)
      have HR1 := Lib.hid (HR.out.below hb1)
      clear hown hgrow hb1 hos HX HR q3 hlg
      have hlx := HX1.out.lt
      have hlr := HR1.out.lt
      obtain ⟨x0, x1, x2, x3⟩ := blk_ln HX1.out
      obtain ⟨r0, r1, r2, r3⟩ := blk_ln HR1.out
      have fx := HX1.out.frozen 3
      have f0 := HR1.out.frozen 0
      have f1 := HR1.out.frozen 1
      have f2 := HR1.out.frozen 2
      have f3 := HR1.out.frozen 3
      go_wp2_with fail
      have hl2 : gx + 1 < W2.heap.size := HLR.out
      have hf := own_fin (X := L) (L := L) HX1.out HR1.out HB.out HB1.out hl2 HG.out HO.out
      show bodyPost _ _ _ _ _ (lnP (w1.setCell ⟨gx, 3, none⟩ (.slice X L.gs.length cx)) (gx + 1) (.int .u64 (L.ep : Int)) (.int .i64 L.bf) (.bool L.ls) (.slice X L.gs.length cx))
      obtain ⟨h1, h2, h3⟩ := hf
      generalize lnP (w1.setCell ⟨gx, 3, none⟩ (.slice X L.gs.length cx)) (gx + 1) (.int .u64 (L.ep : Int)) (.int .i64 L.bf) (.bool L.ls) (.slice X L.gs.length cx) = WF at *
      obtain ⟨q0, q1, q2, q3⟩ := blk_ln h1
      refine bodyPost_ret (v := .agg #[.int .u64 (L.ep : Int), .int .i64 L.bf, .bool L.ls, (.slice X L.gs.length cx)]) (by simp [results, Try.results32, go_sem, q0, q1, q2, q3]) rfl ?_
      exact ⟨_, rfl, ⟨_, rfl, h2⟩, h3⟩
end Go.Proofs.Ytbbgeccbdellmaa.ln

/- The program's marks of a line. -/
namespace Go.Proofs.Ytbbgeccbdellmaa.ln
open Go Go.RowKit Go.Sort Go.Proofs.Ytbbgeccbdellmaa.ib Go.Proofs.Ytbbgeccbdellmaa.lg
set_option maxRecDepth 100000

/-- A line's marks. -/
def mkS (L : Ln) : Int := if L.ls = true then 1 else 0
def mkV (L : Ln) : Value := .agg #[.int .u64 (L.ep : Int), .int .u64 (L.gs.length : Int), .int .u64 (mkS L)]
def mkZ : Array Value := #[.int .u64 0, .int .u64 0, .int .u64 0]
theorem blk_3 {w : World} {g : Nat} {t : TypeId} {a b c : Value} (h : Blk w g t #[a, b, c]) : w.cell? ⟨g, 0, none⟩ = some a ∧ w.cell? ⟨g, 1, none⟩ = some b ∧ w.cell? ⟨g, 2, none⟩ = some c := ⟨h.cell 0, h.cell 1, h.cell 2⟩
def mkP (W : World) (g : Nat) (a b c : Value) : World := ((W.setCell ⟨g, 0, none⟩ a).setCell ⟨g, 1, none⟩ b).setCell ⟨g, 2, none⟩ c
theorem mkP_blk {W : World} {g : Nat} {t : TypeId} {z0 z1 z2 : Value} (h : Blk W g t #[z0, z1, z2]) (a b c : Value) : Blk (mkP W g a b c) g t #[a, b, c] := ((h.set_ 0 a).set_ 1 b).set_ 2 c
theorem mkP_oth (W : World) (g : Nat) (a b c : Value) {j : Nat} (h : j ≠ g) : (mkP W g a b c).heap[j]? = W.heap[j]? := by
  unfold mkP
  rw [set_oth _ _ _ _ _ h, set_oth _ _ _ _ _ h, set_oth _ _ _ _ _ h]
theorem mkP_below {n : Nat} {w W : World} (h : Below n w W) {g : Nat} (hg : n ≤ g) (a b c : Value) : Below n w (mkP W g a b c) := ((h.setCell hg _).setCell hg _).setCell hg _
set_option maxHeartbeats 1600000 in
theorem marks_any (v : Value) (L : Ln) (w : World) (hv : LnAt w v L) (hl : L.gs.length ≤ 9223372036854775807) :
    Calls Try.prog 34 #[v] w (endV (mkV L) w) := by
  obtain ⟨A, c, rfl, hA⟩ := hv
  obtain ⟨hx, hr, hb⟩ := two_new w (lnV L (.slice A L.gs.length c)) mkZ 25 48
  unfold lnV mkZ at hx hr hb
  obtain ⟨W2, hW2⟩ : ∃ z, (w.alloc (.cells #[.int .u64 (L.ep : Int), .int .i64 L.bf, .bool L.ls, .slice A L.gs.length c] 25)).alloc (.cells #[.int .u64 0, .int .u64 0, .int .u64 0] 48) = z := ⟨_, rfl⟩
  rw [hW2] at hx hr hb
  have HB := Lib.hid hb
  have HX := Lib.hid hx
  have HR := Lib.hid hr
  obtain ⟨x0, x1, x2, x3⟩ := blk_ln hx
  have hlx := hx.lt
  have hli : (L.gs.length : Int) < 18446744073709551616 := by omega
  have hl0 : (0 : Int) ≤ (L.gs.length : Int) := by omega
  go_enter Try.func34, Try.ntmps34
  go_upto_region 2 with fail
  have hb3 : Below W2.heap.size W2 (W2.alloc (.cells #[.int .u64 (L.ep : Int), .int .u64 (L.gs.length : Int), .int .u64 0] 48)) := (Below.refl _ _).alloc (Nat.le_refl _) _
  have HM : Hid (Blk (W2.alloc (.cells #[.int .u64 (L.ep : Int), .int .u64 (L.gs.length : Int), .int .u64 0] 48)) W2.heap.size 48 #[.int .u64 (L.ep : Int), .int .u64 (L.gs.length : Int), .int .u64 0]) := Blk.new _ _ _
  generalize W2.alloc (.cells #[.int .u64 (L.ep : Int), .int .u64 (L.gs.length : Int), .int .u64 0] 48) = W3 at *
  have HB3 := Lib.hid (below_step HB.out hb3)
  have HX3 := Lib.hid (HX.out.below hb3)
  have HR3 := Lib.hid (HR.out.below hb3)
  have HLR := Lib.hid HR.out.lt
  have HLX := Lib.hid HX.out.lt
  clear hW2 hA hb hr hx HX HR HB hb3 x0 x1 x2 x3 hlx
  obtain ⟨gm, hgm⟩ : ∃ g, W2.heap.size = g := ⟨_, rfl⟩
  rw [hgm] at HM HLR HLX
  try rw [hgm]
  clear hgm
  obtain ⟨x0, x1, x2, x3⟩ := blk_ln HX3.out
  obtain ⟨r0, r1, r2⟩ := blk_3 HR3.out
  obtain ⟨m0, m1, m2⟩ := blk_3 HM.out
  have hnr : w.heap.size + 1 ≠ gm := by have := HLR.out; omega
  have hlx := HX3.out.lt
  have hlr := HR3.out.lt
  have hlm := HM.out.lt
  have f0 := HR3.out.frozen 0
  have f1 := HR3.out.frozen 1
  have f2 := HR3.out.frozen 2
  have fm := HM.out.frozen 2
  have HV : Hid (mkV L = .agg #[.int .u64 (L.ep : Int), .int .u64 (L.gs.length : Int), .int .u64 (if L.ls = true then 1 else 0)]) := rfl
  cases hs : L.ls
  · rw [hs] at x2 HV
    go_wp2_with fail
    show bodyPost _ _ _ _ _ (mkP W3 (w.heap.size + 1) (.int .u64 (L.ep : Int)) (.int .u64 (L.gs.length : Int)) (.int .u64 0))
    have h1 := mkP_blk (HR3.out) (.int .u64 (L.ep : Int)) (.int .u64 (L.gs.length : Int)) (.int .u64 0)
    have h2 : Below w.heap.size w (mkP W3 (w.heap.size + 1) (.int .u64 (L.ep : Int)) (.int .u64 (L.gs.length : Int)) (.int .u64 0)) := mkP_below HB3.out (by omega) _ _ _
    generalize mkP W3 (w.heap.size + 1) (.int .u64 (L.ep : Int)) (.int .u64 (L.gs.length : Int)) (.int .u64 0) = WF at *
    obtain ⟨q0, q1, q2⟩ := blk_3 h1
    refine bodyPost_ret (v := .agg #[.int .u64 (L.ep : Int), .int .u64 (L.gs.length : Int), .int .u64 0]) (by simp [results, Try.results34, go_sem, q0, q1, q2]) rfl ?_
    exact ⟨by rw [HV.out]; rfl, h2⟩
  · rw [hs] at x2 HV
    go_wp2_with fail
    have hne : gm ≠ w.heap.size + 1 := by have := HLR.out; omega
    show bodyPost _ _ _ _ _ (mkP (W3.setCell ⟨gm, 2, none⟩ (.int .u64 1)) (w.heap.size + 1) (.int .u64 (L.ep : Int)) (.int .u64 (L.gs.length : Int)) (.int .u64 1))
    have h1 := mkP_blk (HR3.out.of_block (set_oth W3 gm 2 (.int .u64 1) (w.heap.size + 1) (Ne.symm hne))) (.int .u64 (L.ep : Int)) (.int .u64 (L.gs.length : Int)) (.int .u64 1)
    have h2 : Below w.heap.size w (mkP (W3.setCell ⟨gm, 2, none⟩ (.int .u64 1)) (w.heap.size + 1) (.int .u64 (L.ep : Int)) (.int .u64 (L.gs.length : Int)) (.int .u64 1)) := mkP_below (HB3.out.setCell (show w.heap.size ≤ gm by have := HLX.out; omega) _) (by omega) _ _ _
    generalize mkP (W3.setCell ⟨gm, 2, none⟩ (.int .u64 1)) (w.heap.size + 1) (.int .u64 (L.ep : Int)) (.int .u64 (L.gs.length : Int)) (.int .u64 1) = WF at *
    obtain ⟨q0, q1, q2⟩ := blk_3 h1
    refine bodyPost_ret (v := .agg #[.int .u64 (L.ep : Int), .int .u64 (L.gs.length : Int), .int .u64 1]) (by simp [results, Try.results34, go_sem, q0, q1, q2]) rfl ?_
    exact ⟨by rw [HV.out]; rfl, h2⟩
end Go.Proofs.Ytbbgeccbdellmaa.ln

