/- LogGrows: with more entries a lineage only grows, and in a log that may be what comes behind is of no epoch below the one that was known; of all lists and numbers. -/
import Derived.Test.YtnnjcabgaefhcaaQ0
import Derived.Test.YtnnjcabgaefhcaaQ4
import Derived.OpenShut
import Derived.Test.YtnnjcabgaefhcaaRows
import Derived.Deep.DeepHandedRow
import Derived.ProofKit
import Derived.ShutString
import Derived.SizedLaws
import Derived.ChangeOld
import Derived.Below
import Derived.SliceStrings
set_option linter.unusedVariables false
set_option linter.unusedSimpArgs false
/- With more entries a lineage only grows: as plain data. -/
namespace Go.Proofs.Ytnnjcabgaefhcaa.lg
set_option maxRecDepth 100000

theorem above_not {a b : Gd} : above a b = true ↔ b.1 < a.1 ∨ a.1 = b.1 ∧ b.2 < a.2 := by
  unfold above
  simp
/-- Each guid is above the one ahead. -/
def rising (gs : List Gd) : Prop := ∀ i, (h : i + 1 < gs.length) → above gs[i + 1] gs[i] = true
theorem rising_snoc {gs : List Gd} {g : Gd} (h : rising gs) (hb : behind gs g = true) : rising (gs ++ [g]) := by
  intro i hi
  simp only [List.length_append, List.length_singleton] at hi
  by_cases h1 : i + 1 < gs.length
  · rw [List.getElem_append_left h1, List.getElem_append_left (by omega)]
    exact h i h1
  · have h2 : i + 1 = gs.length := by omega
    rw [List.getElem_append_right (by omega), List.getElem_append_left (by omega)]
    unfold behind at hb
    rw [if_neg (by omega)] at hb
    have h3 : gs.getD (gs.length - 1) (0, 0) = gs[i] := by
      rw [show gs.length - 1 = i by omega]
      simp [List.getD, show i < gs.length by omega]
    rw [h3] at hb
    simpa [h2] using hb
theorem fold_rising (l : List En) : ∀ n, n ≤ l.length → rising (foldN l n).gs
  | 0, _ => fun i h => absurd h (by simp [foldN, ln0])
  | n + 1, h => by
    rw [fold_succ l n (by omega)]
    have hr := fold_rising l n (by omega)
    unfold says
    split
    · exact hr
    · split
      · exact hr
      · split
        · split
          · rename_i hc
            exact rising_snoc hr hc.2.2
          · exact hr
        · exact hr
/-- A step only adds. -/
theorem says_prefix (L : Ln) (x : En) : ∃ t, (says L x).gs = L.gs ++ t := by
  unfold says
  split
  · exact ⟨[], by simp⟩
  · split
    · exact ⟨[], by simp⟩
    · split
      · split
        · exact ⟨_, rfl⟩
        · exact ⟨[], by simp⟩
      · exact ⟨[], by simp⟩
theorem fold_prefix (l : List En) (f : Nat) : ∀ k, f + k ≤ l.length → ∃ t, (foldN l (f + k)).gs = (foldN l f).gs ++ t
  | 0, _ => ⟨[], by simp⟩
  | k + 1, h => by
    obtain ⟨t, ht⟩ := fold_prefix l f k (by omega)
    obtain ⟨u, hu⟩ := says_prefix (foldN l (f + k)) (l[f + k]'(by omega))
    rw [show f + (k + 1) = (f + k) + 1 by omega, fold_succ l (f + k) (by omega), hu, ht]
    exact ⟨t ++ u, by rw [List.append_assoc]⟩

/-! ### In a log that may be -/
theorem good_term {l : List En} (hg : allGood l = true) {n : Nat} (h : n < l.length) : aheadT l n ≤ l[n].t := by
  have := good_all hg n h
  unfold goodAt at this
  simp [List.getD, h] at this
  exact this.1
theorem ahead_next {l : List En} {n : Nat} (h : n < l.length) : aheadT l (n + 1) = l[n].t := by
  unfold aheadT
  rw [if_neg (by omega), Nat.add_sub_cancel]
  simp [List.getD, h]
/-- The epoch is no term that is still to come; no guid is of a later one. -/
theorem fold_ep {l : List En} (hg : allGood l = true) : ∀ n, n ≤ l.length → (foldN l n).ep ≤ aheadT l n ∧ ∀ g ∈ (foldN l n).gs, g.1 ≤ (foldN l n).ep
  | 0, _ => by simp [foldN, ln0]
  | n + 1, h => by
    have hn : n < l.length := by omega
    obtain ⟨h1, h2⟩ := fold_ep hg n (by omega)
    have h3 := good_term hg hn
    rw [fold_succ l n hn, ahead_next hn]
    unfold says
    split
    · exact ⟨Nat.le_refl _, fun g hgm => by have := h2 g hgm; simp only; omega⟩
    · split
      · exact ⟨by simp only; omega, h2⟩
      · split
        · split
          · rename_i hc
            refine ⟨by simp only; omega, fun g hgm => ?_⟩
            rcases List.mem_append.1 hgm with hm | hm
            · exact h2 g hm
            · simp only [List.mem_singleton] at hm
              subst hm
              simp only
              omega
          · exact ⟨by omega, h2⟩
        · exact ⟨by omega, h2⟩
theorem says_ep {l : List En} (hg : allGood l = true) {n : Nat} (h : n < l.length) : (foldN l n).ep ≤ (says (foldN l n) l[n]).ep := by
  have h1 := (fold_ep hg n (by omega)).1
  have h3 := good_term hg h
  unfold says
  split
  · simp only; omega
  · split
    · exact Nat.le_refl _
    · split
      · split
        · exact Nat.le_refl _
        · exact Nat.le_refl _
      · exact Nat.le_refl _
theorem fold_mono {l : List En} (hg : allGood l = true) (f : Nat) : ∀ k, f + k ≤ l.length → (foldN l f).ep ≤ (foldN l (f + k)).ep
  | 0, _ => Nat.le_refl _
  | k + 1, h => by
    have h1 := fold_mono hg f k (by omega)
    have h2 := says_ep hg (n := f + k) (by omega)
    rw [show f + (k + 1) = (f + k) + 1 by omega, fold_succ l (f + k) (by omega)]
    omega
/-- What comes behind is of no epoch below the one that was known. -/
theorem fold_later {l : List En} (hg : allGood l = true) (f : Nat) : ∀ k, f + k ≤ l.length → ∀ i, (foldN l f).gs.length ≤ i → (hi : i < (foldN l (f + k)).gs.length) → (foldN l f).ep ≤ (foldN l (f + k)).gs[i].1
  | 0, _ => fun i h1 h2 => absurd h2 (by simp only [Nat.add_zero]; omega)
  | k + 1, h => by
    intro i h1 h2
    have hk : f + k < l.length := by omega
    have ih := fold_later hg f k (by omega)
    have hm := fold_mono hg f k (by omega)
    have he : foldN l (f + (k + 1)) = says (foldN l (f + k)) (l[f + k]'hk) := by rw [show f + (k + 1) = (f + k) + 1 by omega, fold_succ l (f + k) hk]
    obtain ⟨L, hL⟩ : ∃ L, foldN l (f + k) = L := ⟨_, rfl⟩
    obtain ⟨M, hM⟩ : ∃ M, foldN l (f + (k + 1)) = M := ⟨_, rfl⟩
    rw [hL] at ih hm he
    simp only [hM] at h2 ⊢
    rw [hM] at he
    by_cases hc : (l[f + k]'hk).k = 3 ∧ (l[f + k]'hk).t = L.ep ∧ (l[f + k]'hk).e = (l[f + k]'hk).t ∧ behind L.gs ((l[f + k]'hk).e, (l[f + k]'hk).c) = true
    · have hgs : M.gs = L.gs ++ [((l[f + k]'hk).e, (l[f + k]'hk).c)] := by
        rw [he]
        unfold says
        rw [if_neg (by omega), if_neg (by omega), if_pos hc.1, if_pos hc.2]
      simp only [hgs] at h2 ⊢
      by_cases hi : i < L.gs.length
      · rw [List.getElem_append_left hi]
        exact ih i h1 hi
      · rw [List.getElem_append_right (by omega)]
        simp
        omega
    · have hgs : M.gs = L.gs := by
        rw [he]
        unfold says
        split
        · rfl
        · split
          · rfl
          · split
            · split
              · rename_i h3 h4
                exact absurd ⟨h3, h4⟩ hc
              · rfl
            · rfl
      simp only [hgs] at h2 ⊢
      exact ih i h1 h2
def hasE (l : List En) : Bool := l.any fun x => decide (x.k = 1)
/-- No epoch begins between: who took clients takes them, and the epoch stays. -/
theorem fold_leased (l : List En) (f : Nat) : ∀ k, f + k ≤ l.length → hasE ((l.drop f).take k) = false → (foldN l f).ls = true → (foldN l (f + k)).ls = true
  | 0, _, _, h => h
  | k + 1, h, hn, hl => by
    have hk : f + k < l.length := by omega
    have hkd : k < (l.drop f).length := by rw [List.length_drop]; omega
    have e : (l.drop f).take (k + 1) = (l.drop f).take k ++ [l[f + k]'hk] := by
      rw [List.take_succ_eq_append_getElem hkd, List.getElem_drop]
    rw [e] at hn
    unfold hasE at hn
    rw [List.any_append, Bool.or_eq_false_iff] at hn
    have ih := fold_leased l f k (by omega) hn.1 hl
    have hx : ¬ (l[f + k]'hk).k = 1 := by simpa using hn.2
    rw [show f + (k + 1) = (f + k) + 1 by omega, fold_succ l (f + k) hk]
    unfold says
    rw [if_neg hx]
    split
    · simp [ih]
    · split
      · split
        · exact ih
        · exact ih
      · exact ih
end Go.Proofs.Ytnnjcabgaefhcaa.lg

/- The walk of LogGrows. -/
namespace Go.Proofs.Ytnnjcabgaefhcaa.lg
open Go Go.RowKit Go.Sort Go.ChangeShapes Go.WideShapes Go.Proofs.Ytnnjcabgaefhcaa.ib
set_option maxRecDepth 100000

set_option maxHeartbeats 1600000 in
theorem labove_any (a b : Gd) (w : World) : Calls Try.prog 26 #[gv a, gv b] w (endB (above a b) w) := by
  obtain ⟨a1, a2⟩ := a
  obtain ⟨b1, b2⟩ := b
  have HR : Hid (above (a1, a2) (b1, b2) = (decide ((b1 : Int) < (a1 : Int)) || (decide ((a1 : Int) = (b1 : Int)) && decide ((b2 : Int) < (a2 : Int))))) := by
    unfold Hid above
    simp [Int.ofNat_inj]
  show Calls Try.prog 26 #[.agg #[.int .u64 (a1 : Int), .int .u64 (a2 : Int)], .agg #[.int .u64 (b1 : Int), .int .u64 (b2 : Int)]] w _
  obtain ⟨r, hr⟩ : ∃ r, above (a1, a2) (b1, b2) = r := ⟨_, rfl⟩
  rw [hr] at HR ⊢
  generalize (a1 : Int) = x1 at *
  generalize (a2 : Int) = x2 at *
  generalize (b1 : Int) = y1 at *
  generalize (b2 : Int) = y2 at *
  clear hr
  have hB1 := (Below.refl w.heap.size w).alloc (Nat.le_refl _) (.cells #[.int .u64 x1, .int .u64 x2] 33)
  have HB := Lib.hid (hB1.alloc hB1.size (.cells #[.int .u64 y1, .int .u64 y2] 33))
  clear hB1
  by_cases h1 : y1 < x1
  · have HT : Hid (r = true) := by unfold Hid; rw [HR.out]; simp [h1]
    have hq : (x1 != y1) = true := by simp; omega
    clear HR
    go_enter Try.func26, Try.ntmps26
    go_wp2_with fail
    go_ret
    rw [HT.out]
    exact ⟨by simp [h1], HB.out⟩
  · by_cases h2 : x1 = y1
    · subst h2
      have hq : (x1 != x1) = false := by simp
      by_cases h3 : y2 < x2
      · have HT : Hid (r = true) := by unfold Hid; rw [HR.out]; simp [h3]
        clear HR
        go_enter Try.func26, Try.ntmps26
        go_wp2_with fail
        go_ret
        rw [HT.out]
        exact ⟨by simp [h3], HB.out⟩
      · have HT : Hid (r = false) := by unfold Hid; rw [HR.out]; simp [h3]
        clear HR
        go_enter Try.func26, Try.ntmps26
        go_wp2_with fail
        go_ret
        rw [HT.out]
        exact ⟨by simp [h3], HB.out⟩
    · have HT : Hid (r = false) := by unfold Hid; rw [HR.out]; simp [h1, h2]
      have hq : (x1 == y1) = false := by simpa using h2
      have hq2 : (x1 != y1) = true := by simpa using h2
      clear HR
      go_enter Try.func26, Try.ntmps26
      go_wp2_with fail
      go_ret
      rw [HT.out]
      exact ⟨by simp [h1], HB.out⟩

def HeRel (l : List En) (w : World) (i : Value) (wr : World) : Prop :=
  ∃ k : Nat, k ≤ l.length ∧ i = .int .i64 (k : Int) ∧ (∀ j, j < k → ∀ hj : j < l.length, ¬ l[j].k = 1) ∧ wr = w
theorem hasE_yes {l : List En} {k : Nat} (hk : k < l.length) (h : l[k].k = 1) : hasE l = true := by
  unfold hasE
  rw [List.any_eq_true]
  exact ⟨_, List.getElem_mem hk, by simpa using h⟩
theorem hasE_no {l : List En} (h : ∀ j, ∀ hj : j < l.length, ¬ l[j].k = 1) : hasE l = false := by
  unfold hasE
  rw [List.any_eq_false]
  intro x hx
  obtain ⟨i, hi, rfl⟩ := List.getElem_of_mem hx
  simpa using h i hi
set_option maxHeartbeats 1600000 in
theorem hasEpoch_any (A : Option Addr) (c : Nat) (l : List En) (w : World) (h : EnAt w A l) (hl : l.length ≤ 4000) : Calls Try.prog 27 #[.slice A l.length c] w (sameB (hasE l) w) := by
  have HA := Lib.hid h
  have HY := Lib.hid (fun k hk h => hasE_yes (l := l) (k := k) hk h)
  have HN := Lib.hid (fun h => hasE_no (l := l) h)
  obtain ⟨r, hr⟩ : ∃ r, hasE l = r := ⟨_, rfl⟩
  rw [hr] at HY HN ⊢
  clear h hr
  go_enter Try.func27, Try.ntmps27
  go_wp2_with fail
  go_loopw [3] (fun i wr => HeRel l w i wr) (fun i _ => l.length - (intOf i).toNat)
  case atStart => exact ⟨0, Nat.zero_le _, rfl, fun j hj => absurd hj (by omega), rfl⟩
  case round =>
    obtain ⟨k, hk, rfl, hn, hw⟩ := hrel
    have HK := Lib.hid hn
    subst hw
    clear hn
    by_cases hlt : k < l.length
    · have hki : (k : Int) < (l.length : Int) := by omega
      obtain ⟨b1, o1, rfl, l1, e0, e1, -⟩ := HA.out k hlt
      by_cases h1 : l[k].k = 1
      · obtain rfl := HY.out k hlt h1
        rw [h1] at e1
        clear e0 h1
        go_wp2_with fail
        go_ret
        exact ⟨rfl, rfl⟩
      · have hq : (l[k].k == 1) = false := by simpa using h1
        have HK2 : Hid (∀ j, j < k + 1 → ∀ hj : j < l.length, ¬ l[j].k = 1) := fun j hj hjl => by
          by_cases hjk : j = k
          · subst hjk; exact h1
          · exact HK.out j (by omega) hjl
        generalize l[k].k = z at *
        clear e0 h1
        go_wp2_with fail
        go_roundw
        case rel => exact ⟨k + 1, by omega, by go_num, HK2.out, rfl⟩
        case measure => simp [intOf]; omega
    · have hki : ¬ (k : Int) < (l.length : Int) := by omega
      obtain rfl := HN.out (fun j hj => HK.out j (by omega) hj)
      go_wp2_with fail
      go_ret
      exact ⟨rfl, rfl⟩

def GsRel (n : Nat) (W0 : World) (i : Value) (wr : World) : Prop :=
  ∃ k : Nat, k ≤ n ∧ i = .int .i64 ((k : Int) + 1) ∧ Below W0.heap.size W0 wr
def GtRel (a n : Nat) (W0 : World) (i : Value) (wr : World) : Prop :=
  ∃ k : Nat, k ≤ n ∧ i = .int .i64 ((a + k : Nat) : Int) ∧ Below W0.heap.size W0 wr
def GrRel (n : Nat) (W0 : World) (i : Value) (wr : World) : Prop :=
  ∃ k : Nat, k ≤ n ∧ i = .int .i64 (k : Int) ∧ Below W0.heap.size W0 wr
set_option maxHeartbeats 12800000 in
theorem logGrows_walk (A : Option Addr) (c : Nat) (l : List En) (p : Int) (hp : (Lit.int .i64 p).wf = true) (q : Int) (hq : (Lit.int .i64 q).wf = true) (w : World) (hl : l.length ≤ 9223372036854775807) (hA : EnL w A l c) :
    Calls Try.prog 8 #[.slice A l.length c, .int .i64 p, .int .i64 q] w (endB true w) := by
  have HO := Lib.hid (own_new A c l w hA hl)
  have hl4 : (l.take 400).length ≤ 400 := by rw [List.length_take]; omega
  clear hA hl hp hq
  go_enter Try.func8, Try.ntmps8
  go_wp2_with fail
  refine HO.out.mono ?_
  rintro e W1 ⟨A1, c1, rfl, hE, -, hb⟩
  have E1 := Lib.hid hE
  have B1 := Lib.hid hb
  clear hE hb HO
  generalize l.take 400 = x at *
  dsimp only
  obtain ⟨f, hf⟩ : ∃ f : Nat, (f : Int) = max 0 (min p (x.length : Int)) := ⟨(max 0 (min p (x.length : Int))).toNat, by omega⟩
  obtain ⟨m, hm⟩ : ∃ m : Nat, (m : Int) = max (f : Int) (min q (x.length : Int)) := ⟨(max (f : Int) (min q (x.length : Int))).toNat, by omega⟩
  have hfm : f ≤ m := by omega
  have hml : m ≤ x.length := by omega
  have HF := Lib.hid hf
  have HM := Lib.hid hm
  clear hf hm
  go_upto_region 2 with fail
  go_cut [1] (fun t wx => t = .int .i64 (f : Int) ∧ wx = W1)
  case first =>
    go_wp2
    all_goals
      go_meet
      case rel =>
        refine ⟨?_, rfl⟩
        have hf := HF.out
        congr 1
        first | omega | (split at * <;> omega)
  case rest =>
  obtain ⟨rfl, rfl⟩ := hcut
  go_upto_region 3 with fail
  go_cut [2] (fun t wx => t = .int .i64 (m : Int) ∧ wx = wc)
  case first =>
    go_wp2
    all_goals
      go_meet
      case rel =>
        refine ⟨?_, rfl⟩
        have hm := HM.out
        congr 1
        first | omega | (split at * <;> omega)
  case rest =>
  obtain ⟨rfl, rfl⟩ := hcut
  have hfa := fold_any A1 c1 x (f : Int) wc E1.out (by omega)
  have hfb := fun W h => fold_any A1 c1 x (m : Int) W (E1.out.below h) (by omega)
  unfold lFold at hfa hfb
  rw [Int.toNat_natCast] at hfa hfb
  have HFA := Lib.hid hfa
  have HFB := Lib.hid hfb
  clear hfa hfb
  go_wp2_with fail
  refine HFA.out.mono ?_
  rintro e W2 ⟨v2, rfl, hv, hb⟩
  have E2 := Lib.hid (E1.out.below hb)
  have B2 := Lib.hid (below_step B1.out hb)
  have D2 := Lib.hid hb
  have V2 := Lib.hid hv
  clear hv hb HFA
  go_wp2_with fail
  refine (HFB.out W2 D2.out).mono ?_
  rintro e W3 ⟨v3, rfl, hv, hb⟩
  have E3 := Lib.hid (E2.out.below hb)
  have B3 := Lib.hid (below_step B2.out hb)
  obtain ⟨Aa, ca, rfl, ha⟩ := V2.out.below hb
  obtain ⟨Ab, cb, rfl, hbb⟩ := hv
  have GA := Lib.hid ha
  have GB := Lib.hid hbb
  clear ha hbb hb HFB V2 D2
  go_upto_region 5 with fail
  have HP1 : Hid (∃ t, (foldN x m).gs = (foldN x f).gs ++ t) := by
    have := fold_prefix x f (m - f) (by omega)
    rwa [show f + (m - f) = m by omega] at this
  have HP2 := Lib.hid (fold_bf x m hml)
  have HP3 := Lib.hid (fold_rising x m hml)
  have HP4 : Hid (allGood x = true → ∀ i, (foldN x f).gs.length ≤ i → (hi : i < (foldN x m).gs.length) → (foldN x f).ep ≤ (foldN x m).gs[i].1) := fun hg => by
    have := fold_later hg f (m - f) (by omega)
    rw [show f + (m - f) = m by omega] at this
    exact this
  have HP5 : Hid (allGood x = true → ∀ g ∈ (foldN x m).gs, g.1 ≤ (foldN x m).ep) := fun hg => (fold_ep hg m hml).2
  have HP6 : Hid (allGood x = true → (foldN x f).ep ≤ (foldN x m).ep) := fun hg => by
    have := fold_mono hg f (m - f) (by omega)
    rwa [show f + (m - f) = m by omega] at this
  have HP7 : Hid (hasE ((x.drop f).take (m - f)) = false → (foldN x f).ls = true → (foldN x m).ls = true) := by
    have := fold_leased x f (m - f) (by omega)
    rwa [show f + (m - f) = m by omega] at this
  have hla : (foldN x f).gs.length ≤ 400 := Nat.le_trans (fold_len x f (by omega)) (by omega)
  have hlb : (foldN x m).gs.length ≤ 400 := Nat.le_trans (fold_len x m (by omega)) (by omega)
  have HCK := Lib.hid (check_ok (l := x))
  generalize foldN x f = L at *
  generalize foldN x m = M at *
  obtain ⟨W4, hW4⟩ : ∃ z, (W3.alloc (.cells #[.int .u64 (L.ep : Int), .int .i64 (L.bf : Int), .bool L.ls, .slice Aa L.gs.length ca] 40)).alloc (.cells #[.int .u64 (M.ep : Int), .int .i64 (M.bf : Int), .bool M.ls, .slice Ab M.gs.length cb] 40) = z := ⟨_, rfl⟩
  have hb4 : Below W3.heap.size W3 W4 := by rw [← hW4]; exact below_new (below_new (Below.refl _ _) _) _
  have hka : Blk W4 W3.heap.size 40 #[.int .u64 (L.ep : Int), .int .i64 (L.bf : Int), .bool L.ls, .slice Aa L.gs.length ca] := by
    rw [← hW4]
    exact (Blk.new W3 _ _).below ((Below.refl _ _).alloc (Nat.le_refl _) _)
  have hkb : Blk W4 (W3.heap.size + 1) 40 #[.int .u64 (M.ep : Int), .int .i64 (M.bf : Int), .bool M.ls, .slice Ab M.gs.length cb] := by
    rw [← hW4]
    have := Blk.new (W3.alloc (.cells #[.int .u64 (L.ep : Int), .int .i64 (L.bf : Int), .bool L.ls, .slice Aa L.gs.length ca] 40)) 40 #[.int .u64 (M.ep : Int), .int .i64 (M.bf : Int), .bool M.ls, .slice Ab M.gs.length cb]
    simpa using this
  rw [hW4]
  have E4 := Lib.hid (E3.out.below hb4)
  have GA4 := Lib.hid (GA.out.below hb4)
  have GB4 := Lib.hid (GB.out.below hb4)
  have B4 := Lib.hid (below_step B3.out hb4)
  obtain ⟨ga, hga⟩ : ∃ g, W3.heap.size = g := ⟨_, rfl⟩
  obtain ⟨gb, hgb⟩ : ∃ g, W3.heap.size + 1 = g := ⟨_, rfl⟩
  rw [hga] at hka
  rw [hgb] at hkb
  rw [hgb, hga]
  have KA := Lib.hid hka
  have KB := Lib.hid hkb
  clear hga hgb hW4 hb4 hka hkb GA GB E3 B3
  have HLEN : Hid (L.gs.length ≤ M.gs.length) := by
    obtain ⟨t, ht⟩ := HP1.out
    unfold Hid
    rw [ht, List.length_append]
    omega
  have HEQ : Hid (∀ i, (h1 : i < L.gs.length) → (h2 : i < M.gs.length) → L.gs[i] = M.gs[i]) := by
    obtain ⟨t, ht⟩ := HP1.out
    intro i h1 h2
    simp only [ht]
    rw [List.getElem_append_left h1]
  obtain ⟨c0, c1', c2, c3⟩ := blk_agg4 KA.out
  obtain ⟨d0, d1, d2, d3⟩ := blk_agg4 KB.out
  have hga := KA.out.lt
  have hgb := KB.out.lt
  have hi1 : ¬ (M.gs.length : Int) < (L.gs.length : Int) := by have := HLEN.out; omega
  have hi2 : ¬ (M.gs.length : Int) < (M.bf : Int) := by have := HP2.out; omega
  clear HP1
  go_wp2_with fail
  go_loopw [9] (fun i wr => GrRel L.gs.length W4 i wr) (fun i _ => L.gs.length - (intOf i).toNat)
  case atStart => exact ⟨0, Nat.zero_le _, rfl, Below.refl _ _⟩
  case round =>
    obtain ⟨k, hk, rfl, hb⟩ := hrel
    have DR := Lib.hid hb
    obtain ⟨c0, c1', c2, c3⟩ := blk_agg4 (KA.out.below hb)
    obtain ⟨d0, d1, d2, d3⟩ := blk_agg4 (KB.out.below hb)
    have hga := (KA.out.below hb).lt
    have hgb := (KB.out.below hb).lt
    clear hb
    by_cases hlt : k < L.gs.length
    · have hki : (k : Int) < (L.gs.length : Int) := by omega
      have hkm : k < M.gs.length := Nat.lt_of_lt_of_le hlt HLEN.out
      have hkj : (k : Int) < (M.gs.length : Int) := by omega
      have he := HEQ.out k hlt hkm
      obtain ⟨b1, o1, rfl, l1, e0, e1⟩ := GA4.out.below DR.out k hlt
      obtain ⟨b2, o2, rfl, l2, f0, f1⟩ := GB4.out.below DR.out k hkm
      rw [he] at e0 e1
      generalize (M.gs[k].1 : Int) = y1 at *
      generalize (M.gs[k].2 : Int) = y2 at *
      clear he
      go_wp2_with fail
      go_quiet (fail)
      have DQ := Lib.hid (below_drewN DR.out nq)
      go_wp2_with fail
      go_roundw
      case rel => exact ⟨k + 1, by omega, by go_num, DQ.out⟩
      case measure => simp [intOf]; omega
    · have hki : ¬ (k : Int) < (L.gs.length : Int) := by omega
      obtain ⟨W5, hW5⟩ : ∃ z, z = wr := ⟨_, rfl⟩
      subst hW5
      have E5 := Lib.hid (E4.out.below DR.out)
      have GA5 := Lib.hid (GA4.out.below DR.out)
      have GB5 := Lib.hid (GB4.out.below DR.out)
      have KA5 := Lib.hid (KA.out.below DR.out)
      have KB5 := Lib.hid (KB.out.below DR.out)
      have B5 := Lib.hid (below_step B4.out DR.out)
      clear E4 GA4 GB4 KA KB B4 DR hk hlt HEQ
      go_wp2_with fail
      go_loopw [10] (fun i wr => GsRel (M.gs.length + 1) W5 i wr) (fun i _ => M.gs.length + 1 - (intOf i).toNat)
      case atStart => exact ⟨0, by omega, rfl, Below.refl _ _⟩
      case round =>
        obtain ⟨k, hk, rfl, hb⟩ := hrel
        have DR := Lib.hid hb
        obtain ⟨c0, c1', c2, c3⟩ := blk_agg4 (KA5.out.below hb)
        obtain ⟨d0, d1, d2, d3⟩ := blk_agg4 (KB5.out.below hb)
        have hga := (KA5.out.below hb).lt
        have hgb := (KB5.out.below hb).lt
        clear hb
        by_cases hlt : k + 1 < M.gs.length
        · have hki : (k : Int) + 1 < (M.gs.length : Int) := by omega
          have hrs := HP3.out k hlt
          have hk0 : k < M.gs.length := by omega
          have hki0 : (k : Int) < (M.gs.length : Int) := by omega
          obtain ⟨b1, o1, rfl, l1, e0, e1⟩ := GB5.out.below DR.out (k + 1) hlt
          obtain ⟨b2, o2, h2, -, f0, f1⟩ := GB5.out.below DR.out k hk0
          simp only [Option.some.injEq, Addr.mk.injEq, and_true] at h2
          obtain ⟨rfl, rfl⟩ := h2
          have hAB := fun W => labove_any M.gs[k + 1] (M.gs[k]'hk0) W
          rw [hrs] at hAB
          obtain ⟨y, hy⟩ : ∃ y, M.gs[k + 1] = y := ⟨_, rfl⟩
          obtain ⟨z, hz⟩ : ∃ z, M.gs[k]'hk0 = z := ⟨_, rfl⟩
          rw [hy] at hAB e0 e1
          rw [hz] at hAB f0 f1
          have cA : ∀ d os, Calls Try.prog 26 #[.agg #[.int .u64 (y.1 : Int), .int .u64 (y.2 : Int)], .agg #[.int .u64 (z.1 : Int), .int .u64 (z.2 : Int)]] (grow (redrawn wr d) os) fun e w'' => e = .returned (.bool true) ∧ ∃ p : Regrown, w'' = grow (redrawn wr p.d) p.os :=
            fun d os => Calls.regrown_of (hAB _)
          have m3 : ∀ d os, (grow (redrawn wr d) os).cell? ⟨gb, 3, none⟩ = some (.slice (some ⟨b1, o1, none⟩) M.gs.length cb) := fun d os => cell_regrown d3 d os
          have n0 : ∀ d os, (grow (redrawn wr d) os).cell? ⟨b1, o1 + (k + 1) * 2, none⟩ = some (.int .u64 (y.1 : Int)) := fun d os => cell_regrown e0 d os
          have n1 : ∀ d os, (grow (redrawn wr d) os).cell? ⟨b1, o1 + (k + 1) * 2 + 1, none⟩ = some (.int .u64 (y.2 : Int)) := fun d os => cell_regrown e1 d os
          have r0 : ∀ d os, (grow (redrawn wr d) os).cell? ⟨b1, o1 + k * 2, none⟩ = some (.int .u64 (z.1 : Int)) := fun d os => cell_regrown f0 d os
          have r1 : ∀ d os, (grow (redrawn wr d) os).cell? ⟨b1, o1 + k * 2 + 1, none⟩ = some (.int .u64 (z.2 : Int)) := fun d os => cell_regrown f1 d os
          have hwk : IntKind.i64.wrap (k : Int) = (k : Int) := IntWalk.i64_in _ (by omega)
          have hwk2 : IntKind.i64.wrap ((k : Int) + 1 - 1) = (k : Int) := by rw [IntWalk.i64_in _ (by omega)]; omega
          clear hrs hAB hy hz e0 e1 f0 f1 c0 c1' c2 c3 d0 d1 d2
          go_upto_region 15 with fail
          refine wp_region_quiet_below rmixed (by kernel_rfl) ?_
          repeat (any_goals (first | go_big_quiet_step (exact cA _ _) | quiet_step (exact cA _ _)))
          refine wpQuiet_nil ?_
          intro _ hw'
          obtain ⟨⟨dq, osq⟩, hw''⟩ := hw'
          subst hw''
          have DQ := Lib.hid (below_step DR.out (below_regrown wr dq osq))
          clear cA m3 n0 n1 r0 r1 hwk hwk2 d3
          go_wp2_with fail
          go_roundw
          case rel => exact ⟨k + 1, by omega, by go_num, DQ.out⟩
          case measure => simp [intOf]; omega
        · have hki : ¬ (k : Int) + 1 < (M.gs.length : Int) := by omega
          obtain ⟨W6, hW6⟩ : ∃ z, z = wr := ⟨_, rfl⟩
          subst hW6
          have E6 := Lib.hid (E5.out.below DR.out)
          have GB6 := Lib.hid (GB5.out.below DR.out)
          have KA6 := Lib.hid (KA5.out.below DR.out)
          have KB6 := Lib.hid (KB5.out.below DR.out)
          have B6 := Lib.hid (below_step B5.out DR.out)
          clear E5 GA5 GB5 KA5 KB5 B5 DR hk hlt HP3
          have hck := check_any A1 c1 x W6 E6.out.ents (by omega)
          by_cases hr0 : lCheck x = 0
          · obtain ⟨-, hgood⟩ := HCK.out.1 hr0
            have P4 := Lib.hid (HP4.out hgood)
            have P5 := Lib.hid (HP5.out hgood)
            have P6 := HP6.out hgood
            rw [hr0] at hck
            have HC := Lib.hid hck
            clear hck hr0 hgood HP4 HP5 HP6 HCK
            go_wp2_with fail
            refine HC.out.mono ?_
            rintro e W7 ⟨rfl, hb7⟩
            have E7 := Lib.hid (E6.out.below hb7)
            have GB7 := Lib.hid (GB6.out.below hb7)
            have KA7 := Lib.hid (KA6.out.below hb7)
            have KB7 := Lib.hid (KB6.out.below hb7)
            have B7 := Lib.hid (below_step B6.out hb7)
            obtain ⟨c0, c1', c2, c3⟩ := blk_agg4 KA7.out
            obtain ⟨d0, d1, d2, d3⟩ := blk_agg4 KB7.out
            have hga := KA7.out.lt
            have hgb := KB7.out.lt
            clear hb7 HC E6 GB6 KA6 KB6 B6
            go_wp2_with fail
            go_loopw [11] (fun i wr => GtRel L.gs.length (M.gs.length - L.gs.length) W7 i wr) (fun i _ => M.gs.length - (intOf i).toNat)
            case atStart => exact ⟨0, Nat.zero_le _, by simp, Below.refl _ _⟩
            case round =>
              obtain ⟨k0, hk0, hik, hb⟩ := hrel
              obtain ⟨k, hkk⟩ : ∃ k, L.gs.length + k0 = k := ⟨_, rfl⟩
              rw [hkk] at hik
              subst hik
              have DR := Lib.hid hb
              obtain ⟨c0, c1', c2, c3⟩ := blk_agg4 (KA7.out.below hb)
              obtain ⟨d0, d1, d2, d3⟩ := blk_agg4 (KB7.out.below hb)
              have hga := (KA7.out.below hb).lt
              have hgb := (KB7.out.below hb).lt
              have HKK := Lib.hid hkk
              have HK0 := Lib.hid hk0
              have hkl : k ≤ M.gs.length := by have := HLEN.out; omega
              clear hb hkk hk0
              by_cases hlt : k < M.gs.length
              · have hki : (k : Int) < (M.gs.length : Int) := by omega
                obtain ⟨b2, o2, rfl, l2, f0, f1⟩ := GB7.out.below DR.out k hlt
                have hge := P4.out k (by have := HKK.out; omega) hlt
                have hgi : ¬ (M.gs[k].1 : Int) < (L.ep : Int) := by omega
                have hgd : decide ((M.gs[k].1 : Int) < (L.ep : Int)) = false := decide_eq_false hgi
                generalize (M.gs[k].1 : Int) = y1 at *
                clear hge f1
                go_wp2_with fail
                go_quiet (fail)
                have DQ := Lib.hid (below_drewN DR.out nq)
                go_wp2_with fail
                go_roundw
                case rel => exact ⟨k0 + 1, by have := HKK.out; have := HLEN.out; omega, by have := HKK.out; rw [← Nat.add_assoc, this]; go_num, DQ.out⟩
                case measure => simp [intOf]; omega
              · have hki : ¬ (k : Int) < (M.gs.length : Int) := by omega
                obtain ⟨W8, hW8⟩ : ∃ z, z = wr := ⟨_, rfl⟩
                subst hW8
                have E8 := Lib.hid (E7.out.below DR.out)
                have GB8 := Lib.hid (GB7.out.below DR.out)
                have KA8 := Lib.hid (KA7.out.below DR.out)
                have KB8 := Lib.hid (KB7.out.below DR.out)
                have B8 := Lib.hid (below_step B7.out DR.out)
                clear E7 GB7 KA7 KB7 B7 DR hlt P4 hkl HKK HK0
                go_wp2_with fail
                go_loopw [12] (fun i wr => GrRel M.bf W8 i wr) (fun i _ => M.bf - (intOf i).toNat)
                case atStart => exact ⟨0, Nat.zero_le _, rfl, Below.refl _ _⟩
                case round =>
                  obtain ⟨j, hj, rfl, hb⟩ := hrel
                  have DR := Lib.hid hb
                  obtain ⟨c0, c1', c2, c3⟩ := blk_agg4 (KA8.out.below hb)
                  obtain ⟨d0, d1, d2, d3⟩ := blk_agg4 (KB8.out.below hb)
                  have hga := (KA8.out.below hb).lt
                  have hgb := (KB8.out.below hb).lt
                  have hbf := HP2.out
                  have hb4 : M.bf ≤ 400 := by omega
                  clear hb
                  by_cases hjt : j < M.bf
                  · have hji : (j : Int) < (M.bf : Int) := by omega
                    have hjm : j < M.gs.length := by omega
                    have hjn : (j : Int) < (M.gs.length : Int) := by omega
                    obtain ⟨b2, o2, rfl, l2, f0, f1⟩ := GB8.out.below DR.out j hjm
                    have hge := P5.out _ (List.getElem_mem hjm)
                    have hgi : ¬ (M.ep : Int) < (M.gs[j].1 : Int) := by omega
                    have hgd : decide ((M.ep : Int) < (M.gs[j].1 : Int)) = false := decide_eq_false hgi
                    generalize (M.gs[j].1 : Int) = y1 at *
                    clear hge f1 hbf
                    go_wp2_with fail
                    go_quiet (fail)
                    have DQ := Lib.hid (below_drewN DR.out nq)
                    go_wp2_with fail
                    go_roundw
                    case rel => exact ⟨j + 1, by omega, by go_num, DQ.out⟩
                    case measure => simp [intOf]; omega
                  · have hji : ¬ (j : Int) < (M.bf : Int) := by omega
                    have B9 := Lib.hid (below_step B8.out DR.out)
                    have E9 := Lib.hid (E8.out.below DR.out)
                    obtain ⟨W9, hW9⟩ : ∃ z, z = wr := ⟨_, rfl⟩
                    subst hW9
                    clear hbf hj hjt E8 GB8 KA8 KB8 B8 P5
                    have hge : (L.ep : Int) ≤ (M.ep : Int) := by omega
                    by_cases hgt : (L.ep : Int) < (M.ep : Int)
                    · clear HP7 P6
                      go_wp2_with fail
                      refine (works_any W9).mono ?_
                      rintro e W10 ⟨rfl, hb10⟩
                      have B10 := Lib.hid (below_step B9.out hb10)
                      clear hb10
                      go_wp2_with fail
                      go_ret
                      exact ⟨rfl, B10.out⟩
                    by_cases hls : L.ls = true
                    · rw [hls] at c2
                      by_cases hms : M.ls = true
                      · rw [hms] at d2
                        clear HP7 P6 hls hms
                        go_wp2_with fail
                        refine (works_any W9).mono ?_
                        rintro e W10 ⟨rfl, hb10⟩
                        have B10 := Lib.hid (below_step B9.out hb10)
                        clear hb10
                        go_wp2_with fail
                        go_ret
                        exact ⟨rfl, B10.out⟩
                      · have hms' : M.ls = false := by simpa using hms
                        rw [hms'] at d2
                        have hE : hasE ((x.drop f).take (m - f)) = true := by
                          cases h : hasE ((x.drop f).take (m - f)) with
                          | true => rfl
                          | false => exact absurd (HP7.out h hls) hms
                        have hlt : f < m := by
                          by_cases h : f < m
                          · exact h
                          · rw [show m - f = 0 by omega, List.take_zero] at hE
                            cases hE
                        obtain ⟨b2, o2, rfl, -⟩ := E9.out.ents f (by omega)
                        have hh := hasEpoch_any (some ⟨b2, o2 + f * 4, none⟩) (c1 - f) ((x.drop f).take (m - f)) W9 ((E9.out.ents.drop f).take _) (by rw [List.length_take, List.length_drop]; omega)
                        rw [hE, show ((x.drop f).take (m - f)).length = m - f by rw [List.length_take, List.length_drop]; omega] at hh
                        have HH := Lib.hid hh
                        have hcap := E9.out.cap
                        have hfmi : (f : Int) ≤ (m : Int) := by omega
                        have hmc : (m : Int) ≤ (c1 : Int) := by omega
                        clear hh hE HP7 P6 hls hms hms'
                        go_wp2_with fail
                        refine HH.out.mono ?_
                        rintro e W' ⟨rfl, hw⟩
                        rw [hw]
                        clear hw W' HH
                        go_wp2_with fail
                        refine (works_any W9).mono ?_
                        rintro e W10 ⟨rfl, hb10⟩
                        have B10 := Lib.hid (below_step B9.out hb10)
                        clear hb10
                        go_wp2_with fail
                        go_ret
                        exact ⟨rfl, B10.out⟩
                    · have hls' : L.ls = false := by simpa using hls
                      rw [hls'] at c2
                      clear HP7 P6 hls hls'
                      go_wp2_with fail
                      refine (works_any W9).mono ?_
                      rintro e W10 ⟨rfl, hb10⟩
                      have B10 := Lib.hid (below_step B9.out hb10)
                      clear hb10
                      go_wp2_with fail
                      go_ret
                      exact ⟨rfl, B10.out⟩
          · obtain ⟨r, hr⟩ : ∃ r, lCheck x = r := ⟨_, rfl⟩
            rw [hr] at hck hr0
            have HC := Lib.hid hck
            have hrb : (r != 0) = true := by simpa using hr0
            clear hck hr0 hr HP4 HP5 HP6 HP7 HCK
            go_wp2_with fail
            refine HC.out.mono ?_
            rintro e W7 ⟨rfl, hb7⟩
            have B7 := Lib.hid (below_step B6.out hb7)
            clear hb7 HC
            go_wp2_with fail
            refine (works_any W7).mono ?_
            rintro e W8 ⟨rfl, hb8⟩
            have B8 := Lib.hid (below_step B7.out hb8)
            clear hb8
            go_wp2_with fail
            go_ret
            exact ⟨rfl, B8.out⟩
end Go.Proofs.Ytnnjcabgaefhcaa.lg

/- LogGrows: with more entries a lineage only grows, and in a log that may be what comes behind is of no epoch below the one that was known; of all lists and numbers. -/
namespace Go.Proofs.Ytnnjcabgaefhcaa.logGrows
open Go.ChangeShapes Go.WideShapes Go.ChangeAt Go.RowKit
open Go.ChangeMaps (open_string shut_string)
open Go.Proofs.Ytnnjcabgaefhcaa.ib Go.Proofs.Ytnnjcabgaefhcaa.lg

theorem own : ownKnob Try.prog.godebug = none := by kernel_rfl
theorem laidOut : laidOutB Try.prog = true := by kernel_rfl

theorem witness (os : Os) {H : Type} (enc : TypeId × Value → H) :
    (OpenSpec.ofChange Rows.logGrowsSpec).preRow enc Try.prog Try.f8 Rows.logGrowsRow.domain false Rows.logGrowsRow.laid ((World.holding Try.prog os ⟨#[], #[], []⟩).forCall (fun _ _ => 0) ⟨#[], #[.slice none 0 0, .int .i64 0, .int .i64 0], []⟩).memory #[.slice none 0 0, .int .i64 0, .int .i64 0] := by
  have hw : (DataW.whole enc Try.prog ((World.holding Try.prog os ⟨#[], #[], []⟩).forCall (fun _ _ => 0) ⟨#[], #[.slice none 0 0, .int .i64 0, .int .i64 0], []⟩).memory Try.f8.params.toList (OpenSpec.ofChange Rows.logGrowsSpec).vars false (#[.slice none 0 0, .int .i64 0, .int .i64 0] : Array Value).toList 8).map (fun x => (x.1, x.2.1)) =
      some ([.nil, .lit (.int .i64 0), .lit (.int .i64 0)], []) := by kernel_rfl
  obtain ⟨⟨x1, x2, x3⟩, hx, hx1⟩ := Option.map_eq_some_iff.1 hw
  simp only [Prod.mk.injEq] at hx1
  obtain ⟨rfl, rfl⟩ := hx1
  exact OpenSpec.preRow_of_cond 8 hx (by kernel_rfl) (fun k hk => by cases hk) (by kernel_rfl) (laidMetH_nil _ _)

set_option maxRecDepth 100000 in
set_option maxHeartbeats 1600000 in
theorem lifted (os : Os) (started : os.Started) (H : Type) (enc : TypeId × Value → H) (F : Stop.Interp) :
    ReturnsInHanded {} Try.checked os 8 .any ((OpenSpec.ofChange Rows.logGrowsSpec).preRow enc Try.prog Try.f8 Rows.logGrowsRow.domain false Rows.logGrowsRow.laid) (((OpenSpec.ofChange Rows.logGrowsSpec).at F).post enc Try.prog Try.f8 false true false false) := by
  refine returnsInHanded_of_row (C := Try.checked) (s := OpenSpec.ofChange Rows.logGrowsSpec) own started (by kernel_rfl) Try.func8
    (witness_row_at (enc := enc) (C := Try.checked) false (World.holding Try.prog os ⟨#[], #[], []⟩) #[.slice none 0 0, .int .i64 0, .int .i64 0] rfl (by kernel_rfl) (by kernel_rfl) (by kernel_rfl) (witness os enc)) ?_
  intro W base args ds gs before hval0 hW _ _ hsz0 hL _ _
  have hval : ∀ (j : Nat) t v, Try.f8.params[j]? = some t → args[j]? = some v → Value.okWide Try.prog W .any base t v := hval0
  have hW' := hW
  obtain ⟨p, q, hA0, hV, rfl, hfz, hnd⟩ := hW
  have hA : DataW.TrodAll enc Try.prog W 0 (fun _ => true) true Try.f8.params.toList args.toList ds p := hA0
  rw [Try.params8] at hA hval
  obtain ⟨v0, vs0, d0, ds0, p0, q0, hargs, rfl, rfl, h0, r0⟩ := trodAll_cons hA
  obtain ⟨v1, vs1, d1, ds1, p1, q1, rfl, rfl, rfl, h1, r1⟩ := trodAll_cons r0
  obtain ⟨v2, vs2, d2, ds2, p2, q2, rfl, rfl, rfl, h2, r2⟩ := trodAll_cons r1
  obtain ⟨rfl, rfl, rfl⟩ := trodAll_nil r2
  obtain rfl : args = #[v0, v1, v2] := by cases args; simp_all
  obtain ⟨rfl, rfl⟩ := trodVars_none hV
  obtain ⟨a0, l0, c0, rfl⟩ := okWide_slice Try.underlying22 (hval 0 22 v0 rfl rfl)
  have k0 := h0
  have lt0 : ∀ x ∈ p0, x.block < W.heap.size := by obtain ⟨m, hm⟩ := k0; exact DataW.trod_lt m _ _ _ hm
  obtain ⟨zs0, hzl0, hl0, hT0⟩ := ents_of k0
  subst hzl0
  obtain ⟨a1, rfl, rfl, rfl, w1⟩ := open_int Try.underlying3 (hval 1 3 v1 rfl rfl) h1
  obtain ⟨a2, rfl, rfl, rfl, w2⟩ := open_int Try.underlying3 (hval 2 3 v2 rfl rfl) h2
  clear hA0 hval0 hsz0
  simp only [List.append_nil] at hW'
  refine (logGrows_walk a0 c0 zs0 a1 w1 a2 w2 W hl0 hT0).mono fun e W' ⟨he, hg⟩ => ?_
  subst he
  exact ⟨_, rfl, _, _, _, [], _, [], hW', trodAll_mk1 (shut_bool Try.underlying4 _), (trodAll_cons_mk (Below.trod laidOut (by kernel_rfl) (of_decide_eq_true (by kernel_rfl)) k0 hg lt0) (trodAll_cons_mk (shut_int Try.underlying3 w1) (trodAll_cons_mk (shut_int Try.underlying3 w2) trodAll_mk0))), rfl, hg.frame _, fun h => by cases h⟩

theorem over : Rows.LogGrowsSaid :=
  OpenClaim.holds_of_cond 8 Try.f8 rfl rfl rfl rfl rfl rfl rfl ⟨rfl, rfl, rfl, rfl, rfl⟩ rfl rfl rfl rfl rfl (by kernel_rfl) Try.func8 (by kernel_rfl)
    (of_decide_eq_true (by kernel_rfl)) (by unfold Func.isWrapper; first | (rw [if_pos (by decide +kernel)]; kernel_rfl) | (rw [if_neg (by decide +kernel)]; exact ⟨rfl, rfl⟩))
    (fun os started H enc _ F => by rw [OpenClaim.pre_eq_preRow]; exact lifted os started H enc F)

theorem proved : Rows.LogGrowsSaid :=
  over
#print axioms proved
end Go.Proofs.Ytnnjcabgaefhcaa.logGrows

