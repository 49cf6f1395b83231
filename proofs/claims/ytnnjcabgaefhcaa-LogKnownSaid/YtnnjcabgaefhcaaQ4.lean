/- LgRJoin, LgLits, LgWorks, SlcG, LgArgs. -/
import Derived.Test.YtnnjcabgaefhcaaQ0
import Derived.Test.YtnnjcabgaefhcaaQ2
import Derived.Test.YtnnjcabgaefhcaaQ3
import Derived.Deep.Slices
import Derived.Deep.Fields
import Derived.ChangeSame
import Derived.OpenShut
import Derived.Deep.SlicePairs
import Derived.ChangeSlices
set_option linter.unusedVariables false
set_option linter.unusedSimpArgs false
/- A log joined with others: the document's answer. -/
namespace Go.Proofs.Ytnnjcabgaefhcaa.lg
open Go Go.RowKit Go.Proofs.Ytnnjcabgaefhcaa.ib
set_option maxRecDepth 100000

def RjRel (l m : List En) (p : Nat) (w : World) (v i : Value) (wr : World) : Prop :=
  ∃ k : Nat, k ≤ m.length ∧ i = .int .i64 (k : Int) ∧ v = .slice none 0 0 ∧ (∀ j, j < k → differ l p m j = false) ∧ Below w.heap.size w wr
theorem differ_in {l m : List En} {p k : Nat} (hk : k < m.length) (h : p + k < l.length) : differ l p m k = !decide (l[p + k].t = m[k].t) := by
  unfold differ
  simp [List.getD, h, hk]
theorem differ_out {l m : List En} {p k : Nat} (h : ¬ p + k < l.length) : differ l p m k = true := by
  unfold differ
  simp [h]

theorem cat_own {w : World} {B n k : Nat} {v : Value} {l m R : List En} (hR : R = l.take n ++ m.drop k) (h1 : (l.take n).length = n) (h2 : (m.drop k).length = m.length - k) (h : w.ownsRow B 35 4 v (n + (m.length - k)) (enRow (l.take n) ++ enRow (m.drop k))) : OEn w B v R := by
  subst hR
  unfold OEn
  rw [enRow_append, List.length_append, h1, h2]
  exact h
set_option maxHeartbeats 3200000 in
theorem rjoin_any (A B : Option Addr) (c d : Nat) (l m : List En) (p : Int) (w : World) (hA : EnL w A l c) (hB : EnL w B m d) (hl : l.length ≤ 4000) (hm : m.length ≤ 4000) (hp : i64B p) :
    Calls Try.prog 22 #[.slice A l.length c, .int .i64 p, .slice B m.length d] w (endO (lJoin l p m) w) := by
  obtain ⟨i0, hi, hz0, hz1, hz2⟩ := info_parts infoEn
  have hli : (l.length : Int) ≤ 4000 := by omega
  have hmi : (m.length : Int) ≤ 4000 := by omega
  unfold i64B at hp
  have H0 : Hid (∀ W : World, w.heap.size ≤ W.heap.size → W.ownsRow w.heap.size 35 4 (.slice none 0 0) 0 []) := fun W _ => World.ownsRow_nil _ _ _ _
  have HLO := Lib.hid (enRow_ones l)
  have hout : ∀ (hA' : EnL w A l c), p < 0 ∨ (l.length : Int) < p → Calls Try.prog 22 #[.slice A l.length c, .int .i64 p, .slice B m.length d] w (endO l w) := by
    intro hA' hor
    have hg : (p < 0) ∨ (¬ p < 0 ∧ (l.length : Int) < p) := by omega
    clear hor
    cases A with
    | none =>
      obtain ⟨h1, rfl⟩ := hA'.nil rfl
      obtain rfl : l = [] := List.length_eq_zero_iff.1 h1
      clear hA' hA hB h1
      rcases hg with hg | ⟨hg1, hg⟩
      all_goals
        go_enter Try.func22, Try.ntmps22
        go_wp2_with (at_builtin; refine wpList_append_own_none rfl (.tmp 18) (.tmp 19) 22 rfl w.heap.size 35 i0 4 Try.underlying22 hi _ 0 [] rfl (H0.out w (Nat.le_refl _)) rfl ?_)
        go_ret
        exact ⟨_, rfl, OEn.nil _ _, Below.refl _ _⟩
    | some ad =>
      have HN := Lib.hid hA'.ents.row
      clear hA' hA hB
      rcases hg with hg | ⟨hg1, hg⟩
      all_goals
        go_enter Try.func22, Try.ntmps22
        go_wp2_with (at_builtin; refine wpList_append_own _ rfl (.tmp 18) (.tmp 19) 22 rfl w.heap.size 35 i0 (.agg #[.int .u64 0, .int .i64 0, .int .u64 0, .int .u64 0]) 4 32 Try.underlying22 hi hz0 hz1 hz2 rfl (by decide) _ 0 [] rfl (H0.out w (Nat.le_refl _)) ad l.length c (enRow l) rfl (enRow_len l) HN.out HLO.out ?_ ?_ (Nat.le_refl _) ?_)
        · unfold maxLen; omega
        · omega
        · intro v' w1 hown hgrow _
          have hb1 := (Below.refl w.heap.size w).grown hgrow (Nat.le_refl _) (fun j hj => ((H0.out w (Nat.le_refl _)).lt j hj).1)
          have hown2 : OEn w1 w.heap.size v' l := hown
          go_wp2_with fail
          go_ret
          exact ⟨_, rfl, hown2, hb1⟩
  by_cases h0 : p < 0 ∨ (l.length : Int) < p
  · rw [join_out h0]
    exact hout hA h0
  obtain ⟨pn, rfl⟩ : ∃ n : Nat, p = (n : Int) := ⟨p.toNat, by omega⟩
  have hpl : pn ≤ l.length := by omega
  have HJN := Lib.hid (fun h => join_none (l := l) (p := pn) (more := m) h)
  have HJS := Lib.hid (fun i (hi : i < m.length) (hd : differ l pn m i = true) h => join_some hpl hi hd h)
  have HROOM := Lib.hid (fun i h => differ_room (l := l) (p := pn) (more := m) (i := i) hpl h)
  obtain ⟨R, hR⟩ : ∃ R, lJoin l (pn : Int) m = R := ⟨_, rfl⟩
  rw [hR] at HJN HJS ⊢
  have HA := Lib.hid hA
  have HB := Lib.hid hB
  clear hA hB hR hout
  have hg1 : ¬ (pn : Int) < 0 := by omega
  have hg2 : ¬ (l.length : Int) < (pn : Int) := by omega
  clear h0
  go_enter Try.func22, Try.ntmps22
  go_wp2_with fail
  go_loopw [7, 8] (fun v i wr => RjRel l m pn w v i wr) (fun _ i _ => m.length - (intOf i).toNat)
  case atStart => exact ⟨0, Nat.zero_le _, rfl, rfl, fun j hj => absurd hj (by omega), Below.refl _ _⟩
  case round =>
    obtain ⟨k, hk, rfl, rfl, hd, hb⟩ := hrel
    have HD := Lib.hid hd
    have HBW := Lib.hid hb
    clear hd hb
    by_cases hlt : k < m.length
    · have hki : (k : Int) < (m.length : Int) := by omega
      obtain ⟨b2, o2, rfl, l2, e0, -, -, -, -⟩ := HB.out.ents.cells HBW.out k hlt
      have hroom := HROOM.out k HD.out
      have HJSk := Lib.hid (fun h => HJS.out k hlt h HD.out)
      have hnext : differ l pn m k = false → ∀ j, j < k + 1 → differ l pn m j = false := fun hq j hj => by
        by_cases hjk : j = k
        · rw [hjk]; exact hq
        · exact HD.out j (by omega)
      have HNX := Lib.hid hnext
      have hdc := HB.out.cap
      have hac := HA.out.cap
      have hki2 : ((pn : Int) + (k : Int)) ≤ (c : Int) := by omega
      have hkd : (k : Int) ≤ (d : Int) := by omega
      have hik : (0 : Int) ≤ (pn : Int) + (k : Int) := by omega
      have HNA : Hid (∀ W, Below w.heap.size w W → ∀ ad, A = some ad → ∀ (j : Nat) (u : Value), (enRow (l.take (pn + k)))[j]? = some u → W.cell? (ad.add j) = some u) := fun W hb ad e => by
        have := (HA.out.below hb).ents.take (pn + k)
        subst e
        exact this.row
      have HNB : Hid (∀ W, Below w.heap.size w W → ∀ (j : Nat) (u : Value), (enRow (m.drop k))[j]? = some u → W.cell? ((⟨b2, o2 + k * 4, none⟩ : Addr).add j) = some u) := fun W hb => ((HB.out.below hb).ents.drop k).row
      have HO1 := Lib.hid (enRow_ones (l.take (pn + k)))
      have HO2 := Lib.hid (enRow_ones (m.drop k))
      have HL1 : Hid ((l.take (pn + k)).length = pn + k) := by unfold Hid; rw [List.length_take]; omega
      have HL2 : Hid ((m.drop k).length = m.length - k) := by unfold Hid; rw [List.length_drop]
      have hsz2 : m.length - k ≤ 4000 := by omega
      clear hnext
      by_cases hin : pn + k < l.length
      · have hini : ¬ (l.length : Int) ≤ (pn : Int) + (k : Int) := by omega
        obtain ⟨b1, o1, rfl, l1, f0, -, -, -, -⟩ := HA.out.ents.cells HBW.out (pn + k) hin
        have HDF := Lib.hid (differ_in hlt hin)
        by_cases ht : l[pn + k].t = m[k].t
        · have HQ : Hid (differ l pn m k = false) := by unfold Hid; rw [HDF.out]; simp [ht]
          rw [ht] at f0
          clear ht HDF
          generalize (m[k].t : Int) = T at *
          rw [show pn + k = ((pn : Int) + (k : Int)).toNat by omega] at f0
          go_wp2_with fail
          go_quiet (fail)
          have HB2 := Lib.hid (below_drewN HBW.out nq)
          go_wp2_with fail
          go_roundw
          case rel => exact ⟨k + 1, by omega, by go_num, rfl, HNX.out HQ.out, HB2.out⟩
          case measure => simp [intOf]; omega
        · have HQ : Hid (R = List.take (pn + k) l ++ List.drop k m) := HJSk.out (by rw [HDF.out]; simp [ht])
          have hti : ((l[pn + k].t : Int) != (m[k].t : Int)) = true := by simp; omega
          clear ht HDF
          generalize (m[k].t : Int) = T at *
          generalize (l[pn + k].t : Int) = T' at *
          rw [show pn + k = ((pn : Int) + (k : Int)).toNat by omega] at f0
          go_wp2_with fail
          go_quiet (fail)
          have HB2 := Lib.hid (below_drewN HBW.out nq)
          clear e0 f0
          obtain ⟨W, hW⟩ : ∃ z, wr.drewN nq = z := ⟨_, rfl⟩
          rw [hW] at HB2 ⊢
          clear hW HBW
          go_wp2_with (at_builtin; refine wpList_append_own _ rfl (.tmp 47) (.tmp 50) 22 rfl w.heap.size 35 i0 (.agg #[.int .u64 0, .int .i64 0, .int .u64 0, .int .u64 0]) 4 32 Try.underlying22 hi hz0 hz1 hz2 rfl (by decide) _ 0 [] rfl (H0.out W HB2.out.size) ⟨b1, o1, none⟩ (pn + k) c (enRow (l.take (pn + k))) rfl (by rw [enRow_len, HL1.out]) (HNA.out W HB2.out _ rfl) HO1.out ?_ ?_ HB2.out.size ?_)
          · unfold maxLen; omega
          · omega
          · intro v2 w2 hown2 hgrow2 _
            have HB4 := Lib.hid (HB2.out.grown hgrow2 HB2.out.size (fun j hj => ((H0.out W HB2.out.size).lt j hj).1))
            have HOW : Hid (w2.ownsRow w.heap.size 35 4 v2 (pn + k) (enRow (l.take (pn + k)))) := hown2
            clear hown2 hgrow2
            go_wp2_with (at_builtin; refine wpList_append_own _ rfl (.tmp 52) (.tmp 55) 22 rfl w.heap.size 35 i0 (.agg #[.int .u64 0, .int .i64 0, .int .u64 0, .int .u64 0]) 4 32 Try.underlying22 hi hz0 hz1 hz2 rfl (by decide) _ (pn + k) (enRow (l.take (pn + k))) rfl HOW.out ⟨b2, o2 + k * 4, none⟩ (m.length - k) (d - k) (enRow (m.drop k)) rfl (by rw [enRow_len, HL2.out]) (HNB.out w2 HB4.out) HO2.out ?_ ?_ HB4.out.size ?_)
            · unfold maxLen; omega
            · omega
            · intro v3 w3 hown3 hgrow3 _
              have HB5 := Lib.hid ((HB4.out).grown hgrow3 (HB4.out).size (fun j hj => ((HOW.out).lt j hj).1))
              have HO5 := Lib.hid (cat_own HQ.out HL1.out HL2.out hown3)
              clear hown3 hgrow3
              go_wp2_with fail
              go_ret
              exact ⟨_, rfl, HO5.out, HB5.out⟩
      · have hini : (l.length : Int) ≤ (pn : Int) + (k : Int) := by omega
        have HQ : Hid (R = List.take (pn + k) l ++ List.drop k m) := HJSk.out (differ_out hin)
        have hdec : decide ((l.length : Int) ≤ (pn : Int) + (k : Int)) = true := decide_eq_true hini
        go_wp2_with fail
        go_quiet (fail)
        have HB2 := Lib.hid (below_drewN HBW.out nq)
        clear e0
        obtain ⟨W, hW⟩ : ∃ z, wr.drewN nq = z := ⟨_, rfl⟩
        rw [hW] at HB2 ⊢
        clear hW HBW
        cases A with
        | none =>
          obtain ⟨hz1', rfl⟩ := HA.out.nil rfl
          obtain ⟨rfl, rfl⟩ : pn = 0 ∧ k = 0 := ⟨by omega, by omega⟩
          obtain rfl : l = [] := List.length_eq_zero_iff.1 hz1'
          have HRM : Hid (R = m) := by unfold Hid; rw [HQ.out]; simp
          have HN := Lib.hid (HB.out.below HB2.out).ents.row
          have HOM := Lib.hid (enRow_ones m)
          clear HNA HNB HO1 HO2 HL1 HL2 hdec hini hin hsz2 hkd hki2 hik hroom hki
          go_wp2_with (at_builtin; refine wpList_append_own _ rfl (.tmp 52) (.tmp 55) 22 rfl w.heap.size 35 i0 (.agg #[.int .u64 0, .int .i64 0, .int .u64 0, .int .u64 0]) 4 32 Try.underlying22 hi hz0 hz1 hz2 rfl (by decide) _ 0 [] rfl (H0.out W HB2.out.size) ⟨b2, o2, none⟩ m.length d (enRow m) rfl (enRow_len m) HN.out HOM.out ?_ ?_ HB2.out.size ?_)
          · unfold maxLen; omega
          · omega
          · intro v3 w3 hown3 hgrow3 _
            have HB5 := Lib.hid (HB2.out.grown hgrow3 HB2.out.size (fun j hj => ((H0.out W HB2.out.size).lt j hj).1))
            have HO5 : Hid (OEn w3 w.heap.size v3 R) := by
              unfold Hid
              rw [HRM.out]
              exact hown3
            clear hown3 hgrow3
            go_wp2_with fail
            go_ret
            exact ⟨_, rfl, HO5.out, HB5.out⟩
        | some ad =>
          go_wp2_with (at_builtin; refine wpList_append_own _ rfl (.tmp 47) (.tmp 50) 22 rfl w.heap.size 35 i0 (.agg #[.int .u64 0, .int .i64 0, .int .u64 0, .int .u64 0]) 4 32 Try.underlying22 hi hz0 hz1 hz2 rfl (by decide) _ 0 [] rfl (H0.out W HB2.out.size) ad (pn + k) c (enRow (l.take (pn + k))) rfl (by rw [enRow_len, HL1.out]) (HNA.out W HB2.out ad rfl) HO1.out ?_ ?_ HB2.out.size ?_)
          · unfold maxLen; omega
          · omega
          · intro v2 w2 hown2 hgrow2 _
            have HB4 := Lib.hid (HB2.out.grown hgrow2 HB2.out.size (fun j hj => ((H0.out W HB2.out.size).lt j hj).1))
            have HOW : Hid (w2.ownsRow w.heap.size 35 4 v2 (pn + k) (enRow (l.take (pn + k)))) := hown2
            clear hown2 hgrow2
            go_wp2_with (at_builtin; refine wpList_append_own _ rfl (.tmp 52) (.tmp 55) 22 rfl w.heap.size 35 i0 (.agg #[.int .u64 0, .int .i64 0, .int .u64 0, .int .u64 0]) 4 32 Try.underlying22 hi hz0 hz1 hz2 rfl (by decide) _ (pn + k) (enRow (l.take (pn + k))) rfl HOW.out ⟨b2, o2 + k * 4, none⟩ (m.length - k) (d - k) (enRow (m.drop k)) rfl (by rw [enRow_len, HL2.out]) (HNB.out w2 HB4.out) HO2.out ?_ ?_ HB4.out.size ?_)
            · unfold maxLen; omega
            · omega
            · intro v3 w3 hown3 hgrow3 _
              have HB5 := Lib.hid ((HB4.out).grown hgrow3 (HB4.out).size (fun j hj => ((HOW.out).lt j hj).1))
              have HO5 := Lib.hid (cat_own HQ.out HL1.out HL2.out hown3)
              clear hown3 hgrow3
              go_wp2_with fail
              go_ret
              exact ⟨_, rfl, HO5.out, HB5.out⟩
    · have hki : ¬ (k : Int) < (m.length : Int) := by omega
      have HRL := Lib.hid (HJN.out (fun i hi => HD.out i (by omega)))
      cases A with
      | none =>
        obtain ⟨hz1', rfl⟩ := HA.out.nil rfl
        obtain rfl : l = [] := List.length_eq_zero_iff.1 hz1'
        go_wp2_with (at_builtin; refine wpList_append_own_none rfl (.tmp 57) (.tmp 58) 22 rfl w.heap.size 35 i0 4 Try.underlying22 hi _ 0 [] rfl (H0.out wr HBW.out.size) rfl ?_)
        go_ret
        exact ⟨_, rfl, by rw [HRL.out]; exact OEn.nil _ _, HBW.out⟩
      | some ad =>
        have HN := Lib.hid (HA.out.below HBW.out).ents.row
        go_wp2_with (at_builtin; refine wpList_append_own _ rfl (.tmp 57) (.tmp 58) 22 rfl w.heap.size 35 i0 (.agg #[.int .u64 0, .int .i64 0, .int .u64 0, .int .u64 0]) 4 32 Try.underlying22 hi hz0 hz1 hz2 rfl (by decide) _ 0 [] rfl (H0.out wr HBW.out.size) ad l.length c (enRow l) rfl (enRow_len l) HN.out HLO.out ?_ ?_ HBW.out.size ?_)
        · unfold maxLen; omega
        · omega
        · intro v2 w2 hown2 hgrow2 _
          have HB4 := Lib.hid (HBW.out.grown hgrow2 HBW.out.size (fun j hj => ((H0.out wr HBW.out.size).lt j hj).1))
          have HOW : Hid (OEn w2 w.heap.size v2 R) := by
            unfold Hid
            rw [HRL.out]
            exact hown2
          clear hown2 hgrow2
          go_wp2_with fail
          go_ret
          exact ⟨_, rfl, HOW.out, HB4.out⟩
end Go.Proofs.Ytnnjcabgaefhcaa.lg

/- Entries and guids as the statements make them; lists of them as literals. -/
namespace Go.Proofs.Ytnnjcabgaefhcaa.lg
open Go Go.RowKit Go.Proofs.Ytnnjcabgaefhcaa.ib
set_option maxRecDepth 100000

theorem blk_agg4 {w : World} {g : Nat} {t : TypeId} {a b c d : Value} (h : Blk w g t #[a, b, c, d]) : w.cell? ⟨g, 0, none⟩ = some a ∧ w.cell? ⟨g, 1, none⟩ = some b ∧ w.cell? ⟨g, 2, none⟩ = some c ∧ w.cell? ⟨g, 3, none⟩ = some d := ⟨h.cell 0, h.cell 1, h.cell 2, h.cell 3⟩
theorem epoch_any (t : Nat) (w : World) : Calls Try.prog 30 #[.int .u64 (t : Int)] w (endV (.agg #[.int .u64 (t : Int), .int .i64 1, .int .u64 0, .int .u64 0]) w) := by
  go_enter Try.func30, Try.ntmps30
  go_wp2_with fail
  obtain ⟨q0, q1, q2, q3⟩ := blk_agg4 (Blk.new w 35 #[.int .u64 (t : Int), .int .i64 1, .int .u64 0, .int .u64 0])
  refine bodyPost_ret (v := .agg #[.int .u64 (t : Int), .int .i64 1, .int .u64 0, .int .u64 0]) (by simp [results, Try.results30, go_sem, q0, q1, q2, q3]) rfl ?_
  exact ⟨rfl, (Below.refl w.heap.size w).alloc (Nat.le_refl _) _⟩
theorem lease_any (t : Nat) (w : World) : Calls Try.prog 32 #[.int .u64 (t : Int)] w (endV (.agg #[.int .u64 (t : Int), .int .i64 2, .int .u64 0, .int .u64 0]) w) := by
  go_enter Try.func32, Try.ntmps32
  go_wp2_with fail
  obtain ⟨q0, q1, q2, q3⟩ := blk_agg4 (Blk.new w 35 #[.int .u64 (t : Int), .int .i64 2, .int .u64 0, .int .u64 0])
  refine bodyPost_ret (v := .agg #[.int .u64 (t : Int), .int .i64 2, .int .u64 0, .int .u64 0]) (by simp [results, Try.results32, go_sem, q0, q1, q2, q3]) rfl ?_
  exact ⟨rfl, (Below.refl w.heap.size w).alloc (Nat.le_refl _) _⟩
theorem commit_any (t n : Nat) (w : World) : Calls Try.prog 29 #[.int .u64 (t : Int), .int .u64 (n : Int)] w (endV (.agg #[.int .u64 (t : Int), .int .i64 3, .int .u64 (t : Int), .int .u64 (n : Int)]) w) := by
  go_enter Try.func29, Try.ntmps29
  go_wp2_with fail
  obtain ⟨q0, q1, q2, q3⟩ := blk_agg4 (Blk.new w 35 #[.int .u64 (t : Int), .int .i64 3, .int .u64 (t : Int), .int .u64 (n : Int)])
  refine bodyPost_ret (v := .agg #[.int .u64 (t : Int), .int .i64 3, .int .u64 (t : Int), .int .u64 (n : Int)]) (by simp [results, Try.results29, go_sem, q0, q1, q2, q3]) rfl ?_
  exact ⟨rfl, (Below.refl w.heap.size w).alloc (Nat.le_refl _) _⟩
theorem guid_any (e c : Nat) (w : World) : Calls Try.prog 31 #[.int .u64 (e : Int), .int .u64 (c : Int)] w (endV (.agg #[.int .u64 (e : Int), .int .u64 (c : Int)]) w) := by
  go_enter Try.func31, Try.ntmps31
  go_wp2_with fail
  have q0 : (w.alloc (.cells #[.int .u64 (e : Int), .int .u64 (c : Int)] 33)).cell? ⟨w.heap.size, 0, none⟩ = some (.int .u64 (e : Int)) := (Blk.new w _ _).cell 0
  have q1 : (w.alloc (.cells #[.int .u64 (e : Int), .int .u64 (c : Int)] 33)).cell? ⟨w.heap.size, 1, none⟩ = some (.int .u64 (c : Int)) := (Blk.new w _ _).cell 1
  refine bodyPost_ret (v := .agg #[.int .u64 (e : Int), .int .u64 (c : Int)]) (by simp [results, Try.results31, go_sem, q0, q1]) rfl ?_
  exact ⟨rfl, (Below.refl w.heap.size w).alloc (Nat.le_refl _) _⟩

/-- A literal of entries. -/
theorem en_lit {w : World} {g : Nat} {l : List En} (h : Blk w g 35 (enRow l).toArray) (hl : l.length ≤ 100000) (hb : ∀ x ∈ l, enB x) : EnL w (some ⟨g, 0, none⟩) l l.length := by
  have ho : OEn w 0 (.slice (some ⟨g, 0, none⟩) l.length l.length) l := OEn.blk h (Nat.zero_le _) hl
  obtain ⟨A, c, hv, hE, _⟩ := ho.view hb
  simp only [Value.slice.injEq, true_and] at hv
  obtain ⟨rfl, rfl⟩ := hv
  exact hE
theorem gd_lit1 {w : World} {g : Nat} {a b : Nat} (h : Blk w g 33 #[.int .u64 (a : Int), .int .u64 (b : Int)]) : GdAt w (some ⟨g, 0, none⟩) [(a, b)] := by
  intro i hi
  obtain rfl : i = 0 := by simpa using hi
  exact ⟨g, 0, rfl, h.lt, h.cell 0, h.cell 1⟩
theorem lit_step {w0 w : World} (h : Below w0.heap.size w0 w) (o : Obj) : Below w0.heap.size w0 (w.alloc o) ∧ Below w.heap.size w (w.alloc o) := ⟨h.alloc h.size o, (Below.refl _ w).alloc (Nat.le_refl _) o⟩

def lw1 : List En := [⟨1, 1, 0, 0⟩, ⟨1, 2, 0, 0⟩, ⟨2, 1, 0, 0⟩]
def lw2 : List En := [⟨1, 3, 1, 1⟩, ⟨3, 1, 0, 0⟩]
def lw : List En := [⟨1, 1, 0, 0⟩, ⟨1, 2, 0, 0⟩, ⟨1, 3, 1, 1⟩, ⟨3, 1, 0, 0⟩]
theorem lw_facts : lJoin lw1 2 lw2 = lw ∧ lFold lw 4 = ⟨3, 1, false, [(1, 1)]⟩ ∧ lFold lw 2 = ⟨1, 0, true, []⟩ ∧ lCheck lw = 0 ∧ lNewer 3 4 lw = true ∧ lNewer 3 3 lw = false ∧ lFits lw 4 3 = true := by decide +kernel
theorem enB_of {x : En} (h : (decide (x.t < 1000) && decide (0 ≤ x.k) && decide (x.k ≤ 1000) && decide (x.e < 1000) && decide (x.c < 1000)) = true) : enB x := by
  simp only [Bool.and_eq_true, decide_eq_true_eq] at h
  exact ⟨by omega, by omega, by omega, by omega⟩
theorem enB_all {l : List En} (h : (l.all fun x => (decide (x.t < 1000) && decide (0 ≤ x.k) && decide (x.k ≤ 1000) && decide (x.e < 1000) && decide (x.c < 1000))) = true) : ∀ x ∈ l, enB x := fun x hx => enB_of (List.all_eq_true.1 h x hx)
end Go.Proofs.Ytnnjcabgaefhcaa.lg

/- The statements' works. -/
namespace Go.Proofs.Ytnnjcabgaefhcaa.lg
open Go Go.RowKit Go.Proofs.Ytnnjcabgaefhcaa.ib
set_option maxRecDepth 100000

set_option maxHeartbeats 6400000 in
theorem works_any (w : World) : Calls Try.prog 16 #[] w (endB true w) := by
  obtain ⟨x1, x2, x3, x4, x5, x6, x7⟩ := lw_facts
  have X1 := Lib.hid x1
  have X2 := Lib.hid x2
  have X3 := Lib.hid x3
  have X4 := Lib.hid x4
  have X5 := Lib.hid x5
  have X6 := Lib.hid x6
  have X7 := Lib.hid x7
  clear x1 x2 x3 x4 x5 x6 x7
  go_enter Try.func16, Try.ntmps16
  go_wp2_with fail
  refine (epoch_any 1 w).mono ?_
  rintro e W1 ⟨rfl, hb1⟩
  have B1 := Lib.hid hb1
  clear hb1
  go_wp2_with fail
  refine (lease_any 1 W1).mono ?_
  rintro e W2 ⟨rfl, hb2⟩
  have B2 := Lib.hid (below_step B1.out hb2)
  clear hb2
  go_wp2_with fail
  refine (epoch_any 2 W2).mono ?_
  rintro e W3 ⟨rfl, hb3⟩
  have B3 := Lib.hid (below_step B2.out hb3)
  clear hb3
  obtain ⟨b4, d4⟩ := lit_step B3.out (.cells #[.int .u64 1, .int .i64 1, .int .u64 0, .int .u64 0, .int .u64 1, .int .i64 2, .int .u64 0, .int .u64 0, .int .u64 2, .int .i64 1, .int .u64 0, .int .u64 0] 35)
  have k4 := Blk.new W3 35 #[.int .u64 1, .int .i64 1, .int .u64 0, .int .u64 0, .int .u64 1, .int .i64 2, .int .u64 0, .int .u64 0, .int .u64 2, .int .i64 1, .int .u64 0, .int .u64 0]
  obtain ⟨W4, hW4⟩ : ∃ z, W3.alloc (.cells #[.int .u64 1, .int .i64 1, .int .u64 0, .int .u64 0, .int .u64 1, .int .i64 2, .int .u64 0, .int .u64 0, .int .u64 2, .int .i64 1, .int .u64 0, .int .u64 0] 35) = z := ⟨_, rfl⟩
  rw [hW4] at b4 d4 k4
  have B4 := Lib.hid b4
  have L1 := Lib.hid (en_lit (l := lw1) k4 (by decide) (enB_all (by decide)))
  clear b4 d4 k4
  go_wp2_with fail
  try rw [hW4]
  clear hW4
  refine (commit_any 1 1 W4).mono ?_
  rintro e W5 ⟨rfl, hb5⟩
  have B5 := Lib.hid (below_step B4.out hb5)
  have L1_5 := Lib.hid (L1.out.below hb5)
  clear hb5
  go_wp2_with fail
  refine (epoch_any 3 W5).mono ?_
  rintro e W6 ⟨rfl, hb6⟩
  have B6 := Lib.hid (below_step B5.out hb6)
  have L1_6 := Lib.hid (L1_5.out.below hb6)
  clear hb6
  obtain ⟨b7, d7⟩ := lit_step B6.out (.cells #[.int .u64 1, .int .i64 3, .int .u64 1, .int .u64 1, .int .u64 3, .int .i64 1, .int .u64 0, .int .u64 0] 35)
  have k7 := Blk.new W6 35 #[.int .u64 1, .int .i64 3, .int .u64 1, .int .u64 1, .int .u64 3, .int .i64 1, .int .u64 0, .int .u64 0]
  obtain ⟨W7, hW7⟩ : ∃ z, W6.alloc (.cells #[.int .u64 1, .int .i64 3, .int .u64 1, .int .u64 1, .int .u64 3, .int .i64 1, .int .u64 0, .int .u64 0] 35) = z := ⟨_, rfl⟩
  rw [hW7] at b7 d7 k7
  have B7 := Lib.hid b7
  have L2 := Lib.hid (en_lit (l := lw2) k7 (by decide) (enB_all (by decide)))
  have L1_7 := Lib.hid (L1_6.out.below d7)
  clear b7 d7 k7
  go_wp2_with fail
  try rw [hW7]
  clear hW7
  have hj := join_any _ _ _ _ lw1 lw2 2 W7 L1_7.out L2.out (by decide) (by decide) (by unfold i64B; omega)
  rw [X1.out] at hj
  refine hj.mono ?_
  clear hj
  rintro e W8 ⟨v, rfl, ho, hb⟩
  obtain ⟨A, c, rfl, hE, -⟩ := ho.view (enB_all (by decide))
  have LW := Lib.hid hE
  have B8 := Lib.hid (below_step B7.out hb)
  clear ho hb hE
  rw [show lw.length = 4 from rfl]
  go_wp2_with fail
  have hf := fold_any A c lw 4 W8 LW.out (by decide)
  rw [X2.out] at hf
  refine hf.mono ?_
  clear hf
  rintro e W9 ⟨v9, rfl, hv, hb⟩
  have V9 := Lib.hid hv
  have B9 := Lib.hid (below_step B8.out hb)
  have LW_9 := Lib.hid (LW.out.below hb)
  clear hv hb
  go_wp2_with fail
  refine (guid_any 1 1 W9).mono ?_
  rintro e W10 ⟨rfl, hb10⟩
  have B10 := Lib.hid (below_step B9.out hb10)
  have LW_10 := Lib.hid (LW_9.out.below hb10)
  have V_10 := Lib.hid (V9.out.below hb10)
  clear hb10
  obtain ⟨b11, d11⟩ := lit_step B10.out (.cells #[.int .u64 1, .int .u64 1] 33)
  have k11 := Blk.new W10 33 #[.int .u64 1, .int .u64 1]
  obtain ⟨W11, hW11⟩ : ∃ z, W10.alloc (.cells #[.int .u64 1, .int .u64 1] 33) = z := ⟨_, rfl⟩
  rw [hW11] at b11 d11 k11
  have B11 := Lib.hid b11
  have G1 := Lib.hid (gd_lit1 (a := 1) (b := 1) k11)
  have LW_11 := Lib.hid (LW_10.out.below d11)
  have V_11 := Lib.hid (V_10.out.below d11)
  clear b11 d11 k11
  go_wp2_with fail
  try rw [hW11]
  clear hW11
  have hs := is_any v9 _ ⟨3, 1, false, [(1, 1)]⟩ _ 1 W11 V_11.out G1.out (by decide) (by decide)
  rw [decide_eq_true rfl] at hs
  refine hs.mono ?_
  clear hs
  rintro e W12 ⟨rfl, hb⟩
  have B12 := Lib.hid (below_step B11.out hb)
  have LW_12 := Lib.hid (LW_11.out.below hb)
  clear hb
  go_wp2_with fail
  have hf := fold_any A c lw 2 W12 LW_12.out (by decide)
  rw [X3.out] at hf
  refine hf.mono ?_
  clear hf
  rintro e W13 ⟨v13, rfl, hv, hb⟩
  have V13 := Lib.hid hv
  have B13 := Lib.hid (below_step B12.out hb)
  have LW_13 := Lib.hid (LW_12.out.below hb)
  clear hv hb
  go_wp2_with fail
  have hs := is_any v13 _ ⟨1, 0, true, []⟩ none 0 W13 V13.out (GdAt.nil _ _) (by decide) (by decide)
  rw [decide_eq_true rfl] at hs
  refine hs.mono ?_
  clear hs
  rintro e W14 ⟨rfl, hb⟩
  have B14 := Lib.hid (below_step B13.out hb)
  have LW_14 := Lib.hid (LW_13.out.below hb)
  clear hb
  go_wp2_with fail
  have hs := check_any A c lw W14 LW_14.out.ents (by decide)
  rw [X4.out] at hs
  refine hs.mono ?_
  clear hs
  rintro e W15 ⟨rfl, hb⟩
  have B15 := Lib.hid (below_step B14.out hb)
  have LW_15 := Lib.hid (LW_14.out.below hb)
  clear hb
  go_wp2_with fail
  have hs := newer_any A c lw 4 3 W15 LW_15.out.ents (by decide)
  rw [X5.out] at hs
  refine hs.mono ?_
  clear hs
  rintro e wz ⟨rfl, hw⟩
  rw [hw]
  clear hw wz
  go_wp2_with fail
  have hs := newer_any A c lw 3 3 W15 LW_15.out.ents (by decide)
  rw [X6.out] at hs
  refine hs.mono ?_
  clear hs
  rintro e wz ⟨rfl, hw⟩
  rw [hw]
  clear hw wz
  go_wp2_with fail
  have hs := fits_any A c lw 4 3 W15 LW_15.out.ents (by decide) (by unfold i64B; omega)
  rw [X7.out] at hs
  refine hs.mono ?_
  clear hs
  rintro e wz ⟨rfl, hw⟩
  rw [hw]
  clear hw wz
  go_wp2_with fail
  go_ret
  exact ⟨rfl, B15.out⟩
end Go.Proofs.Ytnnjcabgaefhcaa.lg

/- A slice of structs, opened at every index: its cells, what each field's cells are. Nothing here speaks of the program. -/
namespace Go.Proofs.Ytnnjcabgaefhcaa
open Go Go.ChangeShapes Go.WideShapes Go.Deep
set_option maxRecDepth 100000

theorem open_slice_wide {H : Type} {enc : TypeId × Value → H} {P : Program} {w : World} {base : Nat} {spare : Nat → Bool} {held : Bool} {t e : TypeId} {fs : Array Field} {fuel : Nat} {cs : List Value} {x : DataW H × List MemPlace}
    (ht : P.underlying t = some (.slice e)) (he : P.underlying e = some (.struct fs))
    (h : DataW.trod enc P w base spare held fuel t cs = some x) :
    (cs = [.slice none 0 0] ∧ x = (.nil, [])) ∨
    ∃ (a : Addr) (len cap m : Nat), cs = [.slice (some a) len cap] ∧ base ≤ a.block ∧ len ≤ cap ∧ cap ≤ maxLen ∧ m = (if spare a.block then cap else len) ∧
      ∀ i, i < m → ∃ cs' : List Value, cs'.length = P.cellsOf e ∧ (∀ k (hk : k < cs'.length), w.cell? (a.add (i * P.cellsOf e + k)) = some cs'[k]) ∧
        ∀ (k : Nat) (f : Field), fs[k]? = some f → ∃ y n, DataW.trod enc P w base spare held n f.type ((cs'.drop f.offset).take (P.cellsOf f.type)) = some y := by
  rcases open_slice ht h with h0 | ⟨a, len, cap, m, n, D, Pl, rfl, hb, hl, hm, hmm, rfl, hx⟩
  · exact Or.inl h0
  right
  refine ⟨a, len, cap, m, rfl, hb, hl, hm, hmm, fun i hi => ?_⟩
  obtain ⟨cs', h1, h2⟩ := hx i hi
  obtain ⟨_, hlen, hcell⟩ := World.cells?_some h1
  obtain ⟨xs, n', _, _, _, hxl, hf⟩ := DataW.trod_struct he h2
  refine ⟨cs', hlen, fun k hk => ?_, fun k f hk => ?_⟩
  · have hcl := hcell k (by omega)
    rw [add_add, List.getElem?_eq_getElem hk] at hcl
    exact hcl
  · have hlt : k < fs.size := (Array.getElem?_eq_some_iff.1 hk).1
    exact ⟨xs[k]'(by omega), n', (hf k f hk).trans (List.getElem?_eq_getElem (by omega))⟩
end Go.Proofs.Ytnnjcabgaefhcaa

/- What comes in for the statements on logs: entries. -/
namespace Go.Proofs.Ytnnjcabgaefhcaa.lg
open Go Go.RowKit Go.ChangeShapes Go.WideShapes Go.Deep Go.Proofs.Ytnnjcabgaefhcaa.ib
set_option maxRecDepth 100000

theorem eu64_of {x : Int} (h : (Lit.int .u64 x).wf = true) : ∃ c : Nat, x = (c : Int) ∧ c < 18446744073709551616 := by
  have hb := bounds_u64 h
  exact ⟨x.toNat, by omega, by omega⟩
section
variable {H : Type} {enc : TypeId × Value → H} {w : World} {held : Bool} {d : DataW H} {pl : List MemPlace} {a : Option Addr} {l c : Nat}
theorem egd_cells {n : Nat} {v0 v1 : Value} {y : DataW H × List MemPlace} (h : DataW.trod enc Try.prog w 0 (fun _ => true) held n 33 [v0, v1] = some y) : ∃ g : Gd, v0 = .int .u64 (g.1 : Int) ∧ v1 = .int .u64 (g.2 : Int) ∧ gdB g := by
  obtain ⟨xs, m, _, _, _, hl, hi⟩ := DataW.trod_struct Try.underlying33 h
  match xs, hl with
  | [x0, x1], _ =>
    have c1 : Try.prog.cellsOf 28 = 1 := by kernel_rfl
    have g0 := hi 0 _ rfl
    have g1 := hi 1 _ rfl
    simp [c1] at g0 g1
    obtain ⟨k0, h0, _, b0⟩ := DataW.trod_int Try.underlying28 g0
    obtain ⟨k1, h1, _, b1⟩ := DataW.trod_int Try.underlying28 g1
    obtain ⟨c0, rfl, l0⟩ := eu64_of b0
    obtain ⟨c1, rfl, l1⟩ := eu64_of b1
    obtain rfl : v0 = _ := by simpa using h0
    obtain rfl : v1 = _ := by simpa using h1
    exact ⟨(c0, c1), rfl, rfl, l0, l1⟩
theorem ents_cells {n : Nat} {v : Value} {y : DataW H × List MemPlace} (h : DataW.trod enc Try.prog w 0 (fun _ => true) held n 22 [v] = some y) :
    ∃ (A : Option Addr) (xs : List En) (c : Nat), v = .slice A xs.length c ∧ EnL w A xs c ∧ xs.length ≤ 9223372036854775807 := by
  have ce : Try.prog.cellsOf 35 = 4 := by kernel_rfl
  have cg : Try.prog.cellsOf 33 = 2 := by kernel_rfl
  have cu : Try.prog.cellsOf 28 = 1 := by kernel_rfl
  have ci : Try.prog.cellsOf 3 = 1 := by kernel_rfl
  rcases open_slice_wide Try.underlying22 Try.underlying35 h with ⟨hcs, _⟩ | ⟨x, l', c', m, hcs, _, hl, hm, hmm, hi⟩
  · simp at hcs
    subst hcs
    exact ⟨none, [], 0, rfl, EnL.none _, by simp⟩
  · simp at hcs
    subst hcs
    simp only [if_true] at hmm
    subst hmm
    unfold maxLen at hm
    obtain ⟨zs, hzl, hz⟩ := choose_list (p := fun i (z : En) => w.cell? (x.add (i * 4)) = some (.int .u64 (z.t : Int)) ∧ w.cell? (x.add (i * 4 + 1)) = some (.int .i64 z.k) ∧ w.cell? (x.add (i * 4 + 2)) = some (.int .u64 (z.e : Int)) ∧ w.cell? (x.add (i * 4 + 3)) = some (.int .u64 (z.c : Int)) ∧ enB z) l' (fun i hil => by
      obtain ⟨cs', hlen, hcell, hf⟩ := hi i (by omega)
      rw [ce] at hlen hcell
      match cs', hlen with
      | [u0, u1, u2, u3], _ =>
        obtain ⟨y0, n0, e0⟩ := hf 0 _ rfl
        obtain ⟨y1, n1, e1⟩ := hf 1 _ rfl
        obtain ⟨y2, n2, e2⟩ := hf 2 _ rfl
        simp [cg, ci, cu] at e0 e1 e2
        obtain ⟨k0, h0, _, b0⟩ := DataW.trod_int Try.underlying28 e0
        obtain ⟨k1, h1, _, b1⟩ := DataW.trod_int Try.underlying3 e1
        obtain ⟨g, rfl, rfl, hg⟩ := egd_cells e2
        obtain ⟨t0, rfl, l0⟩ := eu64_of b0
        obtain rfl : u0 = _ := by simpa using h0
        obtain rfl : u1 = _ := by simpa using h1
        have k0 := hcell 0 (by simp)
        have k1 := hcell 1 (by simp)
        have k2 := hcell 2 (by simp)
        have k3 := hcell 3 (by simp)
        exact ⟨⟨t0, _, g.1, g.2⟩, k0, k1, k2, k3, l0, bounds_i64 b1, hg.1, hg.2⟩)
    subst hzl
    refine ⟨some x, zs, _, rfl, ⟨fun i hil => ?_, hl, fun e => by cases e⟩, by omega⟩
    obtain ⟨h0, _⟩ := hz 0 (by omega)
    rw [Nat.zero_mul] at h0
    obtain ⟨b, o, rfl, hb⟩ := spot0 h0
    obtain ⟨k0, k1, k2, k3, k5⟩ := hz i hil
    rw [addr_add] at k0 k1 k2 k3
    exact ⟨b, o, rfl, hb, k0, by simpa only [Nat.add_assoc] using k1, by simpa only [Nat.add_assoc] using k2, by simpa only [Nat.add_assoc] using k3, k5⟩
theorem ents_of (h : DataW.Trod enc Try.prog w 0 (fun _ => true) held 22 (.slice a l c) d pl) : ∃ zs : List En, zs.length = l ∧ l ≤ 9223372036854775807 ∧ EnL w a zs c := by
  obtain ⟨fuel, hf⟩ := h
  have hf' : DataW.trod enc Try.prog w 0 (fun _ => true) held fuel 22 [.slice a l c] = some (d, pl) := hf
  obtain ⟨A, zs, c', h1, h2, h3⟩ := ents_cells hf'
  simp only [Value.slice.injEq] at h1
  obtain ⟨rfl, rfl, rfl⟩ := h1
  exact ⟨zs, rfl, h3, h2⟩
end
end Go.Proofs.Ytnnjcabgaefhcaa.lg

