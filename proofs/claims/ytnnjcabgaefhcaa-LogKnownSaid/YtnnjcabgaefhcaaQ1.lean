/- LgEq, LgChk, LgLine, StillW, Step, LgSays, LgSay2, LgSay3. -/
import Derived.Test.YtnnjcabgaefhcaaQ0
import Derived.Laws.StructEq
import Derived.Laws.Cover2
import Derived.KernelRfl
import Derived.WalkKit
import Derived.WalkSpells
import Derived.WalkLawsBesides
import Derived.BigQuiet
import Derived.LoopTactic
import Derived.Lib.QuietBelow
import Derived.Deep.DeepCutAuto
import Derived.StillTailTactics
import Derived.BigCall
import Derived.Deep.RegionLaw
import Derived.OwnWalk
import Derived.Below
set_option linter.unusedVariables false
set_option linter.unusedSimpArgs false
/- Are two lists of entries alike: slices.Equal, the program's answer, the document's. -/
namespace Go.Proofs.Ytnnjcabgaefhcaa.lg
open Go Go.RowKit Go.Proofs.Ytnnjcabgaefhcaa.ib
set_option maxRecDepth 100000

theorem en_ne {x y : En} (h : x ≠ y) : ¬ (x.t : Int) = (y.t : Int) ∨ (x.t : Int) = (y.t : Int) ∧ (¬ x.k = y.k ∨ x.k = y.k ∧ (¬ (x.e : Int) = (y.e : Int) ∨ (x.e : Int) = (y.e : Int) ∧ ¬ (x.c : Int) = (y.c : Int))) := by
  obtain ⟨a, b, c, d⟩ := x
  obtain ⟨a', b', c', d'⟩ := y
  simp only [En.mk.injEq, ne_eq] at h ⊢
  omega
theorem take_snoc {l m : List En} {k : Nat} (h1 : k < l.length) (h2 : k < m.length) (h : l.take k = m.take k) (he : l[k] = m[k]) : l.take (k + 1) = m.take (k + 1) := by
  rw [List.take_succ_eq_append_getElem h1, List.take_succ_eq_append_getElem h2, h, he]

/-- The four cells of the i-th one, in a later world. -/
theorem EnAt.cells {w wr : World} {A : Option Addr} {l : List En} (h : EnAt w A l) (hb : Below w.heap.size w wr) (i : Nat) (hi : i < l.length) : ∃ b o, A = some ⟨b, o, none⟩ ∧ b < wr.heap.size ∧ wr.cell? ⟨b, o + i * 4, none⟩ = some (.int .u64 (l[i].t : Int)) ∧ wr.cell? ⟨b, o + i * 4 + 1, none⟩ = some (.int .i64 l[i].k) ∧
    wr.cell? ⟨b, o + i * 4 + 2, none⟩ = some (.int .u64 (l[i].e : Int)) ∧ wr.cell? ⟨b, o + i * 4 + 3, none⟩ = some (.int .u64 (l[i].c : Int)) ∧ enB l[i] := by
  exact h.below hb i hi

/-- As far as k both lists are alike. -/
def SaRel (l m : List En) (w : World) (i : Value) (wr : World) : Prop :=
  ∃ k : Nat, k ≤ l.length ∧ i = .int .i64 (k : Int) ∧ l.take k = m.take k ∧ Below w.heap.size w wr

set_option maxHeartbeats 3200000 in
theorem equal_any (A B : Option Addr) (c d : Nat) (l m : List En) (w : World) (hA : EnAt w A l) (hB : EnAt w B m) (hl : l.length ≤ 1000000) (hm : m.length ≤ 1000000) :
    Calls Try.prog 36 #[.slice A l.length c, .slice B m.length d] w (endB (decide (l = m)) w) := by
  have HA := Lib.hid hA
  have HB := Lib.hid hB
  clear hA hB
  by_cases hlen : l.length = m.length
  · obtain ⟨len, hln⟩ : ∃ k, l.length = k := ⟨_, rfl⟩
    have HLL := Lib.hid hln
    have HLM : Hid (m.length = len) := by unfold Hid; rw [← hln, hlen]
    rw [hln] at hl
    rw [← hlen, hln]
    have hne : ((len : Int) != (len : Int)) = false := by simp
    clear hln hlen hm
    go_enter Try.func36, Try.ntmps36
    go_wp2_with fail
    go_loopw [5, 13] (fun _ i wr => SaRel l m w i wr) (fun _ i _ => len - (intOf i).toNat)
    case atStart => exact ⟨0, Nat.zero_le _, rfl, by rw [List.take_zero, List.take_zero], Below.refl _ _⟩
    case round =>
      obtain ⟨k, hk, rfl, ht, hB⟩ := hrel
      have HT := Lib.hid ht
      have HBW := Lib.hid hB
      rw [HLL.out] at hk
      clear ht hB
      by_cases hlt : k < len
      · have hki : (k : Int) < (len : Int) := by omega
        have hkl : k < l.length := by rw [HLL.out]; exact hlt
        have hkm : k < m.length := by rw [HLM.out]; exact hlt
        obtain ⟨b1, o1, rfl, l1, e0, e1, e2, e3, -⟩ := HA.out.cells HBW.out k hkl
        obtain ⟨b2, o2, rfl, l2, f0, f1, f2, f3, -⟩ := HB.out.cells HBW.out k hkm
        have HNE : Hid (l[k] ≠ m[k] → l ≠ m) := fun h e => h (by subst e; rfl)
        have HTS : Hid (l[k] = m[k] → l.take (k + 1) = m.take (k + 1)) := fun e => take_snoc hkl hkm HT.out e
        obtain ⟨x, hx⟩ : ∃ x, l[k] = x := ⟨_, rfl⟩
        obtain ⟨y, hy⟩ : ∃ y, m[k] = y := ⟨_, rfl⟩
        rw [hx] at e0 e1 e2 e3 HNE HTS
        rw [hy] at f0 f1 f2 f3 HNE HTS
        clear hx hy
        by_cases he : x = y
        · have HS := Lib.hid (HTS.out he)
          subst he
          clear HTS HNE
          generalize (x.t : Int) = x1 at *
          generalize x.k = x2 at *
          generalize (x.e : Int) = x3 at *
          generalize (x.c : Int) = x4 at *
          go_wp2_with fail
          go_quiet (fail)
          have HB2 := Lib.hid (below_drewN HBW.out nq)
          go_wp2_with fail
          go_roundw
          case rel => exact ⟨k + 1, by rw [HLL.out]; omega, by go_num, HS.out, HB2.out⟩
          case measure => simp [intOf]; omega
        · have HS := Lib.hid (decide_eq_false (HNE.out he))
          have hd := en_ne he
          clear he HTS HNE
          generalize (x.t : Int) = x1 at *
          generalize x.k = x2 at *
          generalize (x.e : Int) = x3 at *
          generalize (x.c : Int) = x4 at *
          generalize (y.t : Int) = y1 at *
          generalize y.k = y2 at *
          generalize (y.e : Int) = y3 at *
          generalize (y.c : Int) = y4 at *
          rcases hd with hd | ⟨rfl, hd | ⟨rfl, hd | ⟨rfl, hd⟩⟩⟩
          all_goals
            go_wp2_with fail
            go_quiet (fail)
            have HB2 := Lib.hid (below_drewN HBW.out nq)
            go_wp2_with fail
            go_ret
            exact ⟨by rw [HS.out]; rfl, HB2.out⟩
      · have hki : ¬ (k : Int) < (len : Int) := by omega
        have HEQ : Hid (decide (l = m) = true) := by
          unfold Hid
          have := HT.out
          rw [List.take_of_length_le (by rw [HLL.out]; omega), List.take_of_length_le (by rw [HLM.out]; omega)] at this
          simpa using this
        go_wp2_with fail
        go_ret
        exact ⟨by rw [HEQ.out]; rfl, HBW.out⟩
  · have HN : Hid (decide (l = m) = false) := by
      unfold Hid
      simp only [decide_eq_false_iff_not]
      rintro rfl
      exact hlen rfl
    have hli : ((l.length : Int) != (m.length : Int)) = true := by simp; omega
    clear hlen
    go_enter Try.func36, Try.ntmps36
    go_wp2_with fail
    go_ret
    exact ⟨by rw [HN.out]; rfl, Below.refl _ _⟩

set_option maxHeartbeats 3200000 in
theorem rsame_any (A B : Option Addr) (c d : Nat) (l m : List En) (w : World) (hA : EnAt w A l) (hB : EnAt w B m) (hl : l.length ≤ 1000000) (hm : m.length ≤ 1000000) :
    Calls Try.prog 15 #[.slice A l.length c, .slice B m.length d] w (endB (decide (l = m)) w) := by
  have HA := Lib.hid hA
  have HB := Lib.hid hB
  clear hA hB
  by_cases hlen : l.length = m.length
  · obtain ⟨len, hln⟩ : ∃ k, l.length = k := ⟨_, rfl⟩
    have HLL := Lib.hid hln
    have HLM : Hid (m.length = len) := by unfold Hid; rw [← hln, hlen]
    rw [hln] at hl
    rw [← hlen, hln]
    have hne : ((len : Int) != (len : Int)) = false := by simp
    clear hln hlen hm
    go_enter Try.func15, Try.ntmps15
    go_wp2_with fail
    go_loopw [5] (fun i wr => SaRel l m w i wr) (fun i _ => len - (intOf i).toNat)
    case atStart => exact ⟨0, Nat.zero_le _, rfl, by rw [List.take_zero, List.take_zero], Below.refl _ _⟩
    case round =>
      obtain ⟨k, hk, rfl, ht, hB⟩ := hrel
      have HT := Lib.hid ht
      have HBW := Lib.hid hB
      rw [HLL.out] at hk
      clear ht hB
      by_cases hlt : k < len
      · have hki : (k : Int) < (len : Int) := by omega
        have hkl : k < l.length := by rw [HLL.out]; exact hlt
        have hkm : k < m.length := by rw [HLM.out]; exact hlt
        obtain ⟨b1, o1, rfl, l1, e0, e1, e2, e3, -⟩ := HA.out.cells HBW.out k hkl
        obtain ⟨b2, o2, rfl, l2, f0, f1, f2, f3, -⟩ := HB.out.cells HBW.out k hkm
        have HNE : Hid (l[k] ≠ m[k] → l ≠ m) := fun h e => h (by subst e; rfl)
        have HTS : Hid (l[k] = m[k] → l.take (k + 1) = m.take (k + 1)) := fun e => take_snoc hkl hkm HT.out e
        obtain ⟨x, hx⟩ : ∃ x, l[k] = x := ⟨_, rfl⟩
        obtain ⟨y, hy⟩ : ∃ y, m[k] = y := ⟨_, rfl⟩
        rw [hx] at e0 e1 e2 e3 HNE HTS
        rw [hy] at f0 f1 f2 f3 HNE HTS
        clear hx hy
        by_cases he : x = y
        · have HS := Lib.hid (HTS.out he)
          subst he
          clear HTS HNE
          generalize (x.t : Int) = x1 at *
          generalize x.k = x2 at *
          generalize (x.e : Int) = x3 at *
          generalize (x.c : Int) = x4 at *
          go_wp2_with fail
          go_quiet (fail)
          have HB2 := Lib.hid (below_drewN HBW.out nq)
          go_wp2_with fail
          go_roundw
          case rel => exact ⟨k + 1, by rw [HLL.out]; omega, by go_num, HS.out, HB2.out⟩
          case measure => simp [intOf]; omega
        · have HS := Lib.hid (decide_eq_false (HNE.out he))
          have hd := en_ne he
          clear he HTS HNE
          generalize (x.t : Int) = x1 at *
          generalize x.k = x2 at *
          generalize (x.e : Int) = x3 at *
          generalize (x.c : Int) = x4 at *
          generalize (y.t : Int) = y1 at *
          generalize y.k = y2 at *
          generalize (y.e : Int) = y3 at *
          generalize (y.c : Int) = y4 at *
          rcases hd with hd | ⟨rfl, hd | ⟨rfl, hd | ⟨rfl, hd⟩⟩⟩
          all_goals
            go_wp2_with fail
            go_quiet (fail)
            have HB2 := Lib.hid (below_drewN HBW.out nq)
            go_wp2_with fail
            go_ret
            exact ⟨by rw [HS.out]; rfl, HB2.out⟩
      · have hki : ¬ (k : Int) < (len : Int) := by omega
        have HEQ : Hid (decide (l = m) = true) := by
          unfold Hid
          have := HT.out
          rw [List.take_of_length_le (by rw [HLL.out]; omega), List.take_of_length_le (by rw [HLM.out]; omega)] at this
          simpa using this
        go_wp2_with fail
        go_ret
        exact ⟨by rw [HEQ.out]; rfl, HBW.out⟩
  · have HN : Hid (decide (l = m) = false) := by
      unfold Hid
      simp only [decide_eq_false_iff_not]
      rintro rfl
      exact hlen rfl
    have hli : ((l.length : Int) != (m.length : Int)) = true := by simp; omega
    clear hlen
    go_enter Try.func15, Try.ntmps15
    go_wp2_with fail
    go_ret
    exact ⟨by rw [HN.out]; rfl, Below.refl _ _⟩

theorem same_any (A B : Option Addr) (c d : Nat) (l m : List En) (w : World) (hA : EnAt w A l) (hB : EnAt w B m) (hl : l.length ≤ 1000000) (hm : m.length ≤ 1000000) :
    Calls Try.prog 14 #[.slice A l.length c, .slice B m.length d] w (endB (decide (l = m)) w) := by
  have HC := Lib.hid (equal_any A B c d l m w hA hB hl hm)
  clear hA hB
  go_enter Try.func14, Try.ntmps14
  go_wp2_with fail
  refine HC.out.mono ?_
  rintro e w' ⟨rfl, hb⟩
  have HB := Lib.hid hb
  clear hb
  go_wp2_with fail
  go_ret
  exact ⟨rfl, HB.out⟩
end Go.Proofs.Ytnnjcabgaefhcaa.lg

/- Whether a log may be: the program's answer, the document's. -/
namespace Go.Proofs.Ytnnjcabgaefhcaa.lg
open Go Go.RowKit Go.Sort Go.Proofs.Ytnnjcabgaefhcaa.ib
set_option maxRecDepth 100000

theorem rmixed : Try.prog.follows .mixedOrders = true := by kernel_rfl
theorem ahead_succ {l : List En} {k : Nat} (h : k < l.length) : aheadT l (k + 1) = l[k].t := by
  unfold aheadT
  rw [if_neg (by omega), Nat.add_sub_cancel]
  simp [List.getD, h]
theorem good_at {l : List En} {k : Nat} (h : k < l.length) : goodAt l k = (decide (aheadT l k ≤ l[k].t) && mayE l[k]) := by
  unfold goodAt
  simp [List.getD, h]

/-- As far as k all may be. -/
def CkRel (l : List En) (w : World) (a i : Value) (wr : World) : Prop :=
  ∃ k : Nat, k ≤ l.length ∧ i = .int .i64 (k : Int) ∧ a = .int .u64 (aheadT l k : Int) ∧ (∀ j, j < k → goodAt l j = true) ∧ Below w.heap.size w wr

set_option maxHeartbeats 3200000 in
theorem check_any (A : Option Addr) (c : Nat) (l : List En) (w : World) (h : EnAt w A l) (hl : l.length ≤ 4000) : Calls Try.prog 12 #[.slice A l.length c] w (endI (lCheck l) w) := by
  obtain ⟨r, hr⟩ : ∃ r, lCheck l = r := ⟨_, rfl⟩
  rw [hr]
  unfold lCheck at hr
  by_cases h3 : 300 < l.length
  · rw [if_pos h3] at hr
    subst hr
    have h3i : (300 : Int) < (l.length : Int) := by omega
    clear h
    go_enter Try.func12, Try.ntmps12
    go_wp2_with fail
    go_ret
    exact ⟨rfl, Below.refl _ _⟩
  · rw [if_neg h3] at hr
    have h3i : ¬ (300 : Int) < (l.length : Int) := by omega
    have HA := Lib.hid h
    have HR := Lib.hid hr
    obtain ⟨len, hln⟩ : ∃ k, l.length = k := ⟨_, rfl⟩
    have HLL := Lib.hid hln
    rw [hln] at h3i hl ⊢
    clear h hr h3 hln
    go_enter Try.func12, Try.ntmps12
    go_wp2_with fail
    go_loopw [3, 11] (fun a i wr => CkRel l w a i wr) (fun _ i _ => len - (intOf i).toNat)
    case atStart => exact ⟨0, Nat.zero_le _, rfl, rfl, fun j hj => absurd hj (by omega), Below.refl _ _⟩
    case round =>
      obtain ⟨k, hk, rfl, rfl, hg, hB⟩ := hrel
      have HG := Lib.hid hg
      have HBW := Lib.hid hB
      rw [HLL.out] at hk
      clear hg hB
      by_cases hlt : k < len
      · have hki : (k : Int) < (len : Int) := by omega
        have hkl : k < l.length := by rw [HLL.out]; exact hlt
        obtain ⟨b1, o1, rfl, l1, e0, e1, e2, e3, hxb⟩ := HA.out.cells HBW.out k hkl
        have HGA : Hid (goodAt l k = (decide (aheadT l k ≤ l[k].t) && mayE l[k])) := good_at hkl
        have HAS : Hid (aheadT l (k + 1) = l[k].t) := ahead_succ hkl
        have HNO : Hid (goodAt l k = false → r = 2) := fun e => by rw [← HR.out, good_no hkl e]; rfl
        obtain ⟨x, hx⟩ : ∃ x, l[k] = x := ⟨_, rfl⟩
        rw [hx] at e0 e1 e2 e3 HGA HAS
        obtain ⟨W1, hW1⟩ : ∃ z, wr.alloc (.cells #[.int .u64 (x.t : Int), .int .i64 x.k, .int .u64 (x.e : Int), .int .u64 (x.c : Int)] 35) = z := ⟨_, rfl⟩
        have hx1 : Blk W1 wr.heap.size 35 #[.int .u64 (x.t : Int), .int .i64 x.k, .int .u64 (x.e : Int), .int .u64 (x.c : Int)] := by rw [← hW1]; exact Blk.new _ _ _
        have hb1 : Below wr.heap.size wr W1 := by rw [← hW1]; exact (Below.refl _ wr).alloc (Nat.le_refl _) _
        have HX1 := Lib.hid hx1
        have HB1 := Lib.hid (below_step HBW.out hb1)
        have HMAY : Hid (∀ W, Calls Try.prog 34 #[.agg #[.int .u64 (x.t : Int), .int .i64 x.k, .int .u64 (x.e : Int), .int .u64 (x.c : Int)]] W (endB (mayE x) W)) := fun W => may_any x W
        clear hx hx1 hb1 hxb
        go_upto_region 7 with fail
        try rw [hW1]
        clear hW1 e0 e1 e2 e3
        obtain ⟨gx, hgx⟩ : ∃ g, wr.heap.size = g := ⟨_, rfl⟩
        rw [hgx] at HX1
        try rw [hgx]
        clear hgx
        have q0 := HX1.out.cell 0
        have q1 := HX1.out.cell 1
        have q2 := HX1.out.cell 2
        have q3 := HX1.out.cell 3
        simp only [List.getElem?_toArray, List.getElem?_cons_zero, List.getElem?_cons_succ] at q0 q1 q2 q3
        have hlg := HX1.out.lt
        by_cases ha : aheadT l k ≤ x.t
        · have hai : ¬ (x.t : Int) < (aheadT l k : Int) := by omega
          have HGB : Hid (goodAt l k = mayE x) := by unfold Hid; rw [HGA.out, decide_eq_true ha, Bool.true_and]
          clear ha HGA
          generalize mayE x = q at *
          cases q with
          | false =>
            obtain rfl := HNO.out HGB.out
            go_wp2_with fail
            refine (HMAY.out W1).mono ?_
            rintro e W2 ⟨rfl, hb2⟩
            have HB2 := Lib.hid (below_step HB1.out hb2)
            clear hb2 q0 q1 q2 q3
            go_wp2_with fail
            go_ret
            exact ⟨rfl, HB2.out⟩
          | true =>
            have HGG : Hid (∀ j, j < k + 1 → goodAt l j = true) := fun j hj => by
              by_cases hjk : j = k
              · rw [hjk]; exact HGB.out
              · exact HG.out j (by omega)
            go_wp2_with fail
            refine (HMAY.out W1).mono ?_
            rintro e W2 ⟨rfl, hb2⟩
            have q0' : W2.cell? ⟨gx, 0, none⟩ = some (.int .u64 (x.t : Int)) := by rw [hb2.cell (p := ⟨gx, 0, none⟩) hlg]; exact q0
            have hlg2 : gx < W2.heap.size := Nat.lt_of_lt_of_le hlg hb2.size
            have HB2 := Lib.hid (below_step HB1.out hb2)
            clear hb2 q0 q1 q2 q3
            go_wp2_with fail
            go_roundw
            case rel => exact ⟨k + 1, by rw [HLL.out]; omega, by go_num, by rw [HAS.out], HGG.out, HB2.out⟩
            case measure => simp [intOf]; omega
        · have hai : (x.t : Int) < (aheadT l k : Int) := by omega
          obtain rfl := HNO.out (by rw [HGA.out, decide_eq_false ha, Bool.false_and])
          clear ha HGA
          go_wp2_with fail
          go_ret
          exact ⟨rfl, HB1.out⟩
      · have hki : ¬ (k : Int) < (len : Int) := by omega
        obtain rfl : r = 0 := by rw [← HR.out, good_yes (fun i hi => HG.out i (by rw [HLL.out] at hi; omega))]; rfl
        go_wp2_with fail
        go_ret
        exact ⟨rfl, HBW.out⟩

def RkRel (l : List En) (w : World) (i : Value) (wr : World) : Prop :=
  ∃ k : Nat, k ≤ l.length ∧ i = .int .i64 (k : Int) ∧ (∀ j, j < k → goodAt l j = true) ∧ Below w.heap.size w wr
set_option maxHeartbeats 6400000 in
theorem rcheck_any (A : Option Addr) (c : Nat) (l : List En) (w : World) (h : EnAt w A l) (hl : l.length ≤ 4000) : Calls Try.prog 13 #[.slice A l.length c] w (endI (lCheck l) w) := by
  obtain ⟨r, hr⟩ : ∃ r, lCheck l = r := ⟨_, rfl⟩
  rw [hr]
  unfold lCheck at hr
  by_cases h3 : 300 < l.length
  · rw [if_pos h3] at hr
    subst hr
    have h3i : (300 : Int) < (l.length : Int) := by omega
    clear h
    go_enter Try.func13, Try.ntmps13
    go_wp2_with fail
    go_ret
    exact ⟨rfl, Below.refl _ _⟩
  · rw [if_neg h3] at hr
    have h3i : ¬ (300 : Int) < (l.length : Int) := by omega
    have HA := Lib.hid h
    have HR := Lib.hid hr
    obtain ⟨len, hln⟩ : ∃ k, l.length = k := ⟨_, rfl⟩
    have HLL := Lib.hid hln
    rw [hln] at h3i hl ⊢
    clear h hr h3 hln
    go_enter Try.func13, Try.ntmps13
    go_wp2_with fail
    go_loopw [3] (fun i wr => RkRel l w i wr) (fun i _ => len - (intOf i).toNat)
    case atStart => exact ⟨0, Nat.zero_le _, rfl, fun j hj => absurd hj (by omega), Below.refl _ _⟩
    case round =>
      obtain ⟨k, hk, rfl, hg, hB⟩ := hrel
      have HG := Lib.hid hg
      have HBW := Lib.hid hB
      rw [HLL.out] at hk
      clear hg hB
      by_cases hlt : k < len
      · have hki : (k : Int) < (len : Int) := by omega
        have hkl : k < l.length := by rw [HLL.out]; exact hlt
        obtain ⟨b1, o1, rfl, l1, e0, e1, e2, e3, hxb⟩ := HA.out.cells HBW.out k hkl
        have HGA : Hid (goodAt l k = (decide (aheadT l k ≤ l[k].t) && mayE l[k])) := good_at hkl
        have HNO : Hid (goodAt l k = false → r = 2) := fun e => by rw [← HR.out, good_no hkl e]; rfl
        have hpre : ∃ T : Int, (0 < k → ∃ pc : Nat, (pc : Int) = (k : Int) - 1 ∧ wr.cell? ⟨b1, o1 + pc * 4, none⟩ = some (.int .u64 T) ∧ T = (aheadT l k : Int)) ∧ (k = 0 → aheadT l k = 0) := by
          by_cases h0 : k = 0
          · exact ⟨0, fun h => absurd h (by omega), fun _ => by rw [h0]; rfl⟩
          · obtain ⟨j, rfl⟩ : ∃ j, k = j + 1 := ⟨k - 1, by omega⟩
            obtain ⟨b2, o2, h2, -, f0, -⟩ := HA.out.cells HBW.out j (by omega)
            simp only [Option.some.injEq, Addr.mk.injEq, and_true] at h2
            obtain ⟨rfl, rfl⟩ := h2
            exact ⟨_, fun _ => ⟨j, by omega, f0, by rw [ahead_succ (by omega)]⟩, fun h => absurd h (by omega)⟩
        obtain ⟨x, hx⟩ : ∃ x, l[k] = x := ⟨_, rfl⟩
        rw [hx] at e0 e1 e2 e3 HGA
        obtain ⟨T, HP1, HP0⟩ := hpre
        have HMAY : Hid (∀ d os, Calls Try.prog 35 #[.agg #[.int .u64 (x.t : Int), .int .i64 x.k, .int .u64 (x.e : Int), .int .u64 (x.c : Int)]] (grow (redrawn wr d) os) fun e w'' => e = .returned (.bool (mayE x)) ∧ ∃ p : Regrown, w'' = grow (redrawn wr p.d) p.os) :=
          fun d os => Calls.regrown_of (entry_any x _)
        have p0 : Hid (∀ d os, (grow (redrawn wr d) os).cell? ⟨b1, o1 + k * 4, none⟩ = some (.int .u64 (x.t : Int))) := fun d os => cell_regrown e0 d os
        have p1 : Hid (∀ d os, (grow (redrawn wr d) os).cell? ⟨b1, o1 + k * 4 + 1, none⟩ = some (.int .i64 x.k)) := fun d os => cell_regrown e1 d os
        have p2 : Hid (∀ d os, (grow (redrawn wr d) os).cell? ⟨b1, o1 + k * 4 + 2, none⟩ = some (.int .u64 (x.e : Int))) := fun d os => cell_regrown e2 d os
        have p3 : Hid (∀ d os, (grow (redrawn wr d) os).cell? ⟨b1, o1 + k * 4 + 3, none⟩ = some (.int .u64 (x.c : Int))) := fun d os => cell_regrown e3 d os
        clear hx hxb e0 e1 e2 e3
        by_cases hm : mayE x = true
        · rw [hm] at HMAY HGA
          by_cases h0 : k = 0
          · subst h0
            have HGG : Hid (∀ j, j < 0 + 1 → goodAt l j = true) := fun j hj => by
              obtain rfl : j = 0 := by omega
              rw [HGA.out, HP0 rfl]
              simp
            have c0 := p0.out
            have c1 := p1.out
            have c2 := p2.out
            have c3 := p3.out
            have cM := HMAY.out
            simp only [Nat.zero_mul, Nat.add_zero] at c0 c1 c2 c3
            clear HMAY p0 p1 p2 p3 HP0 HP1 HGA hm
            go_wp2_with fail
            refine wp_region_quiet_below rmixed (by kernel_rfl) ?_
            repeat (any_goals (first | go_big_quiet_step (exact cM _ _) | quiet_step (exact cM _ _)))
            refine wpQuiet_nil ?_
            intro _ hw'
            obtain ⟨⟨dq, osq⟩, hw''⟩ := hw'
            subst hw''
            have HB2 := Lib.hid (below_step HBW.out (below_regrown wr dq osq))
            go_wp2_with fail
            go_roundw
            case rel => exact ⟨0 + 1, by rw [HLL.out]; omega, by go_num, HGG.out, HB2.out⟩
            case measure => simp [intOf]; omega
          · obtain ⟨pc, hpc, g0, hT⟩ := HP1 (by omega)
            have hkp : (0 : Int) < (k : Int) := by omega
            have cP : ∀ d os, (grow (redrawn wr d) os).cell? ⟨b1, o1 + pc * 4, none⟩ = some (.int .u64 T) := fun d os => cell_regrown g0 d os
            by_cases ha : aheadT l k ≤ x.t
            · have hai : ¬ (x.t : Int) < T := by omega
              have HGG : Hid (∀ j, j < k + 1 → goodAt l j = true) := fun j hj => by
                by_cases hjk : j = k
                · rw [hjk, HGA.out, decide_eq_true ha]; rfl
                · exact HG.out j (by omega)
              have hpcn : pc + 1 = k := by omega
              have c0 := p0.out
              have c1 := p1.out
              have c2 := p2.out
              have c3 := p3.out
              have cM := HMAY.out
              clear HMAY p0 p1 p2 p3 HP0 HP1 HGA hm g0 ha hT h0 hpc
              subst hpcn
              go_wp2_with fail
              refine wp_region_quiet_below rmixed (by kernel_rfl) ?_
              repeat (any_goals (first | go_big_quiet_step (exact cM _ _) | quiet_step (exact cM _ _)))
              refine wpQuiet_nil ?_
              intro _ hw'
              obtain ⟨⟨dq, osq⟩, hw''⟩ := hw'
              subst hw''
              have HB2 := Lib.hid (below_step HBW.out (below_regrown wr dq osq))
              go_wp2_with fail
              go_roundw
              case rel => exact ⟨pc + 1 + 1, by rw [HLL.out]; omega, by go_num, HGG.out, HB2.out⟩
              case measure => simp [intOf]; omega
            · have hai : (x.t : Int) < T := by omega
              obtain rfl := HNO.out (by rw [HGA.out, decide_eq_false ha, Bool.false_and])
              have hpcn : pc + 1 = k := by omega
              have c0 := p0.out
              have c1 := p1.out
              have c2 := p2.out
              have c3 := p3.out
              have cM := HMAY.out
              clear HMAY p0 p1 p2 p3 HP0 HP1 HGA hm g0 ha hT h0 hpc
              subst hpcn
              go_wp2_with fail
              refine wp_region_quiet_below rmixed (by kernel_rfl) ?_
              repeat (any_goals (first | go_big_quiet_step (exact cM _ _) | quiet_step (exact cM _ _)))
              refine wpQuiet_nil ?_
              intro _ hw'
              obtain ⟨⟨dq, osq⟩, hw''⟩ := hw'
              subst hw''
              have HB2 := Lib.hid (below_step HBW.out (below_regrown wr dq osq))
              go_wp2_with fail
              go_ret
              exact ⟨rfl, HB2.out⟩
        · have hm' : mayE x = false := by simpa using hm
          rw [hm'] at HMAY HGA
          obtain rfl := HNO.out (by rw [HGA.out, Bool.and_false])
          have c0 := p0.out
          have c1 := p1.out
          have c2 := p2.out
          have c3 := p3.out
          have cM := HMAY.out
          clear HMAY p0 p1 p2 p3 HP0 HP1 HGA hm hm'
          go_wp2_with fail
          refine wp_region_quiet_below rmixed (by kernel_rfl) ?_
          repeat (any_goals (first | go_big_quiet_step (exact cM _ _) | quiet_step (exact cM _ _)))
          refine wpQuiet_nil ?_
          intro _ hw'
          obtain ⟨⟨dq, osq⟩, hw''⟩ := hw'
          subst hw''
          have HB2 := Lib.hid (below_step HBW.out (below_regrown wr dq osq))
          go_wp2_with fail
          go_ret
          exact ⟨rfl, HB2.out⟩
      · have hki : ¬ (k : Int) < (len : Int) := by omega
        obtain rfl : r = 0 := by rw [← HR.out, good_yes (fun i hi => HG.out i (by rw [HLL.out] at hi; omega))]; rfl
        go_wp2_with fail
        go_ret
        exact ⟨rfl, HBW.out⟩
end Go.Proofs.Ytnnjcabgaefhcaa.lg

/- Guids in memory; a line in memory; which guid is above which: the program's answer, the document's. -/
namespace Go.Proofs.Ytnnjcabgaefhcaa.lg
open Go Go.RowKit Go.Sort Go.Proofs.Ytnnjcabgaefhcaa.ib
set_option maxRecDepth 100000

theorem infoGd : (Try.prog.info? 33).map (fun i => (i.zero, i.size, i.bytes)) = some (some (.agg #[.int .u64 0, .int .u64 0]), 2, 16) := by kernel_rfl
def gdV (g : Gd) : List Value := [.int .u64 (g.1 : Int), .int .u64 (g.2 : Int)]
def gdRow : List Gd → List Value
  | [] => []
  | x :: r => gdV x ++ gdRow r
theorem gdRow_append : ∀ (l r : List Gd), gdRow (l ++ r) = gdRow l ++ gdRow r
  | [], _ => rfl
  | x :: l, r => by
    show gdV x ++ gdRow (l ++ r) = gdV x ++ gdRow l ++ gdRow r
    rw [gdRow_append l r, List.append_assoc]
theorem gdRow_one (x : Gd) : gdRow [x] = gdV x := by simp [gdRow]
theorem gdRow_len : ∀ l : List Gd, (gdRow l).length = l.length * 2
  | [] => rfl
  | x :: l => by simp [gdRow, gdV, gdRow_len l]; omega
theorem gdRow_get : ∀ (l : List Gd) (i : Nat) (h : i < l.length) (j : Nat), j < 2 → (gdRow l)[i * 2 + j]? = (gdV l[i])[j]?
  | x :: l, 0, _, j, hj => by
    show (gdV x ++ gdRow l)[0 * 2 + j]? = _
    rw [List.getElem?_append_left (by simp [gdV]; omega), Nat.zero_mul, Nat.zero_add]
    rfl
  | x :: l, i + 1, h, j, hj => by
    have := gdRow_get l i (by simpa using h) j hj
    show (gdV x ++ gdRow l)[(i + 1) * 2 + j]? = _
    rw [List.getElem?_append_right (by simp [gdV]; omega)]
    rw [show (i + 1) * 2 + j - (gdV x).length = i * 2 + j from by simp [gdV]; omega]
    exact this
theorem gdV_ones (x : Gd) : ∀ u ∈ gdV x, u.oneCell' = true := by
  intro u hu
  simp only [gdV, List.mem_cons, List.not_mem_nil, or_false] at hu
  rcases hu with rfl | rfl <;> rfl
/-- A slice of guids. -/
def GdAt (w : World) (A : Option Addr) (gs : List Gd) : Prop :=
  ∀ i (h : i < gs.length), ∃ b o, A = some ⟨b, o, none⟩ ∧ b < w.heap.size ∧ w.cell? ⟨b, o + i * 2, none⟩ = some (.int .u64 (gs[i].1 : Int)) ∧ w.cell? ⟨b, o + i * 2 + 1, none⟩ = some (.int .u64 (gs[i].2 : Int))
theorem GdAt.nil (w : World) (A : Option Addr) : GdAt w A [] := fun i h => absurd h (by simp)
theorem GdAt.below {w w' : World} {A : Option Addr} {gs : List Gd} (h : GdAt w A gs) (hb : Below w.heap.size w w') : GdAt w' A gs := by
  intro i hi
  obtain ⟨b, o, h1, h2, h3, h4⟩ := h i hi
  exact ⟨b, o, h1, Nat.lt_of_lt_of_le h2 hb.size, by rw [hb.cell (p := ⟨b, o + i * 2, none⟩) h2]; exact h3, by rw [hb.cell (p := ⟨b, o + i * 2 + 1, none⟩) h2]; exact h4⟩
/-- Guids in a row that the call made. -/
def OGd (w : World) (B : Nat) (v : Value) (gs : List Gd) : Prop := w.ownsRow B 33 2 v gs.length (gdRow gs)
section
variable {w w' : World} {B : Nat} {v : Value} {gs : List Gd}
theorem OGd.nil (w : World) (B : Nat) : OGd w B (.slice none 0 0) [] := World.ownsRow_nil _ _ _ _
theorem OGd.view (h : OGd w B v gs) : ∃ A c, v = .slice A gs.length c ∧ GdAt w A gs := by
  rcases h.2 with ⟨rfl, h0⟩ | ⟨g, cap, cur, rfl, hg, hh, hcc, hm, hcs, hcur⟩
  · obtain rfl : gs = [] := List.length_eq_zero_iff.1 h0
    exact ⟨none, 0, rfl, GdAt.nil _ _⟩
  · have hgl : g < w.heap.size := (Array.getElem?_eq_some_iff.1 hh).1
    have key : ∀ (j : Nat) (u : Value), (gdRow gs)[j]? = some u → w.cell? ⟨g, j, none⟩ = some u := by
      intro j u hu
      rw [cell_of_row w g j cur 33 (0, 0) hh]
      rw [← hcur, List.getElem?_take] at hu
      split at hu
      · simpa using hu
      · cases hu
    refine ⟨some ⟨g, 0, none⟩, cap, rfl, fun i hi => ⟨g, 0, rfl, hgl, ?_, ?_⟩⟩
    · rw [Nat.zero_add]
      have := key (i * 2 + 0) _ (gdRow_get gs i hi 0 (by omega))
      exact this
    · rw [Nat.zero_add]
      exact key (i * 2 + 1) _ (gdRow_get gs i hi 1 (by omega))
theorem OGd.below (h : OGd w B v gs) (hb : Below w.heap.size w w') : OGd w' B v gs := row_of_block h (fun j hj => hb.block j (h.lt j hj).2)
theorem OGd.snoc {x : Gd} (h : w.ownsRow B 33 2 v (gs.length + 1) (gdRow gs ++ gdV x)) : OGd w B v (gs ++ [x]) := by
  unfold OGd
  rw [gdRow_append, gdRow_one, List.length_append]
  exact h
end
/-- A line's four cells. -/
def lnC (L : Ln) (v : Value) : Array Value := #[.int .u64 (L.ep : Int), .int .i64 (L.bf : Int), .bool L.ls, v]
/-- A line in a block g of its own; its list in a row of the call's own. -/
structure LnIs (w : World) (B g : Nat) (L : Ln) (v : Value) : Prop where
  blk : Blk w g 40 (lnC L v)
  own : OGd w B v L.gs
  low : B ≤ g
section
variable {w w' : World} {B g : Nat} {L : Ln} {v : Value}
theorem LnIs.below (h : LnIs w B g L v) (hb : Below w.heap.size w w') : LnIs w' B g L v := ⟨h.blk.below hb, h.own.below hb, h.low⟩
theorem LnIs.ne (h : LnIs w B g L v) : ∀ j, v.ownBlock = some j → j ≠ g := own_type h.own h.blk (by decide)
theorem LnIs.set_ {L' : Ln} (h : LnIs w B g L v) (i : Nat) (u : Value) (hc : (lnC L v).setIfInBounds i u = lnC L' v) (hg : L'.gs = L.gs) : LnIs (w.setCell ⟨g, i, none⟩ u) B g L' v :=
  ⟨by rw [← hc]; exact h.blk.set_ i u, by unfold OGd; rw [hg]; exact row_of_block h.own (fun j hj => set_oth _ _ _ _ _ (h.ne j hj)), h.low⟩
end
/-- A line, as a value. -/
def LnAt (w : World) (v : Value) (L : Ln) : Prop := ∃ A c, v = .agg #[.int .u64 (L.ep : Int), .int .i64 (L.bf : Int), .bool L.ls, .slice A L.gs.length c] ∧ GdAt w A L.gs
theorem LnAt.below {w w' : World} {v : Value} {L : Ln} (h : LnAt w v L) (hb : Below w.heap.size w w') : LnAt w' v L := by
  obtain ⟨A, c, h1, h2⟩ := h
  exact ⟨A, c, h1, h2.below hb⟩
def endLn (L : Ln) (w : World) (e : Ending) (w' : World) : Prop := ∃ v, e = .returned v ∧ LnAt w' v L ∧ Below w.heap.size w w'

set_option maxHeartbeats 1600000 in
theorem above_any (a b : Gd) (w : World) : Calls Try.prog 50 #[gv a, gv b] w (endB (above a b) w) := by
  obtain ⟨a1, a2⟩ := a
  obtain ⟨b1, b2⟩ := b
  have HR : Hid (above (a1, a2) (b1, b2) = (decide ((b1 : Int) < (a1 : Int)) || (decide ((a1 : Int) = (b1 : Int)) && decide ((b2 : Int) < (a2 : Int))))) := by
    unfold Hid above
    simp [Int.ofNat_inj]
  show Calls Try.prog 50 #[.agg #[.int .u64 (a1 : Int), .int .u64 (a2 : Int)], .agg #[.int .u64 (b1 : Int), .int .u64 (b2 : Int)]] w _
  obtain ⟨r, hr⟩ : ∃ r, above (a1, a2) (b1, b2) = r := ⟨_, rfl⟩
  rw [hr] at HR ⊢
  generalize (a1 : Int) = x1 at *
  generalize (a2 : Int) = x2 at *
  generalize (b1 : Int) = y1 at *
  generalize (b2 : Int) = y2 at *
  clear hr
  have hB1 := (Below.refl w.heap.size w).alloc (Nat.le_refl _) (.cells #[.int .u64 x1, .int .u64 x2] 33)
  have HB := Lib.hid (hB1.alloc hB1.size (.cells #[.int .u64 y1, .int .u64 y2] 33))
  clear hB1
  by_cases h1 : y1 < x1
  · have HT : Hid (r = true) := by unfold Hid; rw [HR.out]; simp [h1]
    have hq : (x1 != y1) = true := by simp; omega
    clear HR
    go_enter Try.func50, Try.ntmps50
    go_wp2_with fail
    go_ret
    rw [HT.out]
    exact ⟨by simp [h1], HB.out⟩
  · by_cases h2 : x1 = y1
    · subst h2
      have hq : (x1 != x1) = false := by simp
      by_cases h3 : y2 < x2
      · have HT : Hid (r = true) := by unfold Hid; rw [HR.out]; simp [h3]
        clear HR
        go_enter Try.func50, Try.ntmps50
        go_wp2_with fail
        go_ret
        rw [HT.out]
        exact ⟨by simp [h3], HB.out⟩
      · have HT : Hid (r = false) := by unfold Hid; rw [HR.out]; simp [h3]
        clear HR
        go_enter Try.func50, Try.ntmps50
        go_wp2_with fail
        go_ret
        rw [HT.out]
        exact ⟨by simp [h3], HB.out⟩
    · have HT : Hid (r = false) := by unfold Hid; rw [HR.out]; simp [h1, h2]
      have hq : (x1 == y1) = false := by simpa using h2
      have hq2 : (x1 != y1) = true := by simpa using h2
      clear HR
      go_enter Try.func50, Try.ntmps50
      go_wp2_with fail
      go_ret
      rw [HT.out]
      exact ⟨by simp [h1], HB.out⟩

set_option maxHeartbeats 1600000 in
theorem rabove_any (a b : Gd) (w : World) : Calls Try.prog 43 #[gv a, gv b] w (endB (above a b) w) := by
  obtain ⟨a1, a2⟩ := a
  obtain ⟨b1, b2⟩ := b
  have HR : Hid (above (a1, a2) (b1, b2) = (decide ((b1 : Int) < (a1 : Int)) || (decide ((a1 : Int) = (b1 : Int)) && decide ((b2 : Int) < (a2 : Int))))) := by
    unfold Hid above
    simp [Int.ofNat_inj]
  show Calls Try.prog 43 #[.agg #[.int .u64 (a1 : Int), .int .u64 (a2 : Int)], .agg #[.int .u64 (b1 : Int), .int .u64 (b2 : Int)]] w _
  obtain ⟨r, hr⟩ : ∃ r, above (a1, a2) (b1, b2) = r := ⟨_, rfl⟩
  rw [hr] at HR ⊢
  generalize (a1 : Int) = x1 at *
  generalize (a2 : Int) = x2 at *
  generalize (b1 : Int) = y1 at *
  generalize (b2 : Int) = y2 at *
  clear hr
  have hB1 := (Below.refl w.heap.size w).alloc (Nat.le_refl _) (.cells #[.int .u64 x1, .int .u64 x2] 33)
  have HB := Lib.hid (hB1.alloc hB1.size (.cells #[.int .u64 y1, .int .u64 y2] 33))
  clear hB1
  by_cases h1 : y1 < x1
  · have HT : Hid (r = true) := by unfold Hid; rw [HR.out]; simp [h1]
    have hq : (x1 != y1) = true := by simp; omega
    clear HR
    go_enter Try.func43, Try.ntmps43
    go_wp2_with fail
    go_ret
    rw [HT.out]
    exact ⟨by simp [h1], HB.out⟩
  · by_cases h2 : x1 = y1
    · subst h2
      have hq : (x1 != x1) = false := by simp
      by_cases h3 : y2 < x2
      · have HT : Hid (r = true) := by unfold Hid; rw [HR.out]; simp [h3]
        clear HR
        go_enter Try.func43, Try.ntmps43
        go_wp2_with fail
        go_ret
        rw [HT.out]
        exact ⟨by simp [h3], HB.out⟩
      · have HT : Hid (r = false) := by unfold Hid; rw [HR.out]; simp [h3]
        clear HR
        go_enter Try.func43, Try.ntmps43
        go_wp2_with fail
        go_ret
        rw [HT.out]
        exact ⟨by simp [h3], HB.out⟩
    · have HT : Hid (r = false) := by unfold Hid; rw [HR.out]; simp [h1, h2]
      have hq : (x1 == y1) = false := by simpa using h2
      have hq2 : (x1 != y1) = true := by simpa using h2
      clear HR
      go_enter Try.func43, Try.ntmps43
      go_wp2_with fail
      go_ret
      rw [HT.out]
      exact ⟨by simp [h1], HB.out⟩
end Go.Proofs.Ytnnjcabgaefhcaa.lg

/- A region that draws its order, reads, and ends in one forced tail: walked in the text's order, the world behind the draw folded; big loads by a law. -/
namespace Go.Proofs.Ytnnjcabgaefhcaa
open Go Go.RowKit
set_option maxRecDepth 100000

theorem wp_region_still_w {P : Program} {id : Nat} {Q : Exit → Act → World → Prop} {a : Act} {w : World} {l : List Oper} (n : Nat) (hm : P.follows .mixedOrders = true) (hB : Region.lexTailB .any l.toArray n = true)
    (h : wpStill P l.toArray w.drew (fun a' => wpList P l.toArray Q (l.drop n) a' w.drew) (l.take n) a) : (Code.region id l.toArray true).wp P Q a w :=
  wp_region_still_tail n hm hB h

theorem still_value {P : Program} {ops : Array Oper} {w : World} {Q : Act → Prop} {o : Oper} {rest : List Oper} {a : Act} {v : Value} (hg : o.guard = none) (h : (execOp a.eval o).run P w = .ok (.value v) w)
    (hn : wpStill P ops w Q rest (a.put o.dst v)) : wpStill P ops w Q (o :: rest) a := by
  have hw : Region.wanted o (yielded ops a.tmps) = true := by simp [Region.wanted, hg]
  unfold wpStill
  rw [if_pos hw]
  unfold Oper.still
  rw [h]
  exact ⟨rfl, hn⟩

theorem wp_value {P : Program} {o : Oper} {a : Act} {w w' : World} {v : Value} {K : Act → World → Prop} {Q : Exit → Act → World → Prop} (h : (execOp a.eval o).run P w = .ok (.value v) w') (hn : K (a.put o.dst v) w') : o.wp P a w K Q := by
  unfold Oper.wp
  rw [h]
  exact hn

theorem wpList_value {P : Program} {ops : Array Oper} {rest : List Oper} {o : Oper} {a : Act} {w w' : World} {v : Value} {Q : Exit → Act → World → Prop} (hg : o.guard = none) (h : (execOp a.eval o).run P w = .ok (.value v) w')
    (hn : wpList P ops Q rest (a.put o.dst v) w') : wpList P ops Q (o :: rest) a w :=
  wpList_plain hg fun _ hK => wp_value h (hK _ _ hn)

theorem wp_skip {P : Program} {o : Oper} {a : Act} {w w' : World} {K : Act → World → Prop} {Q : Exit → Act → World → Prop} (h : (execOp a.eval o).run P w = .ok .skip w') (hn : K (a.put o.dst undef) w') : o.wp P a w K Q := by
  unfold Oper.wp
  rw [h]
  exact hn

theorem wpList_skip {P : Program} {ops : Array Oper} {rest : List Oper} {o : Oper} {a : Act} {w w' : World} {Q : Exit → Act → World → Prop} (hg : o.guard = none) (h : (execOp a.eval o).run P w = .ok .skip w')
    (hn : wpList P ops Q rest (a.put o.dst undef) w') : wpList P ops Q (o :: rest) a w :=
  wpList_plain hg fun _ hK => wp_skip h (hK _ _ hn)

theorem wpList_value_w {P : Program} {ops : Array Oper} {rest : List Oper} {o : Oper} {a : Act} {w w' : World} {v : Value} {Q : Exit → Act → World → Prop} (hw : Region.wanted o (yielded ops a.tmps) = true) (h : (execOp a.eval o).run P w = .ok (.value v) w')
    (hn : wpList P ops Q rest (a.put o.dst v) w') : wpList P ops Q (o :: rest) a w :=
  wpList_step fun K hK => by
    rw [if_pos hw]
    exact wp_value h (hK _ _ hn)

end Go.Proofs.Ytnnjcabgaefhcaa

/- append onto a row of the call's own, as one step of a region that draws its order. -/
namespace Go.Proofs.Ytnnjcabgaefhcaa
open Go Go.RowKit
set_option maxRecDepth 100000

theorem step_append_own {P : Program} {ops : Array Oper} {o : Oper} {a : Act} {w : World} {K : Act → World → Prop} {Q : Exit → Act → World → Prop} {E : Prop} (hg : o.guard = none) (s x : Operand) (t : TypeId)
    (ho : o.op = .call { callee := .builtin .append, args := #[s, x], argTypes := #[t, t] })
    (base : Nat) (e : TypeId) (i : TypeInfo) (z : Value) (size bytes : Nat) (ht : P.underlying t = some (.slice e)) (hi : P.info? e = some i) (hz : i.zero = some z)
    (hsize : i.size = size) (hby : i.bytes = bytes) (hzs : z.cells.size = size) (hsz : 0 < size)
    (v : Value) (n : Nat) (xs : List Value) (hs : a.eval s = v) (hown : w.ownsRow base e size v n xs)
    (ad : Addr) (m c : Nat) (news : List Value) (hx : a.eval x = .slice (some ad) m c) (hl : news.length = m * size) (hnews : ∀ j u, news[j]? = some u → w.cell? (ad.add j) = some u) (h1 : ∀ u ∈ news, u.oneCell' = true)
    (h63 : n + m ≤ maxLen) (hbytes : (n + m) * bytes ≤ 140737488355328) (hbase : base ≤ w.heap.size)
    (h : ∀ v' w', Hid (w'.ownsRow base e size v' (n + m) (xs ++ news)) → Hid (w.grownBy w' v.ownBlock) → K (a.put o.dst v') w') :
    if Region.wanted o (yielded ops a.tmps) = true then Oper.wp P o a w K Q else E := by
  have hw : Region.wanted o (yielded ops a.tmps) = true := by simp [Region.wanted, hg]
  rw [if_pos hw]
  exact wp_append_own w s x t ho base e i z size bytes ht hi hz hsize hby hzs hsz v n xs hs hown ad m c news hx hl hnews h1 h63 hbytes hbase (fun v' w' h2 h3 _ => h v' w' h2 h3)

end Go.Proofs.Ytnnjcabgaefhcaa

/- What an entry says, as the program's closures do it. -/
namespace Go.Proofs.Ytnnjcabgaefhcaa.lg
open Go Go.RowKit Go.Sort Go.Proofs.Ytnnjcabgaefhcaa.ib
set_option maxRecDepth 100000

set_option maxHeartbeats 3200000 in
theorem behind_any (A : Option Addr) (c : Nat) (gs : List Gd) (g : Gd) (w : World) (h : GdAt w A gs) (hl : gs.length ≤ 4000) :
    Calls Try.prog 48 #[.slice A gs.length c, gv g] w (endB (behind gs g) w) := by
  show Calls Try.prog 48 #[.slice A gs.length c, .agg #[.int .u64 (g.1 : Int), .int .u64 (g.2 : Int)]] w _
  obtain ⟨r, hr⟩ : ∃ r, behind gs g = r := ⟨_, rfl⟩
  rw [hr]
  unfold behind at hr
  obtain ⟨W0, hW0⟩ : ∃ z, w.alloc (.cells #[.int .u64 (g.1 : Int), .int .u64 (g.2 : Int)] 33) = z := ⟨_, rfl⟩
  have hx0 : Blk W0 w.heap.size 33 #[.int .u64 (g.1 : Int), .int .u64 (g.2 : Int)] := by rw [← hW0]; exact Blk.new _ _ _
  have hb0 : Below w.heap.size w W0 := by rw [← hW0]; exact (Below.refl _ w).alloc (Nat.le_refl _) _
  have e0 := hx0.cell 0
  have e1 := hx0.cell 1
  simp only [List.getElem?_toArray, List.getElem?_cons_zero, List.getElem?_cons_succ] at e0 e1
  have HB0 := Lib.hid hb0
  by_cases h0 : gs.length = 0
  · rw [if_pos h0] at hr
    subst hr
    obtain rfl : gs = [] := List.length_eq_zero_iff.1 h0
    clear h hx0 hb0
    go_enter Try.func48, Try.ntmps48
    go_upto_region 1 with fail
    try rw [hW0]
    clear hW0
    go_quiet (fail)
    have HB2 := Lib.hid (below_drewN HB0.out nq)
    go_wp2_with fail
    go_ret
    exact ⟨rfl, HB2.out⟩
  · rw [if_neg h0] at hr
    obtain ⟨k, hk⟩ : ∃ k, gs.length = k + 1 := ⟨gs.length - 1, by omega⟩
    rw [hk, Nat.add_sub_cancel] at hr
    obtain ⟨b, o, rfl, hb, f0, f1⟩ := (h.below hb0) k (by omega)
    have hgd : gs.getD k (0, 0) = gs[k] := by simp [List.getD, hk]
    rw [hgd] at hr
    obtain ⟨x, hx⟩ : ∃ x, gs[k] = x := ⟨_, rfl⟩
    rw [hx] at f0 f1 hr
    have hz : (((k + 1 : Nat) : Int) == 0) = false := by rw [beq_eq_false_iff_ne]; omega
    have hz2 : ((k : Int) + 1 == 0) = false := by rw [beq_eq_false_iff_ne]; omega
    have hwk : IntKind.i64.wrap (k : Int) = (k : Int) := IntWalk.i64_in _ (by omega)
    rw [hk] at hl ⊢
    have cA : ∀ d os, Calls Try.prog 50 #[.agg #[.int .u64 (g.1 : Int), .int .u64 (g.2 : Int)], .agg #[.int .u64 (x.1 : Int), .int .u64 (x.2 : Int)]] (grow (redrawn W0 d) os) fun e w'' => e = .returned (.bool r) ∧ ∃ p : Regrown, w'' = grow (redrawn W0 p.d) p.os :=
      fun d os => Calls.regrown_of (by rw [← hr]; exact above_any g x _)
    have c0 : ∀ d os, (grow (redrawn W0 d) os).cell? ⟨w.heap.size, 0, none⟩ = some (.int .u64 (g.1 : Int)) := fun d os => cell_regrown e0 d os
    have c1 : ∀ d os, (grow (redrawn W0 d) os).cell? ⟨w.heap.size, 1, none⟩ = some (.int .u64 (g.2 : Int)) := fun d os => cell_regrown e1 d os
    have c2 : ∀ d os, (grow (redrawn W0 d) os).cell? ⟨b, o + k * 2, none⟩ = some (.int .u64 (x.1 : Int)) := fun d os => cell_regrown f0 d os
    have c3 : ∀ d os, (grow (redrawn W0 d) os).cell? ⟨b, o + k * 2 + 1, none⟩ = some (.int .u64 (x.2 : Int)) := fun d os => cell_regrown f1 d os
    clear h hx0 hb0 hr hgd hx hk h0 e0 e1 f0 f1
    go_enter Try.func48, Try.ntmps48
    go_upto_region 1 with fail
    try rw [hW0]
    clear hW0
    refine wp_region_quiet_below rmixed (by kernel_rfl) ?_
    repeat (any_goals (first | go_big_quiet_step (exact cA _ _) | quiet_step (exact cA _ _)))
    refine wpQuiet_nil ?_
    intro _ hw'
    obtain ⟨⟨dq, osq⟩, hw''⟩ := hw'
    subst hw''
    have HB2 := Lib.hid (below_step HB0.out (below_regrown W0 dq osq))
    go_wp2_with fail
    go_ret
    exact ⟨rfl, HB2.out⟩

/-- A closure's end: the line says another thing. -/
def sayEnd (B g : Nat) (L : Ln) (w : World) (e : Ending) (w' : World) : Prop := e = .returned (.tuple #[]) ∧ ∃ v, LnIs w' B g L v ∧ Below B w w'

set_option maxHeartbeats 1600000 in
theorem say4_any (g : Nat) (w : World) : Calls Try.prog 49 #[.pointer (some ⟨g, 0, none⟩)] w fun e w' => e = .returned (.tuple #[]) ∧ w' = w := by
  go_enter Try.func49, Try.ntmps49
  go_wp2_with fail
  go_end0
  exact ⟨rfl, rfl⟩

/-- The facts that a closure's walk goes by. -/
theorem LnIs.cells {w : World} {B g : Nat} {L : Ln} {v : Value} (h : LnIs w B g L v) : w.cell? ⟨g, 0, none⟩ = some (.int .u64 (L.ep : Int)) ∧ w.cell? ⟨g, 1, none⟩ = some (.int .i64 (L.bf : Int)) ∧ w.cell? ⟨g, 2, none⟩ = some (.bool L.ls) ∧ w.cell? ⟨g, 3, none⟩ = some v :=
  ⟨h.blk.cell 0, h.blk.cell 1, h.blk.cell 2, h.blk.cell 3⟩
theorem LnIs.frozen {w : World} {B g : Nat} {L : Ln} {v : Value} (h : LnIs w B g L v) (i : Nat) : w.frozen? ⟨g, i, none⟩ = false := h.blk.frozen i
theorem Ent.cells {w : World} {b : Nat} {x : En} (h : Blk w b 35 (enV x).toArray) : w.cell? ⟨b, 0, none⟩ = some (.int .u64 (x.t : Int)) ∧ w.cell? ⟨b, 1, none⟩ = some (.int .i64 x.k) ∧ w.cell? ⟨b, 2, none⟩ = some (.int .u64 (x.e : Int)) ∧ w.cell? ⟨b, 3, none⟩ = some (.int .u64 (x.c : Int)) :=
  ⟨h.cell 0, h.cell 1, h.cell 2, h.cell 3⟩
theorem LnIs.world {w w' : World} {B g : Nat} {L : Ln} {v : Value} (h : LnIs w B g L v) (hh : w'.heap = w.heap) : LnIs w' B g L v :=
  ⟨h.blk.of_block (by rw [hh]), row_of_block h.own (fun j _ => by rw [hh]), h.low⟩

set_option maxHeartbeats 3200000 in
theorem say1_any (B g b : Nat) (x : En) (L : Ln) (v : Value) (w : World) (h : LnIs w B g L v) (hx : Blk w b 35 (enV x).toArray) (hk : x.k = 1) (hl : L.gs.length ≤ 4000) :
    Calls Try.prog 45 #[.pointer (some ⟨g, 0, none⟩), .pointer (some ⟨b, 0, none⟩)] w (sayEnd B g (says L x) w) := by
  obtain ⟨A, c, rfl⟩ := own_form h.own
  obtain ⟨c0, c1, c2, c3⟩ := h.cells
  obtain ⟨e0, -, -, -⟩ := Ent.cells hx
  have f0 := h.frozen 0
  have f1 := h.frozen 1
  have f2 := h.frozen 2
  have hne : b ≠ g := blk_type hx h.blk (by decide)
  have hgl := h.blk.lt
  have hbl := hx.lt
  have HL := Lib.hid h
  have HS : Hid (says L x = ⟨x.t, L.gs.length, false, L.gs⟩) := by unfold Hid says; rw [if_pos hk]
  clear h hx hk
  go_enter Try.func45, Try.ntmps45
  go_region
  go_end0
  have h1 := HL.out.set_ 0 (.int .u64 (x.t : Int)) (L' := ⟨x.t, L.bf, L.ls, L.gs⟩) rfl rfl
  have h2 := h1.set_ 1 (.int .i64 (L.gs.length : Int)) (L' := ⟨x.t, L.gs.length, L.ls, L.gs⟩) rfl rfl
  have h3 := h2.set_ 2 (.bool false) (L' := ⟨x.t, L.gs.length, false, L.gs⟩) rfl rfl
  refine ⟨rfl, _, by rw [HS.out]; exact h3.world rfl, ?_⟩
  have hb := (((Below.refl B w).setCell (p := ⟨g, 0, none⟩) HL.out.low (.int .u64 (x.t : Int))).setCell (p := ⟨g, 1, none⟩) HL.out.low (.int .i64 (L.gs.length : Int))).setCell (p := ⟨g, 2, none⟩) HL.out.low (.bool false)
  exact ⟨hb.os, hb.tape, hb.output, hb.size, hb.block⟩

end Go.Proofs.Ytnnjcabgaefhcaa.lg

/- What an EntLease says, as the program's closure does it. -/
namespace Go.Proofs.Ytnnjcabgaefhcaa.lg
open Go Go.RowKit Go.Sort Go.Proofs.Ytnnjcabgaefhcaa.ib
set_option maxRecDepth 100000

set_option maxHeartbeats 3200000 in
theorem say2_any (B g b : Nat) (x : En) (L : Ln) (v : Value) (w : World) (h : LnIs w B g L v) (hx : Blk w b 35 (enV x).toArray) (hk : x.k = 2) :
    Calls Try.prog 46 #[.pointer (some ⟨g, 0, none⟩), .pointer (some ⟨b, 0, none⟩)] w (sayEnd B g (says L x) w) := by
  obtain ⟨c0, c1, c2, c3⟩ := h.cells
  obtain ⟨e0, -, -, -⟩ := Ent.cells hx
  have f2 := h.frozen 2
  have hne : b ≠ g := blk_type hx h.blk (by decide)
  have hgl := h.blk.lt
  have hbl := hx.lt
  have HL := Lib.hid h
  have HS : Hid (says L x = ⟨L.ep, L.bf, L.ls || ((x.t : Int) == (L.ep : Int)), L.gs⟩) := by
    unfold Hid says
    rw [if_neg (by omega), if_pos hk]
    congr 2
    rw [Bool.eq_iff_iff]
    simp
    omega
  clear h hx hk
  by_cases hls : L.ls = true
  · rw [hls] at c2 HS
    rw [Bool.true_or] at HS
    have HLS := Lib.hid hls
    clear hls
    go_enter Try.func46, Try.ntmps46
    go_region
    go_end0
    have h3 := HL.out.set_ 2 (.bool true) (L' := ⟨L.ep, L.bf, true, L.gs⟩) rfl rfl
    refine ⟨rfl, _, by rw [HS.out]; exact h3.world rfl, ?_⟩
    have hb := (Below.refl B w).setCell (p := ⟨g, 2, none⟩) HL.out.low (.bool true)
    exact ⟨hb.os, hb.tape, hb.output, hb.size, hb.block⟩
  · have hls' : L.ls = false := by simpa using hls
    rw [hls'] at c2 HS
    rw [Bool.false_or] at HS
    clear hls
    obtain ⟨q, hq⟩ : ∃ q, ((x.t : Int) == (L.ep : Int)) = q := ⟨_, rfl⟩
    rw [hq] at HS
    go_enter Try.func46, Try.ntmps46
    go_region
    go_end0
    have h3 := HL.out.set_ 2 (.bool q) (L' := ⟨L.ep, L.bf, q, L.gs⟩) rfl rfl
    refine ⟨rfl, _, by rw [HS.out]; exact h3.world rfl, ?_⟩
    have hb := (Below.refl B w).setCell (p := ⟨g, 2, none⟩) HL.out.low (.bool q)
    exact ⟨hb.os, hb.tape, hb.output, hb.size, hb.block⟩

end Go.Proofs.Ytnnjcabgaefhcaa.lg

/- What an EntCommit says, as the program's closure does it. -/
namespace Go.Proofs.Ytnnjcabgaefhcaa.lg
open Go Go.RowKit Go.Sort Go.Proofs.Ytnnjcabgaefhcaa.ib
set_option maxRecDepth 100000

theorem says3 {L : Ln} {x : En} (hk : x.k = 3) : says L x = if x.t = L.ep ∧ x.e = x.t ∧ behind L.gs (x.e, x.c) = true then { L with gs := L.gs ++ [(x.e, x.c)] } else L := by
  unfold says
  rw [if_neg (by omega), if_neg (by omega), if_pos hk]
theorem sayEnd_same {B g : Nat} {L : Ln} {v : Value} {w W : World} (h : LnIs w B g L v) (hB : B ≤ w.heap.size) (hb : Below w.heap.size w W) : sayEnd B g L w (.returned (.tuple #[])) W :=
  ⟨rfl, v, h.below hb, hb.mono hB⟩
set_option maxHeartbeats 6400000 in
theorem say3_any (B g b : Nat) (x : En) (L : Ln) (v : Value) (w : World) (h : LnIs w B g L v) (hx : Blk w b 35 (enV x).toArray) (hk : x.k = 3) (hl : L.gs.length ≤ 4000) (hB : B ≤ w.heap.size) :
    Calls Try.prog 47 #[.pointer (some ⟨g, 0, none⟩), .pointer (some ⟨b, 0, none⟩)] w (sayEnd B g (says L x) w) := by
  obtain ⟨i0, hi, hz0, hz1, hz2⟩ := info_parts infoGd
  obtain ⟨A, c, rfl, hga⟩ := h.own.view
  obtain ⟨c0, c1, c2, c3⟩ := h.cells
  obtain ⟨e0, e1, e2, e3⟩ := Ent.cells hx
  have hne : b ≠ g := blk_type hx h.blk (by decide)
  have hgl := h.blk.lt
  have hbl := hx.lt
  have HL := Lib.hid h
  have HX := Lib.hid hx
  have HS := Lib.hid (says3 (L := L) hk)
  have cA : ∀ d os, Calls Try.prog 48 #[.slice A L.gs.length c, .agg #[.int .u64 (x.e : Int), .int .u64 (x.c : Int)]] (grow (redrawn w d) os) fun e w'' => e = .returned (.bool (behind L.gs (x.e, x.c))) ∧ ∃ p : Regrown, w'' = grow (redrawn w p.d) p.os :=
    fun d os => Calls.regrown_of (behind_any A c L.gs (x.e, x.c) _ (hga.below (below_regrown w d os)) hl)
  have m0 : ∀ d os, (grow (redrawn w d) os).cell? ⟨g, 0, none⟩ = some (.int .u64 (L.ep : Int)) := fun d os => cell_regrown c0 d os
  have m3 : ∀ d os, (grow (redrawn w d) os).cell? ⟨g, 3, none⟩ = some (.slice A L.gs.length c) := fun d os => cell_regrown c3 d os
  have n0 : ∀ d os, (grow (redrawn w d) os).cell? ⟨b, 0, none⟩ = some (.int .u64 (x.t : Int)) := fun d os => cell_regrown e0 d os
  have n2 : ∀ d os, (grow (redrawn w d) os).cell? ⟨b, 2, none⟩ = some (.int .u64 (x.e : Int)) := fun d os => cell_regrown e2 d os
  have n3 : ∀ d os, (grow (redrawn w d) os).cell? ⟨b, 3, none⟩ = some (.int .u64 (x.c : Int)) := fun d os => cell_regrown e3 d os
  clear h hx hk hga c0 c1 c2 c3 e0 e1 e2 e3
  by_cases h1 : x.t = L.ep
  · have q1 : ((x.t : Int) == (L.ep : Int)) = true := by rw [h1]; simp
    by_cases h2 : x.e = x.t
    · have q2 : ((x.e : Int) == (x.t : Int)) = true := by rw [h2]; simp
      have HS2 : Hid (says L x = if behind L.gs (x.e, x.c) = true then { L with gs := L.gs ++ [(x.e, x.c)] } else L) := by
        unfold Hid
        rw [HS.out]
        simp [h1, h2]
      clear h1 h2 HS
      generalize behind L.gs (x.e, x.c) = q at *
      go_enter Try.func47, Try.ntmps47
      go_wp2_with fail
      refine wp_region_quiet_below rmixed (by kernel_rfl) ?_
      repeat (any_goals (first | go_big_quiet_step (exact cA _ _) | quiet_step (exact cA _ _)))
      refine wpQuiet_nil ?_
      intro _ hw'
      obtain ⟨⟨dq, osq⟩, hw''⟩ := hw'
      subst hw''
      have HB2 := Lib.hid (below_regrown w dq osq)
      obtain ⟨W, hW⟩ : ∃ z, grow (redrawn w dq) osq = z := ⟨_, rfl⟩
      rw [hW] at HB2 ⊢
      clear hW cA m0 m3 n0 n2 n3
      cases q with
      | false =>
        go_wp2_with fail
        go_end0
        rw [HS2.out]
        exact sayEnd_same HL.out hB HB2.out
      | true =>
        have h := HL.out.below HB2.out
        have hx := HX.out.below HB2.out
        obtain ⟨c0, c1, c2, c3⟩ := h.cells
        obtain ⟨e0, e1, e2, e3⟩ := Ent.cells hx
        have f3 := h.frozen 3
        have hgl2 := h.blk.lt
        have hbl2 := hx.lt
        have h3 := (h.below ((Below.refl _ W).alloc (Nat.le_refl _) (.cells #[.int .u64 (x.e : Int), .int .u64 (x.c : Int)] 33))).world (w' := (W.alloc (.cells #[.int .u64 (x.e : Int), .int .u64 (x.c : Int)] 33)).drew) rfl
        have HL2 := Lib.hid h3
        have HN2 : Hid (∀ (j : Nat) (u : Value), (gdV (x.e, x.c))[j]? = some u → ((W.alloc (.cells #[.int .u64 (x.e : Int), .int .u64 (x.c : Int)] 33)).drew).cell? ((⟨W.heap.size, 0, none⟩ : Addr).add j) = some u) := by
          intro j u hu
          rw [addr_add, Nat.zero_add]
          have := (Blk.new W 33 #[.int .u64 (x.e : Int), .int .u64 (x.c : Int)]).cell j
          rw [show ((W.alloc (.cells #[.int .u64 (x.e : Int), .int .u64 (x.c : Int)] 33)).drew).cell? ⟨W.heap.size, j, none⟩ = (W.alloc (.cells #[.int .u64 (x.e : Int), .int .u64 (x.c : Int)] 33)).cell? ⟨W.heap.size, j, none⟩ from rfl, this]
          simpa [gdV] using hu
        have HBS : Hid (B ≤ ((W.alloc (.cells #[.int .u64 (x.e : Int), .int .u64 (x.c : Int)] 33)).drew).heap.size) := Nat.le_trans hB (Nat.le_trans HB2.out.size (Nat.le_trans (Nat.le_succ _) (by simp)))
        have HB3 : Hid (Below B w ((W.alloc (.cells #[.int .u64 (x.e : Int), .int .u64 (x.c : Int)] 33)).drew)) := ((HB2.out.mono hB).alloc (Nat.le_trans hB HB2.out.size) _).drew
        have hlow := HL2.out.low
        have HGR : Hid (∀ w1, ((W.alloc (.cells #[.int .u64 (x.e : Int), .int .u64 (x.c : Int)] 33)).drew).grownBy w1 (Value.slice A L.gs.length c).ownBlock → Blk w1 g 40 (lnC L (.slice A L.gs.length c))) := fun w1 hg => HL2.out.blk.of_block (hg.block g HL2.out.blk.lt (fun e => HL2.out.ne g e.symm rfl))
        clear h hx h3
        go_wp2_with fail
        go_region_law (refine step_append_own rfl (.tmp 31) (.tmp 34) 38 rfl B 33 i0 (.agg #[.int .u64 0, .int .u64 0]) 2 16 Try.underlying38 hi hz0 hz1 hz2 rfl (by decide) _ L.gs.length _ rfl HL2.out.own ⟨W.heap.size, 0, none⟩ 1 1 (gdV (x.e, x.c)) rfl rfl HN2.out (gdV_ones _) (by unfold maxLen; omega) (by omega) HBS.out ?_; intro v' w1 hown1 hgrow; obtain ⟨A2, c2, rfl⟩ := own_form hown1.out; have hk3 := (HGR.out w1 hgrow.out).cell 3; have hf3 := (HGR.out w1 hgrow.out).frozen 3; simp only [lnC, List.getElem?_toArray, List.getElem?_cons_zero, List.getElem?_cons_succ] at hk3)
        all_goals
          go_end0
          have hbk := HGR.out w1 hgrow.out
          have hne2 := own_type hown1.out hbk (by decide)
          have hbl3 := HB3.out.grown hgrow.out HBS.out (fun j hj => (HL2.out.own.lt j hj).1)
          rw [HS2.out, if_pos trivial]
          refine ⟨rfl, .slice A2 (L.gs.length + 1) c2, ⟨hbk.set_ 3 _, ?_, hlow⟩, hbl3.setCell (p := ⟨g, 3, none⟩) hlow _⟩
          exact row_of_block (OGd.snoc hown1.out) (fun j hj => set_oth _ _ _ _ _ (hne2 j hj))
    · have q2 : ((x.e : Int) == (x.t : Int)) = false := by rw [beq_eq_false_iff_ne]; omega
      have HS2 : Hid (says L x = L) := by
        unfold Hid
        rw [HS.out, if_neg (by simp [h2])]
      clear h1 h2 HS
      go_enter Try.func47, Try.ntmps47
      go_wp2_with fail
      refine wp_region_quiet_below rmixed (by kernel_rfl) ?_
      repeat (any_goals (first | go_big_quiet_step (exact cA _ _) | quiet_step (exact cA _ _)))
      refine wpQuiet_nil ?_
      intro _ hw'
      obtain ⟨⟨dq, osq⟩, hw''⟩ := hw'
      subst hw''
      have HB2 := Lib.hid (below_regrown w dq osq)
      clear cA m0 m3 n0 n2 n3
      go_wp2_with fail
      go_end0
      rw [HS2.out]
      exact sayEnd_same HL.out hB HB2.out
  · have q1 : ((x.t : Int) == (L.ep : Int)) = false := by rw [beq_eq_false_iff_ne]; omega
    have HS2 : Hid (says L x = L) := by
      unfold Hid
      rw [HS.out, if_neg (by simp [h1])]
    clear h1 HS
    go_enter Try.func47, Try.ntmps47
    go_wp2_with fail
    refine wp_region_quiet_below rmixed (by kernel_rfl) ?_
    repeat (any_goals (first | go_big_quiet_step (exact cA _ _) | quiet_step (exact cA _ _)))
    refine wpQuiet_nil ?_
    intro _ hw'
    obtain ⟨⟨dq, osq⟩, hw''⟩ := hw'
    subst hw''
    have HB2 := Lib.hid (below_regrown w dq osq)
    clear cA m0 m3 n0 n2 n3
    go_wp2_with fail
    go_end0
    rw [HS2.out]
    exact sayEnd_same HL.out hB HB2.out
end Go.Proofs.Ytnnjcabgaefhcaa.lg

