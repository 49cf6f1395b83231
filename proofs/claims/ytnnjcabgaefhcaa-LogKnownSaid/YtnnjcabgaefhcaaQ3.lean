/- LgLines, LgCat, LgOne, LgJoin. -/
import Derived.Test.YtnnjcabgaefhcaaQ0
import Derived.Test.YtnnjcabgaefhcaaQ1
import Derived.Lib.AppendZeros
import Derived.Laws.AppendOwnNone
import Derived.Lib.SliceRun
import Derived.LoopTactic
import Derived.BigQuiet
import Derived.KernelRfl
import Derived.WalkKit
import Derived.WalkSpells
import Derived.WalkLawsBesides
import Derived.Deep.DeepCutAuto
set_option linter.unusedVariables false
set_option linter.unusedSimpArgs false
/- Are two lists of guids, two lines alike; does a line say this. -/
namespace Go.Proofs.Ytnnjcabgaefhcaa.lg
open Go Go.RowKit Go.Sort Go.Proofs.Ytnnjcabgaefhcaa.ib
set_option maxRecDepth 100000

theorem gd_ne {x y : Gd} (h : x ≠ y) : ¬ (x.1 : Int) = (y.1 : Int) ∨ (x.1 : Int) = (y.1 : Int) ∧ ¬ (x.2 : Int) = (y.2 : Int) := by
  obtain ⟨a, b⟩ := x
  obtain ⟨a', b'⟩ := y
  simp only [Prod.mk.injEq, ne_eq] at h ⊢
  omega
theorem gtake_snoc {l m : List Gd} {k : Nat} (h1 : k < l.length) (h2 : k < m.length) (h : l.take k = m.take k) (he : l[k] = m[k]) : l.take (k + 1) = m.take (k + 1) := by
  rw [List.take_succ_eq_append_getElem h1, List.take_succ_eq_append_getElem h2, h, he]
def SgRel (l m : List Gd) (w : World) (i : Value) (wr : World) : Prop :=
  ∃ k : Nat, k ≤ l.length ∧ i = .int .i64 (k : Int) ∧ l.take k = m.take k ∧ Below w.heap.size w wr

set_option maxHeartbeats 3200000 in
theorem rguids_any (A B : Option Addr) (c d : Nat) (l m : List Gd) (w : World) (hA : GdAt w A l) (hB : GdAt w B m) (hl : l.length ≤ 1000000) (hm : m.length ≤ 1000000) :
    Calls Try.prog 41 #[.slice A l.length c, .slice B m.length d] w (endB (decide (l = m)) w) := by
  have HA := Lib.hid hA
  have HB := Lib.hid hB
  clear hA hB
  by_cases hlen : l.length = m.length
  · obtain ⟨len, hln⟩ : ∃ k, l.length = k := ⟨_, rfl⟩
    have HLL := Lib.hid hln
    have HLM : Hid (m.length = len) := by unfold Hid; rw [← hln, hlen]
    rw [hln] at hl
    rw [← hlen, hln]
    have hne : ((len : Int) != (len : Int)) = false := by simp
    clear hln hlen hm
    go_enter Try.func41, Try.ntmps41
    go_wp2_with fail
    go_loopw [5] (fun i wr => SgRel l m w i wr) (fun i _ => len - (intOf i).toNat)
    case atStart => exact ⟨0, Nat.zero_le _, rfl, by rw [List.take_zero, List.take_zero], Below.refl _ _⟩
    case round =>
      obtain ⟨k, hk, rfl, ht, hB⟩ := hrel
      have HT := Lib.hid ht
      have HBW := Lib.hid hB
      rw [HLL.out] at hk
      clear ht hB
      by_cases hlt : k < len
      · have hki : (k : Int) < (len : Int) := by omega
        have hkl : k < l.length := by rw [HLL.out]; exact hlt
        have hkm : k < m.length := by rw [HLM.out]; exact hlt
        obtain ⟨b1, o1, rfl, l1, e0, e1⟩ := HA.out.below HBW.out k hkl
        obtain ⟨b2, o2, rfl, l2, f0, f1⟩ := HB.out.below HBW.out k hkm
        have HNE : Hid (l[k] ≠ m[k] → l ≠ m) := fun h e => h (by subst e; rfl)
        have HTS : Hid (l[k] = m[k] → l.take (k + 1) = m.take (k + 1)) := fun e => gtake_snoc hkl hkm HT.out e
        obtain ⟨x, hx⟩ : ∃ x, l[k] = x := ⟨_, rfl⟩
        obtain ⟨y, hy⟩ : ∃ y, m[k] = y := ⟨_, rfl⟩
        rw [hx] at e0 e1 HNE HTS
        rw [hy] at f0 f1 HNE HTS
        clear hx hy
        by_cases he : x = y
        · have HS := Lib.hid (HTS.out he)
          subst he
          clear HTS HNE
          generalize (x.1 : Int) = x1 at *
          generalize (x.2 : Int) = x2 at *
          go_wp2_with fail
          go_quiet (fail)
          have HB2 := Lib.hid (below_drewN HBW.out nq)
          go_wp2_with fail
          go_roundw
          case rel => exact ⟨k + 1, by rw [HLL.out]; omega, by go_num, HS.out, HB2.out⟩
          case measure => simp [intOf]; omega
        · have HS := Lib.hid (decide_eq_false (HNE.out he))
          have hd := gd_ne he
          clear he HTS HNE
          generalize (x.1 : Int) = x1 at *
          generalize (x.2 : Int) = x2 at *
          generalize (y.1 : Int) = y1 at *
          generalize (y.2 : Int) = y2 at *
          rcases hd with hd | ⟨rfl, hd⟩
          all_goals
            go_wp2_with fail
            go_quiet (fail)
            have HB2 := Lib.hid (below_drewN HBW.out nq)
            go_wp2_with fail
            go_ret
            exact ⟨by rw [HS.out]; rfl, HB2.out⟩
      · have hki : ¬ (k : Int) < (len : Int) := by omega
        have HEQ : Hid (decide (l = m) = true) := by
          unfold Hid
          have := HT.out
          rw [List.take_of_length_le (by rw [HLL.out]; omega), List.take_of_length_le (by rw [HLM.out]; omega)] at this
          simpa using this
        go_wp2_with fail
        go_ret
        exact ⟨by rw [HEQ.out]; rfl, HBW.out⟩
  · have HN : Hid (decide (l = m) = false) := by
      unfold Hid
      simp only [decide_eq_false_iff_not]
      rintro rfl
      exact hlen rfl
    have hli : ((l.length : Int) != (m.length : Int)) = true := by simp; omega
    clear hlen
    go_enter Try.func41, Try.ntmps41
    go_wp2_with fail
    go_ret
    exact ⟨by rw [HN.out]; rfl, Below.refl _ _⟩

theorem ln_ne {L M : Ln} (h : L ≠ M) : ¬ (L.ep : Int) = (M.ep : Int) ∨ (L.ep : Int) = (M.ep : Int) ∧ (¬ (L.bf : Int) = (M.bf : Int) ∨ (L.bf : Int) = (M.bf : Int) ∧ (¬ L.ls = M.ls ∨ L.ls = M.ls ∧ ¬ L.gs = M.gs)) := by
  obtain ⟨a, b, c, d⟩ := L
  obtain ⟨a', b', c', d'⟩ := M
  simp only [Ln.mk.injEq, ne_eq, not_and] at h ⊢
  by_cases h1 : a = a'
  · by_cases h2 : b = b'
    · by_cases h3 : c = c'
      · exact .inr ⟨by omega, .inr ⟨by omega, .inr ⟨h3, h h1 h2 h3⟩⟩⟩
      · exact .inr ⟨by omega, .inr ⟨by omega, .inl h3⟩⟩
    · exact .inr ⟨by omega, .inl (by omega)⟩
  · exact .inl (by omega)

set_option maxHeartbeats 3200000 in
theorem rlines_any (v u : Value) (L M : Ln) (w : World) (hv : LnAt w v L) (hu : LnAt w u M) (hl : L.gs.length ≤ 1000000) (hm : M.gs.length ≤ 1000000) :
    Calls Try.prog 23 #[v, u] w (endB (decide (L = M)) w) := by
  obtain ⟨A, c, rfl, hA⟩ := hv
  obtain ⟨B, d, rfl, hB⟩ := hu
  have HG : Hid (∀ W, Below w.heap.size w W → Calls Try.prog 41 #[.slice A L.gs.length c, .slice B M.gs.length d] W (endB (decide (L.gs = M.gs)) W)) := fun W hb => rguids_any A B c d _ _ W (hA.below hb) (hB.below hb) hl hm
  have HB2 := Lib.hid (below_new (below_new (Below.refl w.heap.size w) (.cells #[.int .u64 (L.ep : Int), .int .i64 (L.bf : Int), .bool L.ls, .slice A L.gs.length c] 40)) (.cells #[.int .u64 (M.ep : Int), .int .i64 (M.bf : Int), .bool M.ls, .slice B M.gs.length d] 40))
  clear hA hB hl hm
  by_cases he : L = M
  · subst he
    have HT : Hid (decide (L = L) = true) := decide_eq_true rfl
    rw [decide_eq_true (rfl : L.gs = L.gs)] at HG
    generalize (L.ep : Int) = e1 at *
    generalize (L.bf : Int) = b1 at *
    generalize L.ls = s at *
    generalize L.gs.length = n1 at *
    have q1 : (e1 == e1) = true := by simp
    have q2 : (b1 == b1) = true := by simp
    have q3 : (s == s) = true := by simp
    rw [HT.out]
    go_enter Try.func23, Try.ntmps23
    go_wp2_with fail
    refine (HG.out _ HB2.out).mono ?_
    rintro e W3 ⟨rfl, hb3⟩
    have HB3 := Lib.hid (below_step HB2.out hb3)
    clear hb3
    go_wp2_with fail
    go_ret
    exact ⟨rfl, HB3.out⟩
  · have HT : Hid (decide (L = M) = false) := decide_eq_false he
    have hd := ln_ne he
    rw [HT.out]
    clear he HT
    obtain ⟨q, hq⟩ : ∃ q, decide (L.gs = M.gs) = q := ⟨_, rfl⟩
    rw [hq] at HG
    have hd : ¬ (L.ep : Int) = (M.ep : Int) ∨ (L.ep : Int) = (M.ep : Int) ∧ (¬ (L.bf : Int) = (M.bf : Int) ∨ (L.bf : Int) = (M.bf : Int) ∧ ((L.ls == M.ls) = false ∨ L.ls = M.ls ∧ q = false)) := by
      rcases hd with h | ⟨h1, h | ⟨h2, h | ⟨h3, h⟩⟩⟩
      · exact .inl h
      · exact .inr ⟨h1, .inl h⟩
      · exact .inr ⟨h1, .inr ⟨h2, .inl (by simpa using h)⟩⟩
      · exact .inr ⟨h1, .inr ⟨h2, .inr ⟨h3, by rw [← hq]; exact decide_eq_false h⟩⟩⟩
    clear hq
    generalize (L.ep : Int) = e1 at *
    generalize (M.ep : Int) = e2 at *
    generalize (L.bf : Int) = b1 at *
    generalize (M.bf : Int) = b2 at *
    generalize L.ls = s1 at *
    generalize M.ls = s2 at *
    generalize L.gs.length = n1 at *
    generalize M.gs.length = n2 at *
    rcases hd with h | ⟨rfl, h | ⟨rfl, h | ⟨rfl, rfl⟩⟩⟩
    · have q1 : (e1 == e2) = false := by simpa using h
      clear h
      go_enter Try.func23, Try.ntmps23
      go_wp2_with fail
      go_ret
      exact ⟨rfl, HB2.out⟩
    · have q1 : (e1 == e1) = true := by simp
      have q2 : (b1 == b2) = false := by simpa using h
      clear h
      go_enter Try.func23, Try.ntmps23
      go_wp2_with fail
      go_ret
      exact ⟨rfl, HB2.out⟩
    · have q1 : (e1 == e1) = true := by simp
      have q2 : (b1 == b1) = true := by simp
      go_enter Try.func23, Try.ntmps23
      go_wp2_with fail
      go_ret
      exact ⟨rfl, HB2.out⟩
    · have q1 : (e1 == e1) = true := by simp
      have q2 : (b1 == b1) = true := by simp
      have q3 : (s1 == s1) = true := by simp
      go_enter Try.func23, Try.ntmps23
      go_wp2_with fail
      refine (HG.out _ HB2.out).mono ?_
      rintro e W3 ⟨rfl, hb3⟩
      have HB3 := Lib.hid (below_step HB2.out hb3)
      clear hb3
      go_wp2_with fail
      go_ret
      exact ⟨rfl, HB3.out⟩

def IsRel (l m : List Gd) (w W1 : World) (i : Value) (wr : World) : Prop :=
  ∃ k : Nat, k ≤ m.length ∧ i = .int .i64 (k : Int) ∧ l.take k = m.take k ∧ Below W1.heap.size W1 wr
set_option maxHeartbeats 3200000 in
theorem is_any (v : Value) (L M : Ln) (B : Option Addr) (d : Nat) (w : World) (hv : LnAt w v L) (hB : GdAt w B M.gs) (hl : L.gs.length ≤ 1000000) (hm : M.gs.length ≤ 1000000) :
    Calls Try.prog 33 #[v, .int .u64 (M.ep : Int), .int .i64 (M.bf : Int), .bool M.ls, .slice B M.gs.length d] w (endB (decide (L = M)) w) := by
  obtain ⟨A, c, rfl, hA⟩ := hv
  obtain ⟨W1, hW1⟩ : ∃ z, w.alloc (.cells #[.int .u64 (L.ep : Int), .int .i64 (L.bf : Int), .bool L.ls, .slice A L.gs.length c] 40) = z := ⟨_, rfl⟩
  have hk1 : Blk W1 w.heap.size 40 #[.int .u64 (L.ep : Int), .int .i64 (L.bf : Int), .bool L.ls, .slice A L.gs.length c] := by rw [← hW1]; exact Blk.new _ _ _
  have hb1 : Below w.heap.size w W1 := by rw [← hW1]; exact (Below.refl _ w).alloc (Nat.le_refl _) _
  have HB1 := Lib.hid hb1
  have HA := Lib.hid (hA.below hb1)
  have HB := Lib.hid (hB.below hb1)
  have HK1 := Lib.hid hk1
  have c0 := hk1.cell 0
  have c1 := hk1.cell 1
  have c2 := hk1.cell 2
  have c3 := hk1.cell 3
  have hgl := hk1.lt
  simp only [List.getElem?_toArray, List.getElem?_cons_zero, List.getElem?_cons_succ] at c0 c1 c2 c3
  clear hA hB hk1 hb1
  by_cases hE : L.ep = M.ep ∧ L.bf = M.bf ∧ L.ls = M.ls ∧ L.gs.length = M.gs.length
  · obtain ⟨h1, h2, h3, h4⟩ := hE
    have HEQ : Hid (decide (L = M) = decide (L.gs = M.gs)) := by
      unfold Hid
      obtain ⟨a, b, c, d⟩ := L
      obtain ⟨a', b', c', d'⟩ := M
      simp only at h1 h2 h3
      subst h1 h2 h3
      simp
    rw [HEQ.out]
    rw [h1] at c0
    rw [h2] at c1
    rw [h3] at c2
    rw [h1, h2, h3] at hW1
    rw [h1, h2, h3]
    have q1 : ((M.ep : Int) != (M.ep : Int)) = false := by simp
    have q2 : ((M.bf : Int) != (M.bf : Int)) = false := by simp
    have q3 : (M.ls == M.ls) = true := by simp
    have q4 : ((M.gs.length : Int) != (M.gs.length : Int)) = false := by simp
    have HL4 := Lib.hid h4
    rw [h4] at c3 hW1 ⊢
    clear h1 h2 h3 h4 HEQ HK1
    generalize (M.ep : Int) = e1 at *
    generalize (M.bf : Int) = b1 at *
    generalize M.ls = s1 at *
    obtain ⟨len, hln⟩ : ∃ k, M.gs.length = k := ⟨_, rfl⟩
    have HLM := Lib.hid hln
    rw [hln] at HL4 hm q4 c3 hW1 ⊢
    clear hln hl
    go_enter Try.func33, Try.ntmps33
    go_upto_region 1 with fail
    try rw [hW1]
    clear hW1
    go_wp2_with fail
    go_loopw [11] (fun i wr => IsRel L.gs M.gs w W1 i wr) (fun i _ => len - (intOf i).toNat)
    case atStart => exact ⟨0, Nat.zero_le _, rfl, by rw [List.take_zero, List.take_zero], Below.refl _ _⟩
    case round =>
      obtain ⟨k, hk, rfl, ht, hB⟩ := hrel
      have HT := Lib.hid ht
      have HBW := Lib.hid hB
      have HBX := Lib.hid (HB1.out.trans (hB.mono HB1.out.size))
      have d3 : wr.cell? ⟨w.heap.size, 3, none⟩ = some (.slice A len c) := by rw [hB.cell (p := ⟨w.heap.size, 3, none⟩) hgl]; exact c3
      have hgw : w.heap.size < wr.heap.size := Nat.lt_of_lt_of_le hgl hB.size
      rw [HLM.out] at hk
      clear ht hB
      by_cases hlt : k < len
      · have hki : (k : Int) < (len : Int) := by omega
        have hkl : k < L.gs.length := by rw [HL4.out]; exact hlt
        have hkm : k < M.gs.length := by rw [HLM.out]; exact hlt
        obtain ⟨b1, o1, rfl, l1, e0, e1⟩ := HA.out.below HBW.out k hkl
        obtain ⟨b2, o2, rfl, l2, f0, f1⟩ := HB.out.below HBW.out k hkm
        have HNE : Hid (L.gs[k] ≠ M.gs[k] → L.gs ≠ M.gs) := fun h e => h (by simp only [e])
        have HTS : Hid (L.gs[k] = M.gs[k] → L.gs.take (k + 1) = M.gs.take (k + 1)) := fun e => gtake_snoc hkl hkm HT.out e
        obtain ⟨x, hx⟩ : ∃ x, L.gs[k] = x := ⟨_, rfl⟩
        obtain ⟨y, hy⟩ : ∃ y, M.gs[k] = y := ⟨_, rfl⟩
        rw [hx] at e0 e1 HNE HTS
        rw [hy] at f0 f1 HNE HTS
        clear hx hy
        by_cases he : x = y
        · have HS := Lib.hid (HTS.out he)
          subst he
          clear HTS HNE
          generalize (x.1 : Int) = x1 at *
          generalize (x.2 : Int) = x2 at *
          go_wp2_with fail
          go_quiet (fail)
          have HB2 := Lib.hid (below_drewN HBW.out nq)
          go_wp2_with fail
          go_roundw
          case rel => exact ⟨k + 1, by rw [HLM.out]; omega, by go_num, HS.out, HB2.out⟩
          case measure => simp [intOf]; omega
        · have HS := Lib.hid (decide_eq_false (HNE.out he))
          have hd := gd_ne he
          clear he HTS HNE
          generalize (x.1 : Int) = x1 at *
          generalize (x.2 : Int) = x2 at *
          generalize (y.1 : Int) = y1 at *
          generalize (y.2 : Int) = y2 at *
          rcases hd with hd | ⟨rfl, hd⟩
          all_goals
            go_wp2_with fail
            go_quiet (fail)
            have HB2 := Lib.hid (below_drewN HBX.out nq)
            go_wp2_with fail
            go_ret
            exact ⟨by rw [HS.out]; rfl, HB2.out⟩
      · have hki : ¬ (k : Int) < (len : Int) := by omega
        have HEQ : Hid (decide (L.gs = M.gs) = true) := by
          unfold Hid
          have := HT.out
          rw [List.take_of_length_le (by rw [HL4.out]; omega), List.take_of_length_le (by rw [HLM.out]; omega)] at this
          simpa using this
        go_wp2_with fail
        go_ret
        exact ⟨by rw [HEQ.out]; rfl, HBX.out⟩
  · have HN : Hid (decide (L = M) = false) := by
      unfold Hid
      simp only [decide_eq_false_iff_not]
      rintro rfl
      exact hE ⟨rfl, rfl, rfl, rfl⟩
    rw [HN.out]
    have hd : ((L.ep : Int) != (M.ep : Int)) = true ∨ (L.ep : Int) = (M.ep : Int) ∧ (((L.bf : Int) != (M.bf : Int)) = true ∨ (L.bf : Int) = (M.bf : Int) ∧ ((L.ls == M.ls) = false ∨ L.ls = M.ls ∧ ((L.gs.length : Int) != (M.gs.length : Int)) = true)) := by
      by_cases h1 : L.ep = M.ep
      · by_cases h2 : L.bf = M.bf
        · by_cases h3 : L.ls = M.ls
          · exact .inr ⟨by omega, .inr ⟨by omega, .inr ⟨h3, by rw [bne_iff_ne]; intro e; exact hE ⟨h1, h2, h3, by omega⟩⟩⟩⟩
          · exact .inr ⟨by omega, .inr ⟨by omega, .inl (by simpa using h3)⟩⟩
        · exact .inr ⟨by omega, .inl (by rw [bne_iff_ne]; omega)⟩
      · exact .inl (by rw [bne_iff_ne]; omega)
    clear hE HN HA HB HK1 hl hm
    generalize (L.ep : Int) = e1 at *
    generalize (M.ep : Int) = e2 at *
    generalize (L.bf : Int) = b1 at *
    generalize (M.bf : Int) = b2 at *
    generalize L.ls = s1 at *
    generalize M.ls = s2 at *
    generalize L.gs.length = n1 at *
    generalize M.gs.length = n2 at *
    rcases hd with h | ⟨rfl, h | ⟨rfl, h | ⟨rfl, h⟩⟩⟩
    all_goals
      have p1 : (e1 != e1) = false := by simp
      have p2 : (b1 != b1) = false := by simp
      have p3 : (s1 == s1) = true := by simp
      go_enter Try.func33, Try.ntmps33
      go_upto_region 1 with fail
      try rw [hW1]
      clear hW1
      go_wp2_with fail
      go_ret
      exact ⟨rfl, HB1.out⟩
end Go.Proofs.Ytnnjcabgaefhcaa.lg

/- What slices.Clone, slices.Grow (of nil) and slices.Concat (of two) do with entries. -/
namespace Go.Proofs.Ytnnjcabgaefhcaa.lg
open Go Go.RowKit Go.Proofs.Ytnnjcabgaefhcaa.ib
set_option maxRecDepth 100000

set_option maxHeartbeats 1600000 in
theorem clone_any (A : Option Addr) (c : Nat) (l : List En) (w : World) (hp : EnL w A l c) (hl : l.length ≤ 4000) :
    Calls Try.prog 39 #[.slice A l.length c] w (endO l w) := by
  obtain ⟨i0, hi, hz0, hz1, hz2⟩ := info_parts infoEn
  cases A with
  | none =>
    obtain ⟨h1, rfl⟩ := hp.nil rfl
    obtain rfl : l = [] := List.length_eq_zero_iff.1 h1
    clear hp
    have qn : (binOp .eql 22 (.slice none 0 0) (.slice none 0 0)).run Try.prog w = .ok (.bool true) w := Lib.run_eql_slice_nil w _ _ _ _ _ _ _ Try.underlying22
    go_enter Try.func39, Try.ntmps39
    go_wp2_with fail
    go_ret
    exact ⟨_, rfl, OEn.nil _ _, Below.refl _ _⟩
  | some ad =>
    have H0 : Hid ((w.alloc (.cells #[] 35)).ownsRow w.heap.size 35 4 (.slice (some ⟨w.heap.size, 0, none⟩) 0 0) 0 []) :=
      ⟨rfl, .inr ⟨w.heap.size, 0, #[], rfl, Nat.le_refl _, heap_alloc_new w _, Nat.le_refl _, by unfold maxLen; omega, rfl, rfl⟩⟩
    have HB := Lib.hid ((Below.refl w.heap.size w).alloc (Nat.le_refl _) (.cells #[] 35))
    have HNEWS := Lib.hid ((hp.ents.below HB.out).row)
    have HONE := Lib.hid (enRow_ones l)
    have qn : (binOp .eql 22 (.slice (some ad) l.length c) (.slice none 0 0)).run Try.prog w = .ok (.bool false) w := Lib.run_eql_slice_nil w _ _ _ _ _ _ _ Try.underlying22
    clear hp
    go_enter Try.func39, Try.ntmps39
    go_wp2_with (at_builtin; refine wpList_append_own _ rfl (.tmp 5) (.tmp 6) 22 rfl w.heap.size 35 i0 (.agg #[.int .u64 0, .int .i64 0, .int .u64 0, .int .u64 0]) 4 32 Try.underlying22 hi hz0 hz1 hz2 rfl (by decide) _ 0 [] rfl H0.out ad l.length c (enRow l) rfl (enRow_len l) HNEWS.out HONE.out ?_ ?_ HB.out.size ?_)
    · unfold maxLen; omega
    · omega
    · intro v' w1 hown hgrow _
      have hb1 := HB.out.grown hgrow HB.out.size (fun j hj => (H0.out.lt j hj).1)
      have hos : OEn w1 w.heap.size v' l := hown
      have HO := Lib.hid hos
      have HB1 := Lib.hid hb1
      clear hown hgrow hb1 hos
      go_wp2_with fail
      go_ret
      exact ⟨_, rfl, HO.out, HB1.out⟩

set_option maxHeartbeats 1600000 in
theorem grow_nil (n : Nat) (w : World) (hn : n ≤ 100000) :
    Calls Try.prog 44 #[.slice none 0 0, .int .i64 (n : Int)] w (endO [] w) := by
  obtain ⟨i0, hi, hz0, hz1, hz2⟩ := info_parts infoEn
  have hni : (n : Int) ≤ 100000 := by omega
  by_cases h0 : n = 0
  · subst h0
    go_enter Try.func44, Try.ntmps44
    go_wp2_with fail
    go_ret
    exact ⟨_, rfl, OEn.nil _ _, Below.refl _ _⟩
  · have hp : (0 : Int) < (n : Int) := by omega
    have hneg : ¬ (n : Int) < 0 := by omega
    have HR := fun ty => Lib.run_append_nil_zeros (P := Try.prog) w 22 3 ty 35 i0 (.agg #[.int .u64 0, .int .i64 0, .int .u64 0, .int .u64 0]) .i64 .i64 Try.underlying22 Try.underlying3 hi hz0 n (by omega) (by omega) (by omega) (by rw [hz2]; omega)
    have hge := grownCap_ge w n 0 35
    have hle := grownCap_le_maxLen w n 0 35 (by unfold maxLen; omega)
    generalize grownCap w n 0 35 = cap at *
    obtain ⟨cur, hcur⟩ : ∃ z, Builtin.zeroCells (Value.agg #[.int .u64 0, .int .i64 0, .int .u64 0, .int .u64 0]).cells n ++ Builtin.zeroCells (Value.agg #[.int .u64 0, .int .i64 0, .int .u64 0, .int .u64 0]).cells (cap - n) = z := ⟨_, rfl⟩
    have hsz : cur.size = cap * 4 := by
      rw [← hcur, Array.size_append, size_zeroCells, size_zeroCells, show (Value.agg #[.int .u64 0, .int .i64 0, .int .u64 0, .int .u64 0]).cells.size = 4 from rfl]
      omega
    simp only [hcur] at HR
    have HO : Hid (OEn (w.drew.alloc (.cells cur 35)) w.heap.size (.slice (some ⟨w.heap.size, 0, none⟩) 0 cap) []) := World.ownsRow_made (w := w.drew) cur cap (Nat.le_refl _) hle hsz
    have HB : Hid (Below w.heap.size w (w.drew.alloc (.cells cur 35))) := below_new (below_drewN (Below.refl _ w) 1) _
    obtain ⟨W1, hW1⟩ : ∃ z, w.drew.alloc (.cells cur 35) = z := ⟨_, rfl⟩
    rw [hW1] at HO HB
    simp only [hW1] at HR
    have HRR := Lib.hid HR
    clear hcur hW1 hsz hge hle HR h0
    go_enter Try.func44, Try.ntmps44
    go_wp2_with (at_builtin; refine Lib.wpList_append_run _ rfl (.tmp 20) (.tmp 21) 22 3 rfl _ _ rfl rfl _ _ (HRR.out _) ?_)
    go_ret
    exact ⟨_, rfl, HO.out, HB.out⟩

/-- Two lists, as one list of lists has them; what the first k are together. -/
def two (l m : List En) (k : Nat) : List En := if k = 0 then l else m
def pre (l m : List En) (k : Nat) : List En := if k = 0 then [] else if k = 1 then l else l ++ m
theorem pre_succ (l m : List En) {k : Nat} (h : k < 2) : pre l m (k + 1) = pre l m k ++ two l m k := by
  match k, h with
  | 0, _ => simp [pre, two]
  | 1, _ => simp [pre, two]
def SzRel (l m : List En) (w : World) (s i : Value) (wr : World) : Prop :=
  ∃ k : Nat, k ≤ 2 ∧ i = .int .i64 (k : Int) ∧ s = .int .i64 ((pre l m k).length : Int) ∧ wr = w
def CcRel (l m : List En) (w : World) (v i : Value) (wr : World) : Prop :=
  ∃ k : Nat, k ≤ 2 ∧ i = .int .i64 (k : Int) ∧ OEn wr w.heap.size v (pre l m k) ∧ Below w.heap.size w wr
set_option maxHeartbeats 3200000 in
theorem concat_any (g : Nat) (A B : Option Addr) (c d : Nat) (l m : List En) (w : World) (hg : Blk w g 22 #[.slice A l.length c, .slice B m.length d]) (hA : EnL w A l c) (hB : EnL w B m d) (hl : l.length ≤ 4000) (hm : m.length ≤ 4000) :
    Calls Try.prog 40 #[.slice (some ⟨g, 0, none⟩) 2 2] w (endO (l ++ m) w) := by
  obtain ⟨i0, hi, hz0, hz1, hz2⟩ := info_parts infoEn
  have hT : ∀ k, k < 2 → ∃ X x, w.cell? ⟨g, k, none⟩ = some (.slice X (two l m k).length x) ∧ EnL w X (two l m k) x ∧ (two l m k).length ≤ 4000 := by
    intro k hk
    match k, hk with
    | 0, _ => exact ⟨A, c, hg.cell 0, hA, hl⟩
    | 1, _ => exact ⟨B, d, hg.cell 1, hB, hm⟩
  have HT := Lib.hid hT
  have HLEN : Hid (∀ k, (pre l m k).length ≤ 8000) := fun k => by
    unfold pre
    split
    · simp
    · split
      · omega
      · simp; omega
  have hgl := hg.lt
  clear hT hg hA hB hl hm
  go_enter Try.func40, Try.ntmps40
  go_wp2_with fail
  go_loopw [3, 11] (fun s i wr => SzRel l m w s i wr) (fun _ i _ => 2 - (intOf i).toNat)
  case atStart => exact ⟨0, by omega, rfl, rfl, rfl⟩
  case round =>
    obtain ⟨k, hk, rfl, rfl, rfl⟩ := hrel
    by_cases hlt : k < 2
    · have hki : (k : Int) < 2 := by omega
      obtain ⟨X, x, e0, hX, hxl⟩ := HT.out k hlt
      have HPS := Lib.hid (pre_succ l m hlt)
      have h1 := HLEN.out k
      have h2 : ((pre l m k).length : Int) + ((two l m k).length : Int) = ((pre l m (k + 1)).length : Int) := by rw [HPS.out, List.length_append]; omega
      have h3 := HLEN.out (k + 1)
      have HS := Lib.hid h2
      have h4 : ¬ (((pre l m k).length : Int) + ((two l m k).length : Int) < 0) := by omega
      clear h2 hX
      generalize (pre l m k).length = p at *
      generalize (two l m k).length = q at *
      go_wp2_with fail
      go_roundw
      case rel => exact ⟨k + 1, by omega, by go_num, by rw [HS.out], rfl⟩
      case measure => simp [intOf]; omega
    · obtain rfl : k = 2 := by omega
      have hki : ¬ ((2 : Nat) : Int) < 2 := by omega
      have h1 := HLEN.out 2
      obtain ⟨n, hn⟩ : ∃ n, (pre l m 2).length = n := ⟨_, rfl⟩
      rw [hn] at h1 ⊢
      have HGR := Lib.hid (grow_nil n wr (by omega))
      go_wp2_with fail
      refine HGR.out.mono ?_
      rintro e W1 ⟨v, rfl, ho, hb⟩
      have HO := Lib.hid ho
      have HB := Lib.hid hb
      clear ho hb HGR
      go_wp2_with fail
      obtain ⟨w0, hw0⟩ : ∃ x, x = wr := ⟨_, rfl⟩
      subst hw0
      go_loopw [6, 27] (fun v i wq => CcRel l m w0 v i wq) (fun _ i _ => 2 - (intOf i).toNat)
      case atStart => exact ⟨0, by omega, rfl, HO.out, HB.out⟩
      case round =>
        obtain ⟨k, hk, rfl, ho, hb⟩ := hrel
        have HO := Lib.hid ho
        have HB := Lib.hid hb
        clear ho hb
        by_cases hlt : k < 2
        · have hki : (k : Int) < 2 := by omega
          obtain ⟨X, x, e0, hX, hxl⟩ := HT.out k hlt
          have e1 : wr.cell? ⟨g, k, none⟩ = some (.slice X (two l m k).length x) := by rw [HB.out.cell (p := ⟨g, k, none⟩) hgl]; exact e0
          have hgq : g < wr.heap.size := Nat.lt_of_lt_of_le hgl HB.out.size
          have HPS := Lib.hid (pre_succ l m hlt)
          have hpl := HLEN.out k
          have hx2 := hX.below HB.out
          have HNX : Hid (∀ ad, X = some ad → ∀ (j : Nat) (u : Value), (enRow (two l m k))[j]? = some u → wr.cell? (ad.add j) = some u) := fun ad e => by subst e; exact hx2.ents.row
          have HNN : Hid (X = none → two l m k = [] ∧ x = 0) := fun e => ⟨List.length_eq_zero_iff.1 (hx2.nil e).1, (hx2.nil e).2⟩
          have HON := Lib.hid (enRow_ones (two l m k))
          have HBL := Lib.hid (Nat.le_trans (Nat.le_refl _) HB.out.size)
          clear hX hx2 e0
          generalize two l m k = y at *
          generalize pre l m k = P at *
          cases X with
          | none =>
            obtain ⟨rfl, rfl⟩ := HNN.out rfl
            have HPE : Hid (pre l m (k + 1) = P) := by unfold Hid; rw [HPS.out, List.append_nil]
            go_wp2_with (at_builtin; refine wpList_append_own_none rfl (.tmp 31) (.tmp 32) 22 rfl w0.heap.size 35 i0 4 Try.underlying22 hi _ P.length (enRow P) rfl HO.out rfl ?_)
            go_roundw
            case rel => exact ⟨k + 1, by omega, by go_num, by rw [HPE.out]; exact HO.out, HB.out⟩
            case measure => simp [intOf]; omega
          | some ad =>
            go_wp2_with (at_builtin; refine wpList_append_own _ rfl (.tmp 31) (.tmp 32) 22 rfl w0.heap.size 35 i0 (.agg #[.int .u64 0, .int .i64 0, .int .u64 0, .int .u64 0]) 4 32 Try.underlying22 hi hz0 hz1 hz2 rfl (by decide) _ P.length (enRow P) rfl HO.out ad y.length x (enRow y) rfl (enRow_len y) (HNX.out ad rfl) HON.out ?_ ?_ HBL.out ?_)
            · unfold maxLen; omega
            · omega
            · intro v' w1 hown hgrow _
              have HO2 : Hid (OEn w1 w0.heap.size v' (pre l m (k + 1))) := by
                unfold Hid
                rw [HPS.out]
                exact OEn.app hown
              have HB2 := Lib.hid (HB.out.grown hgrow HB.out.size (fun j hj => (HO.out.lt j hj).1))
              clear hown hgrow
              go_wp2_with fail
              go_roundw
              case rel => exact ⟨k + 1, by omega, by go_num, HO2.out, HB2.out⟩
              case measure => simp [intOf]; omega
        · obtain rfl : k = 2 := by omega
          have hki : ¬ ((2 : Nat) : Int) < 2 := by omega
          go_wp2_with fail
          go_ret
          exact ⟨_, rfl, HO.out, HB.out⟩
end Go.Proofs.Ytnnjcabgaefhcaa.lg

/- The last term; whether a number and a term fit; whether they are as far: the program's answers, the document's. -/
namespace Go.Proofs.Ytnnjcabgaefhcaa.lg
open Go Go.RowKit Go.Proofs.Ytnnjcabgaefhcaa.ib
set_option maxRecDepth 100000

/-- The term of the i-th one, in memory. -/
theorem EnAt.at_ {w : World} {A : Option Addr} {l : List En} (h : EnAt w A l) (i : Nat) (hi : i < l.length) : ∃ b o, A = some ⟨b, o, none⟩ ∧ b < w.heap.size ∧ w.cell? ⟨b, o + i * 4, none⟩ = some (.int .u64 ((l.getD i dE).t : Int)) := by
  obtain ⟨b, o, h1, h2, h3, _⟩ := h i hi
  refine ⟨b, o, h1, h2, ?_⟩
  rw [h3]
  simp [List.getD, hi]

def endT (t : Nat) (w : World) (e : Ending) (w' : World) : Prop := e = .returned (.int .u64 (t : Int)) ∧ w' = w
def sameB (r : Bool) (w : World) (e : Ending) (w' : World) : Prop := e = .returned (.bool r) ∧ w' = w
set_option maxHeartbeats 800000 in
theorem last_any (A : Option Addr) (c : Nat) (l : List En) (w : World) (h : EnAt w A l) (hl : l.length ≤ 4000) : Calls Try.prog 37 #[.slice A l.length c] w (endT (lastT l) w) := by
  unfold lastT
  by_cases h0 : l.length = 0
  · obtain rfl : l = [] := List.length_eq_zero_iff.1 h0
    clear h
    go_enter Try.func37, Try.ntmps37
    go_wp2_with fail
    go_ret
    exact ⟨rfl, rfl⟩
  · rw [if_neg h0]
    obtain ⟨b, o, rfl, hb, hc⟩ := h.at_ (l.length - 1) (by omega)
    generalize ((l.getD (l.length - 1) dE).t) = t at *
    have hz : ((l.length : Int) == 0) = false := by rw [beq_eq_false_iff_ne]; omega
    have hi : (((l.length - 1 : Nat)) : Int) = (l.length : Int) - 1 := by omega
    obtain ⟨k, hk⟩ : ∃ k, l.length = k + 1 := ⟨l.length - 1, by omega⟩
    rw [hk] at hc hl hz ⊢
    simp only [Nat.add_sub_cancel] at hc
    clear h hi hk h0
    go_enter Try.func37, Try.ntmps37
    go_wp2_with fail
    all_goals go_ret
    all_goals exact ⟨rfl, rfl⟩
set_option maxHeartbeats 800000 in
theorem rlast_any (A : Option Addr) (c : Nat) (l : List En) (w : World) (h : EnAt w A l) (hl : l.length ≤ 4000) : Calls Try.prog 38 #[.slice A l.length c] w (endT (lastT l) w) := by
  unfold lastT
  by_cases h0 : l.length = 0
  · obtain rfl : l = [] := List.length_eq_zero_iff.1 h0
    clear h
    go_enter Try.func38, Try.ntmps38
    go_wp2_with fail
    go_ret
    exact ⟨rfl, rfl⟩
  · rw [if_neg h0]
    obtain ⟨b, o, rfl, hb, hc⟩ := h.at_ (l.length - 1) (by omega)
    generalize ((l.getD (l.length - 1) dE).t) = t at *
    have hz : ((l.length : Int) == 0) = false := by rw [beq_eq_false_iff_ne]; omega
    have hi : (((l.length - 1 : Nat)) : Int) = (l.length : Int) - 1 := by omega
    obtain ⟨k, hk⟩ : ∃ k, l.length = k + 1 := ⟨l.length - 1, by omega⟩
    rw [hk] at hc hl hz ⊢
    simp only [Nat.add_sub_cancel] at hc
    clear h hi hk h0
    go_enter Try.func38, Try.ntmps38
    go_wp2_with fail
    all_goals go_ret
    all_goals exact ⟨rfl, rfl⟩

set_option maxHeartbeats 800000 in
theorem fits_any (A : Option Addr) (c : Nat) (l : List En) (p : Int) (t : Nat) (w : World) (h : EnAt w A l) (hl : l.length ≤ 4000) (hp : i64B p) : Calls Try.prog 17 #[.slice A l.length c, .int .i64 p, .int .u64 (t : Int)] w (sameB (lFits l p t) w) := by
  obtain ⟨r, hr⟩ : ∃ r, lFits l p t = r := ⟨_, rfl⟩
  rw [hr]
  unfold lFits at hr
  by_cases h0 : p = 0
  · rw [if_pos h0] at hr
    subst h0
    have hr' : ((t : Int) == 0) = r := by rw [← hr, Bool.eq_iff_iff]; simp
    clear h hp hr
    generalize (t : Int) = T at *
    have HR := Lib.hid hr'
    clear hr'
    go_enter Try.func17, Try.ntmps17
    go_wp2_with fail
    go_ret
    exact ⟨by rw [HR.out]; rfl, rfl⟩
  · rw [if_neg h0] at hr
    have h0' : (p == 0) = false := by simpa using h0
    unfold i64B at hp
    by_cases h1 : 0 < p
    · by_cases h2 : p ≤ (l.length : Int)
      · obtain ⟨k, rfl⟩ : ∃ k : Nat, p = (k : Int) + 1 := ⟨(p - 1).toNat, by omega⟩
        have hk1 : (k : Int) + 1 - 1 = (k : Int) := by omega
        rw [hk1, Int.toNat_natCast] at hr
        obtain ⟨b, o, rfl, hb, hc⟩ := h.at_ k (by omega)
        clear hk1
        have hr' : (((l.getD k dE).t : Int) == (t : Int)) = r := by
          rw [← hr, Bool.eq_iff_iff]; simp; omega
        generalize ((l.getD k dE).t : Int) = X at *
        generalize (t : Int) = T at *
        have HR := Lib.hid hr'
        clear h hr hr' h0
        go_enter Try.func17, Try.ntmps17
        go_wp2_with fail
        all_goals go_ret
        all_goals exact ⟨by rw [HR.out]; rfl, rfl⟩
      · obtain rfl : r = false := by rw [← hr]; simp [h2]
        clear h hr h0
        go_enter Try.func17, Try.ntmps17
        go_wp2_with fail
        go_ret
        exact ⟨rfl, rfl⟩
    · obtain rfl : r = false := by rw [← hr, decide_eq_false (show ¬ 1 ≤ p by omega)]; rfl
      clear h hr h0
      go_enter Try.func17, Try.ntmps17
      go_wp2_with fail
      go_ret
      exact ⟨rfl, rfl⟩

set_option maxHeartbeats 800000 in
theorem rfits_any (A : Option Addr) (c : Nat) (l : List En) (p : Int) (t : Nat) (w : World) (h : EnAt w A l) (hl : l.length ≤ 4000) (hp : i64B p) : Calls Try.prog 18 #[.slice A l.length c, .int .i64 p, .int .u64 (t : Int)] w (sameB (lFits l p t) w) := by
  obtain ⟨r, hr⟩ : ∃ r, lFits l p t = r := ⟨_, rfl⟩
  rw [hr]
  unfold lFits at hr
  by_cases h0 : p = 0
  · rw [if_pos h0] at hr
    subst h0
    have hr' : ((t : Int) == 0) = r := by rw [← hr, Bool.eq_iff_iff]; simp
    clear h hp hr
    generalize (t : Int) = T at *
    have HR := Lib.hid hr'
    clear hr'
    go_enter Try.func18, Try.ntmps18
    go_wp2_with fail
    go_ret
    exact ⟨by rw [HR.out]; rfl, rfl⟩
  · rw [if_neg h0] at hr
    have h0' : (p == 0) = false := by simpa using h0
    unfold i64B at hp
    by_cases h1 : 1 ≤ p
    · by_cases h2 : p ≤ (l.length : Int)
      · obtain ⟨k, rfl⟩ : ∃ k : Nat, p = (k : Int) + 1 := ⟨(p - 1).toNat, by omega⟩
        have hk1 : (k : Int) + 1 - 1 = (k : Int) := by omega
        rw [hk1, Int.toNat_natCast] at hr
        obtain ⟨b, o, rfl, hb, hc⟩ := h.at_ k (by omega)
        clear hk1
        have hr' : (((l.getD k dE).t : Int) == (t : Int)) = r := by
          rw [← hr, Bool.eq_iff_iff]; simp; omega
        generalize ((l.getD k dE).t : Int) = X at *
        generalize (t : Int) = T at *
        have HR := Lib.hid hr'
        clear h hr hr' h0
        go_enter Try.func18, Try.ntmps18
        go_wp2_with fail
        all_goals go_ret
        all_goals exact ⟨by rw [HR.out]; rfl, rfl⟩
      · obtain rfl : r = false := by rw [← hr]; simp [h2]
        clear h hr h0
        go_enter Try.func18, Try.ntmps18
        go_wp2_with fail
        go_ret
        exact ⟨rfl, rfl⟩
    · obtain rfl : r = false := by rw [← hr, decide_eq_false (show ¬ 1 ≤ p by omega)]; rfl
      clear h hr h0
      go_enter Try.func18, Try.ntmps18
      go_wp2_with fail
      go_ret
      exact ⟨rfl, rfl⟩

set_option maxHeartbeats 800000 in
theorem newer_any (A : Option Addr) (c : Nat) (l : List En) (n : Int) (t : Nat) (w : World) (h : EnAt w A l) (hl : l.length ≤ 4000) : Calls Try.prog 19 #[.int .u64 (t : Int), .int .i64 n, .slice A l.length c] w (sameB (lNewer t n l) w) := by
  have HL := Lib.hid (last_any A c l w h hl)
  obtain ⟨r, hr⟩ : ∃ r, lNewer t n l = r := ⟨_, rfl⟩
  rw [hr]
  unfold lNewer at hr
  unfold endT at HL
  generalize lastT l = x at *
  clear h hl
  by_cases h1 : x < t
  · have h1i : (x : Int) < (t : Int) := by omega
    obtain rfl : r = true := by rw [← hr]; simp [h1]
    clear hr h1
    generalize (t : Int) = T at *
    generalize (x : Int) = X at *
    go_enter Try.func19, Try.ntmps19
    go_wp2_with fail
    refine HL.out.mono ?_
    rintro e _ ⟨rfl, rfl⟩
    go_wp2_with fail
    go_ret
    exact ⟨rfl, rfl⟩
  · by_cases h2 : t = x
    · subst h2
      have hx : ((t : Int) == (t : Int)) = true := by simp
      have h1i : ¬ (t : Int) < (t : Int) := by omega
      have hr' : decide ((l.length : Int) ≤ n) = r := by rw [← hr]; simp
      have HR := Lib.hid hr'
      clear hr h1 hr'
      generalize (t : Int) = T at *
      go_enter Try.func19, Try.ntmps19
      go_wp2_with fail
      refine HL.out.mono ?_
      rintro e _ ⟨rfl, rfl⟩
      go_wp2_with fail
      all_goals go_ret
      all_goals exact ⟨by rw [← HR.out]; simp [*], rfl⟩
    · have h2i : ((t : Int) == (x : Int)) = false := by rw [beq_eq_false_iff_ne]; omega
      have h1i : ¬ (x : Int) < (t : Int) := by omega
      obtain rfl : r = false := by rw [← hr]; simp [h1, h2]
      clear hr h1 h2
      generalize (t : Int) = T at *
      generalize (x : Int) = X at *
      go_enter Try.func19, Try.ntmps19
      go_wp2_with fail
      refine HL.out.mono ?_
      rintro e _ ⟨rfl, rfl⟩
      go_wp2_with fail
      go_ret
      exact ⟨by have hd : decide (X < T) = false := decide_eq_false (by omega); simp [hd], rfl⟩

set_option maxHeartbeats 800000 in
theorem rnewer_any (A : Option Addr) (c : Nat) (l : List En) (n : Int) (t : Nat) (w : World) (h : EnAt w A l) (hl : l.length ≤ 4000) : Calls Try.prog 20 #[.int .u64 (t : Int), .int .i64 n, .slice A l.length c] w (sameB (lNewer t n l) w) := by
  have HL := Lib.hid (rlast_any A c l w h hl)
  obtain ⟨r, hr⟩ : ∃ r, lNewer t n l = r := ⟨_, rfl⟩
  rw [hr]
  unfold lNewer at hr
  unfold endT at HL
  generalize lastT l = x at *
  clear h hl
  by_cases h1 : x < t
  · have h1i : (x : Int) < (t : Int) := by omega
    obtain rfl : r = true := by rw [← hr]; simp [h1]
    clear hr h1
    generalize (t : Int) = T at *
    generalize (x : Int) = X at *
    go_enter Try.func20, Try.ntmps20
    go_wp2_with fail
    refine HL.out.mono ?_
    rintro e _ ⟨rfl, rfl⟩
    go_wp2_with fail
    go_ret
    exact ⟨rfl, rfl⟩
  · by_cases h2 : t = x
    · subst h2
      have hx : ((t : Int) == (t : Int)) = true := by simp
      have h1i : ¬ (t : Int) < (t : Int) := by omega
      have hr' : decide ((l.length : Int) ≤ n) = r := by rw [← hr]; simp
      have HR := Lib.hid hr'
      clear hr h1 hr'
      generalize (t : Int) = T at *
      go_enter Try.func20, Try.ntmps20
      go_wp2_with fail
      refine HL.out.mono ?_
      rintro e _ ⟨rfl, rfl⟩
      go_wp2_with fail
      refine HL.out.mono ?_
      rintro e _ ⟨rfl, rfl⟩
      go_wp2_with fail
      all_goals go_ret
      all_goals exact ⟨by rw [← HR.out]; simp [*], rfl⟩
    · have h2i : ((t : Int) == (x : Int)) = false := by rw [beq_eq_false_iff_ne]; omega
      have h1i : ¬ (x : Int) < (t : Int) := by omega
      obtain rfl : r = false := by rw [← hr]; simp [h1, h2]
      clear hr h1 h2
      generalize (t : Int) = T at *
      generalize (x : Int) = X at *
      go_enter Try.func20, Try.ntmps20
      go_wp2_with fail
      refine HL.out.mono ?_
      rintro e _ ⟨rfl, rfl⟩
      go_wp2_with fail
      refine HL.out.mono ?_
      rintro e _ ⟨rfl, rfl⟩
      go_wp2_with fail
      go_ret
      exact ⟨by have hd : decide (X < T) = false := decide_eq_false (by omega); simp [hd], rfl⟩
end Go.Proofs.Ytnnjcabgaefhcaa.lg

/- A log joined with others: the program's answer. -/
namespace Go.Proofs.Ytnnjcabgaefhcaa.lg
open Go Go.RowKit Go.Proofs.Ytnnjcabgaefhcaa.ib
set_option maxRecDepth 100000

theorem fits_differ (l : List En) (p : Nat) (m : List En) (k : Nat) (hk : k < m.length) : lFits l ((p : Int) + (k : Int) + 1) m[k].t = !differ l p m k := by
  unfold lFits differ
  rw [if_neg (by omega), show ((p : Int) + (k : Int) + 1 - 1).toNat = p + k by omega, decide_eq_true (show (1 : Int) ≤ (p : Int) + (k : Int) + 1 by omega), Bool.true_and]
  have h1 : decide ((p : Int) + (k : Int) + 1 ≤ (l.length : Int)) = decide (p + k < l.length) := decide_eq_decide.2 (by omega)
  rw [h1, show m.getD k dE = m[k] by simp [List.getD, hk]]
  simp

/-- As far as k more is there. -/
def JnRel (l m : List En) (p : Nat) (w : World) (i : Value) (wr : World) : Prop :=
  ∃ k : Nat, k ≤ m.length ∧ i = .int .i64 (k : Int) ∧ (∀ j, j < k → differ l p m j = false) ∧ Below w.heap.size w wr

/-- Two parts of lists, one behind the other. -/
theorem cat_parts {w : World} {A : Option Addr} {b o c d : Nat} {l m : List En} (hA : EnL w A l c) (hB : EnL w (some ⟨b, o, none⟩) m d) (hl : l.length ≤ 4000) (hm : m.length ≤ 4000) (n k : Nat) (hn : n ≤ l.length) (W : World) (hb : Below w.heap.size w W) :
    Calls Try.prog 40 #[.slice (some ⟨W.heap.size, 0, none⟩) 2 2] (W.alloc (.cells #[.slice A n c, .slice (some ⟨b, o + k * 4, none⟩) (m.length - k) (d - k)] 22)) (endO (l.take n ++ m.drop k) (W.alloc (.cells #[.slice A n c, .slice (some ⟨b, o + k * 4, none⟩) (m.length - k) (d - k)] 22))) := by
  have h1 : (l.take n).length = n := by rw [List.length_take]; omega
  have h2 : (m.drop k).length = m.length - k := by rw [List.length_drop]
  have hbw := hb.alloc hb.size (.cells #[.slice A n c, .slice (some ⟨b, o + k * 4, none⟩) (m.length - k) (d - k)] 22)
  have hE1 : EnL _ A (l.take n) c := (hA.below hbw).take n
  have hE2 : EnL _ (some ⟨b, o + k * 4, none⟩) (m.drop k) (d - k) := ⟨(hB.ents.below hbw).drop k, by rw [h2]; have := hB.cap; omega, fun e => by cases e⟩
  have hk := Blk.new W 22 #[.slice A n c, .slice (some ⟨b, o + k * 4, none⟩) (m.length - k) (d - k)]
  refine concat_any W.heap.size A (some ⟨b, o + k * 4, none⟩) c (d - k) (l.take n) (m.drop k) _ ?_ hE1 hE2 (by omega) (by omega)
  rw [h1, h2]
  exact hk

set_option maxHeartbeats 3200000 in
theorem join_any (A B : Option Addr) (c d : Nat) (l m : List En) (p : Int) (w : World) (hA : EnL w A l c) (hB : EnL w B m d) (hl : l.length ≤ 4000) (hm : m.length ≤ 4000) (hp : i64B p) :
    Calls Try.prog 21 #[.slice A l.length c, .int .i64 p, .slice B m.length d] w (endO (lJoin l p m) w) := by
  have HCL := Lib.hid (fun W (hb : Below w.heap.size w W) => clone_any A c l W (hA.below hb) hl)
  have hli : (l.length : Int) ≤ 4000 := by omega
  have hmi : (m.length : Int) ≤ 4000 := by omega
  unfold i64B at hp
  by_cases h0 : p < 0
  · rw [join_out (.inl h0)]
    clear hA hB
    go_enter Try.func21, Try.ntmps21
    go_wp2_with fail
    refine (HCL.out w (Below.refl _ _)).mono ?_
    rintro e W1 ⟨v, rfl, ho, hb⟩
    have HO := Lib.hid ho
    have HB := Lib.hid hb
    clear ho hb HCL
    go_wp2_with fail
    go_ret
    exact ⟨_, rfl, HO.out, HB.out⟩
  by_cases h1 : (l.length : Int) < p
  · rw [join_out (.inr h1)]
    clear hA hB
    go_enter Try.func21, Try.ntmps21
    go_wp2_with fail
    refine (HCL.out w (Below.refl _ _)).mono ?_
    rintro e W1 ⟨v, rfl, ho, hb⟩
    have HO := Lib.hid ho
    have HB := Lib.hid hb
    clear ho hb HCL
    go_wp2_with fail
    go_ret
    exact ⟨_, rfl, HO.out, HB.out⟩
  obtain ⟨pn, rfl⟩ : ∃ n : Nat, p = (n : Int) := ⟨p.toNat, by omega⟩
  have hpl : pn ≤ l.length := by omega
  have HFD := Lib.hid (fits_differ l pn m)
  have HJN := Lib.hid (fun h => join_none (l := l) (p := pn) (more := m) h)
  have HJS := Lib.hid (fun i (hi : i < m.length) (hd : differ l pn m i = true) h => join_some hpl hi hd h)
  have HROOM := Lib.hid (fun i h => differ_room (l := l) (p := pn) (more := m) (i := i) hpl h)
  obtain ⟨R, hR⟩ : ∃ R, lJoin l (pn : Int) m = R := ⟨_, rfl⟩
  rw [hR] at HJN HJS ⊢
  have HA := Lib.hid hA
  have HB := Lib.hid hB
  clear hA hB hR
  go_enter Try.func21, Try.ntmps21
  go_wp2_with fail
  go_loopw [21] (fun i wr => JnRel l m pn w i wr) (fun i _ => m.length - (intOf i).toNat)
  case atStart => exact ⟨0, Nat.zero_le _, rfl, fun j hj => absurd hj (by omega), Below.refl _ _⟩
  case round =>
    obtain ⟨k, hk, rfl, hd, hb⟩ := hrel
    have HD := Lib.hid hd
    have HBW := Lib.hid hb
    clear hd hb
    by_cases hlt : k < m.length
    · have hki : (k : Int) < (m.length : Int) := by omega
      obtain ⟨b2, o2, rfl, l2, e0, e1, e2, e3, hxb⟩ := HB.out.ents.cells HBW.out k hlt
      have HF := Lib.hid (HFD.out k hlt)
      have hroom := HROOM.out k HD.out
      have HJSk := Lib.hid (fun h => HJS.out k hlt h HD.out)
      obtain ⟨x, hx⟩ : ∃ x, m[k] = x := ⟨_, rfl⟩
      rw [hx] at e0 e1 e2 e3 HF
      obtain ⟨W1, hW1⟩ : ∃ z, wr.alloc (.cells #[.int .u64 (x.t : Int), .int .i64 x.k, .int .u64 (x.e : Int), .int .u64 (x.c : Int)] 35) = z := ⟨_, rfl⟩
      have hx1 : Blk W1 wr.heap.size 35 #[.int .u64 (x.t : Int), .int .i64 x.k, .int .u64 (x.e : Int), .int .u64 (x.c : Int)] := by rw [← hW1]; exact Blk.new _ _ _
      have hb1 : Below wr.heap.size wr W1 := by rw [← hW1]; exact (Below.refl _ wr).alloc (Nat.le_refl _) _
      have HX1 := Lib.hid hx1
      have HB1 := Lib.hid (below_step HBW.out hb1)
      clear hx hx1 hb1 hxb
      go_upto_region 6 with fail
      try rw [hW1]
      clear hW1 e0 e1 e2 e3
      obtain ⟨gx, hgx⟩ : ∃ g, wr.heap.size = g := ⟨_, rfl⟩
      rw [hgx] at HX1
      try rw [hgx]
      clear hgx
      have q0 := HX1.out.cell 0
      simp only [List.getElem?_toArray, List.getElem?_cons_zero, List.getElem?_cons_succ] at q0
      have hlg := HX1.out.lt
      have hfit := fits_any A c l ((pn : Int) + (k : Int) + 1) x.t W1 (HA.out.ents.below HB1.out) hl (by unfold i64B; omega)
      rw [HF.out] at hfit
      have HFIT := Lib.hid hfit
      have hdn : ∃ q, differ l pn m k = q := ⟨_, rfl⟩
      obtain ⟨q, hq⟩ := hdn
      have HQ := Lib.hid hq
      rw [hq] at HFIT
      clear hfit hq HF
      cases q with
      | false =>
        have HDD : Hid (∀ j, j < k + 1 → differ l pn m j = false) := fun j hj => by
          by_cases hjk : j = k
          · rw [hjk]; exact HQ.out
          · exact HD.out j (by omega)
        go_wp2_with fail
        refine HFIT.out.mono ?_
        rintro e _ ⟨rfl, rfl⟩
        clear q0
        go_wp2_with fail
        go_roundw
        case rel => exact ⟨k + 1, by omega, by go_num, HDD.out, HB1.out⟩
        case measure => simp [intOf]; omega
      | true =>
        have HCAT := Lib.hid (fun W hb => cat_parts HA.out HB.out hl hm (pn + k) k hroom W hb)
        rw [← HJSk.out HQ.out] at HCAT
        have hdc := HB.out.cap
        have hac := HA.out.cap
        have hki2 : ((pn : Int) + (k : Int)) ≤ (c : Int) := by omega
        have hkd : (k : Int) ≤ (d : Int) := by omega
        go_wp2_with fail
        refine HFIT.out.mono ?_
        rintro e W2 ⟨rfl, rfl⟩
        clear q0 HFIT
        have HBD : Hid (Below w.heap.size w W2.drew) := below_drewN HB1.out 1
        have hwk : IntKind.i64.wrap ((pn : Int) + (k : Int)) = (pn : Int) + (k : Int) := IntWalk.i64_in _ (by omega)
        have hik : (0 : Int) ≤ (pn : Int) + (k : Int) := by omega
        go_wp2_with fail
        refine wp_region_still_w 8 (by kernel_rfl) (by kernel_rfl) ?_
        simp only [List.take_succ_cons, List.take_zero, List.drop_succ_cons, List.drop_zero]
        cases A with
        | none =>
          obtain ⟨hz1, rfl⟩ := HA.out.nil rfl
          obtain ⟨rfl, rfl⟩ : pn = 0 ∧ k = 0 := ⟨by omega, by omega⟩
          have hw0 : IntKind.i64.wrap 0 = 0 := rfl
          iterate 8 still_step
          refine wpStill_nil ?_
          go_wp2_with fail
          refine (HCAT.out W2.drew HBD.out).mono ?_
          rintro e W3 ⟨v, rfl, ho, hb⟩
          have HO := Lib.hid (row_base ho (Nat.le_trans HBD.out.size (by simp)))
          have HB3 := Lib.hid ((below_new HBD.out _).trans (hb.mono (Nat.le_trans HBD.out.size (by simp))))
          clear ho hb HCAT
          go_wp2_with fail
          go_ret
          exact ⟨_, rfl, HO.out, HB3.out⟩
        | some ad =>
          iterate 8 still_step
          refine wpStill_nil ?_
          go_wp2_with fail
          refine (HCAT.out W2.drew HBD.out).mono ?_
          rintro e W3 ⟨v, rfl, ho, hb⟩
          have HO := Lib.hid (row_base ho (Nat.le_trans HBD.out.size (by simp)))
          have HB3 := Lib.hid ((below_new HBD.out _).trans (hb.mono (Nat.le_trans HBD.out.size (by simp))))
          clear ho hb HCAT
          go_wp2_with fail
          go_ret
          exact ⟨_, rfl, HO.out, HB3.out⟩
    · have hki : ¬ (k : Int) < (m.length : Int) := by omega
      have HRL := Lib.hid (HJN.out (fun i hi => HD.out i (by omega)))
      go_wp2_with fail
      refine (HCL.out wr HBW.out).mono ?_
      rintro e W1 ⟨v, rfl, ho, hb⟩
      have HO := Lib.hid (row_base ho HBW.out.size)
      have HB3 := Lib.hid (below_step HBW.out hb)
      clear ho hb HCL
      go_wp2_with fail
      go_ret
      exact ⟨_, rfl, by rw [HRL.out]; exact HO.out, HB3.out⟩
end Go.Proofs.Ytnnjcabgaefhcaa.lg

