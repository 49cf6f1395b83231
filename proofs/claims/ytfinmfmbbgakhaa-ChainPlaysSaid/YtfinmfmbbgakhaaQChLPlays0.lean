/- RcAdd. -/
import Derived.Test.YtfinmfmbbgakhaaQ8
/- The document's Add. -/
namespace Go.Proofs.Ytfinmfmbbgakhaa.ch
open Go Go.RowKit Go.Sort Go.Proofs.Ytfinmfmbbgakhaa.ib
set_option maxRecDepth 100000

/-- How far the blocks are put: what is left, put from here on, is what all come to. -/
structure AddAt (x : List (Int × Bt)) (l0 : List Bt) (k : Nat) (l : List Bt) (q : Int) : Prop where
  eq : putAll l0 (-1) x = putAll l q (x.drop k)
  len : l.length = l0.length
  low : -1 ≤ q
  zero : k = 0 → q = -1
  more : ∀ (h : 0 < k) (h2 : k ≤ x.length), q = (x[k - 1]'(by omega)).1 ∧ 0 ≤ q
theorem AddAt.start (x : List (Int × Bt)) (l0 : List Bt) : AddAt x l0 0 l0 (-1) := ⟨rfl, rfl, by omega, fun _ => rfl, fun h => absurd h (by omega)⟩
theorem AddAt.bad {x : List (Int × Bt)} {l0 l : List Bt} {k : Nat} {q : Int} (h : AddAt x l0 k l q) (hk : k < x.length) (hb : x[k].1 ≤ q ∨ (l.length : Int) ≤ x[k].1 ∨ x[k].2.length ≠ 32) : putAll l0 (-1) x = none := by
  rw [h.eq, List.drop_eq_getElem_cons hk]
  show putAll l q ((x[k].1, x[k].2) :: x.drop (k + 1)) = none
  unfold putAll
  rw [if_pos hb]
theorem AddAt.good {x : List (Int × Bt)} {l0 l : List Bt} {k : Nat} {q : Int} (h : AddAt x l0 k l q) (hk : k < x.length) (hb : ¬ (x[k].1 ≤ q ∨ (l.length : Int) ≤ x[k].1 ∨ x[k].2.length ≠ 32)) : AddAt x l0 (k + 1) (l.set x[k].1.toNat x[k].2) x[k].1 := by
  have h1 := h.low
  refine ⟨?_, by rw [List.length_set]; exact h.len, by omega, fun h => absurd h (by omega), fun _ _ => ⟨by simp, by omega⟩⟩
  rw [h.eq, List.drop_eq_getElem_cons hk]
  show putAll l q ((x[k].1, x[k].2) :: x.drop (k + 1)) = _
  conv => lhs; unfold putAll
  rw [if_neg hb]
theorem AddAt.done {x : List (Int × Bt)} {l0 l : List Bt} {k : Nat} {q : Int} (h : AddAt x l0 k l q) (hk : x.length ≤ k) : putAll l0 (-1) x = some l := by
  rw [h.eq, List.drop_of_length_le hk]
  rfl

def AdG (p : Nat) (A : Option Addr) (n c : Nat) (y1 y2 : Int) (gn cn : Nat) (l : List Bt) : Nat → Value → World → Prop
  | 0, v, _ => v = .pointer (some ⟨p, 0, none⟩)
  | 1, v, _ => v = .pointer (some ⟨p, 0, none⟩)
  | 2, v, _ => v = .pointer (some ⟨p, 0, none⟩)
  | 3, v, _ => v = .pointer (some ⟨p, 1, none⟩)
  | 4, v, _ => v = .slice A n c
  | 5, v, _ => v = .agg #[.int .u64 y1, .int .u64 y2]
  | 6, v, _ => v = .slice (some ⟨gn, 0, none⟩) l.length cn
  | 7, v, _ => v = .agg #[.int .u64 y1, .int .u64 y2, .slice (some ⟨gn, 0, none⟩) l.length cn, .bool false]
  | 8, v, w => ∃ b, v = .slice (some ⟨b, 0, none⟩) 1 1 ∧ Blk w b 79 #[.int .u64 y1, .int .u64 y2, .slice (some ⟨gn, 0, none⟩) l.length cn, .bool false]
  | _, _, _ => True
theorem AdG_mono (p : Nat) (A : Option Addr) (n c : Nat) (y1 y2 : Int) (gn cn : Nat) (l : List Bt) (i : Nat) (v : Value) (w w' : World) (hi : i < 9) (h : AdG p A n c y1 y2 gn cn l i v w) (hb : Below w.heap.size w w') : AdG p A n c y1 y2 gn cn l i v w' := by
  match i, hi, h with
  | 0, _, h | 1, _, h | 2, _, h | 3, _, h | 4, _, h | 5, _, h | 6, _, h | 7, _, h => exact h
  | 8, _, ⟨b, h1, h2⟩ => exact ⟨b, h1, h2.below hb⟩

def AddRel (x : List (Int × Bt)) (l0 : List Bt) (g : Nat) (w : World) (i : Value) (wr : World) : Prop :=
  ∃ (k : Nat) (l : List Bt) (q : Int), k ≤ x.length ∧ i = .int .i64 (k : Int) ∧ AddAt x l0 k l q ∧ TxB wr g l ∧ Below w.heap.size w wr

set_option maxHeartbeats 6400000 in
theorem radd_any {own : Nat → Prop} {w : World} {p : Nat} {d : CH} (h : RcIs own w p d) (g : Gd) (hg : gdB g) (A : Option Addr) (c : Nat) (x : List (Int × Bt)) (hx : ChL w A x) (hlx : x.length ≤ 1000) :
    Calls Try.prog 38 #[.pointer (some ⟨p, 0, none⟩), gv g, .slice A x.length c] w (Aft RcIs own p (d.add g x) w) := by
  obtain ⟨i0, hi, hz0, hz1, hz2⟩ := info_parts infoSn
  have hb0 := (Below.refl w.heap.size w).alloc (Nat.le_refl _) (.cells #[.int .u64 (g.1 : Int), .int .u64 (g.2 : Int)] 37)
  have hI := h.below hb0
  have HB0 := Lib.hid hb0
  obtain ⟨y1, hy1⟩ : ∃ y, (g.1 : Int) = y := ⟨_, rfl⟩
  obtain ⟨y2, hy2⟩ : ∃ y, (g.2 : Int) = y := ⟨_, rfl⟩
  have HM := Lib.hid (rmay_any hI g)
  have HI := Lib.hid hI
  have HIW := Lib.hid h
  have HG := Lib.hid hg
  have HX := Lib.hid hx
  have HY1 := Lib.hid hy1
  have HY2 := Lib.hid hy2
  unfold gv at HM ⊢
  rw [hy1, hy2] at HM HI HB0 ⊢
  clear hb0 hI h hg hy1 hy2 hx
  have HSN : Hid (d.add g x = if d.may g = 0 then (match putAll d.base (-1) x with | none => (d, 2) | some l => (⟨l, d.snaps ++ [⟨g, l, false⟩]⟩, 0)) else (d, d.may g)) := rfl
  have HMZ := Lib.hid (fun h => may_zero (c := d) (g := g) h)
  obtain ⟨m, hm⟩ : ∃ m, d.may g = m := ⟨_, rfl⟩
  rw [hm] at HM HSN HMZ
  clear hm
  obtain ⟨W0, hW0⟩ : ∃ W, w.alloc (.cells #[.int .u64 y1, .int .u64 y2] 37) = W := ⟨_, rfl⟩
  rw [hW0] at HM HI HB0
  have q0 : W0.cell? ⟨w.heap.size, 0, none⟩ = some (.int .u64 y1) := by rw [← hW0]; exact (Blk.new w _ _).cell 0
  have q1 : W0.cell? ⟨w.heap.size, 1, none⟩ = some (.int .u64 y2) := by rw [← hW0]; exact (Blk.new w _ _).cell 1
  have HS0 : Hid (w.heap.size < W0.heap.size) := by unfold Hid; rw [← hW0]; simp
  have Q0 := Lib.hid q0
  have Q1 := Lib.hid q1
  go_enter Try.func38, Try.ntmps38
  go_wp2_with fail
  clear hW0
  refine HM.out.mono ?_
  rintro e W1 ⟨rfl, hb1⟩
  have HB1 := Lib.hid (HB0.out.trans (hb1.mono HB0.out.size))
  have HI1 := Lib.hid (HI.out.below hb1)
  have R0 : Hid (W1.cell? ⟨w.heap.size, 0, none⟩ = some (.int .u64 y1)) := (hb1.cell (p := ⟨w.heap.size, 0, none⟩) HS0.out).trans Q0.out
  have R1 : Hid (W1.cell? ⟨w.heap.size, 1, none⟩ = some (.int .u64 y2)) := (hb1.cell (p := ⟨w.heap.size, 1, none⟩) HS0.out).trans Q1.out
  have HS1 : Hid (w.heap.size < W1.heap.size) := Nat.lt_of_lt_of_le HS0.out hb1.size
  clear hb1 HM HI HB0 q0 q1 Q0 Q1 HS0
  by_cases hz : m = 0
  · subst hz
    have hsn := HSN.out
    rw [if_pos rfl] at hsn
    have HSD := Lib.hid hsn
    obtain ⟨_, hfew⟩ := HMZ.out rfl
    have HFEW := Lib.hid hfew
    have HBA := Lib.hid (rbase_any HI1.out)
    have HBO := Lib.hid HI1.out.1.base_ok
    obtain ⟨l0, hl0⟩ : ∃ l, d.base = l := ⟨_, rfl⟩
    rw [hl0] at HBA HBO HSD
    clear hsn HSN HMZ hfew hl0
    go_wp2_with fail
    refine HBA.out.mono ?_
    rintro e W2 ⟨gn, cn, rfl, hgn, hcn, ht, hb2⟩
    have HT := Lib.hid ht
    have HGN := Lib.hid hgn
    have HCN := Lib.hid hcn
    have HB2 := Lib.hid hb2
    clear ht hgn hcn hb2 HBA
    go_wp2_with fail
    go_loopw [9] (fun i wr => AddRel x l0 gn W1 i wr) (fun i _ => x.length - (intOf i).toNat)
    case atStart => exact ⟨0, l0, -1, Nat.zero_le _, rfl, AddAt.start _ _, HT.out, HB2.out⟩
    case round =>
      obtain ⟨k, l, q, hk, rfl, ha, htx, hbw⟩ := hrel
      have HA := Lib.hid ha
      have HTX := Lib.hid htx
      have HBW := Lib.hid hbw
      clear ha htx hbw
      by_cases hlt : k < x.length
      · have hki : (k : Int) < (x.length : Int) := by omega
        have hB : Below w.heap.size w wr := HB1.out.trans (HBW.out.mono HB1.out.size)
        obtain ⟨b, o, rfl, hbl, hc0, hc1, hz⟩ := HX.out k hlt
        have e0 : wr.cell? ⟨b, o + k * 2, none⟩ = some (.int .i64 x[k].1) := by rw [hB.cell (p := ⟨b, o + k * 2, none⟩) hbl]; exact hc0
        have e1 : wr.cell? ⟨b, o + k * 2 + 1, none⟩ = some (.string (str x[k].2)) := by rw [hB.cell (p := ⟨b, o + k * 2 + 1, none⟩) hbl]; exact hc1
        have HLB : Hid (b < w.heap.size) := hbl
        have hlb : b < wr.heap.size := Nat.lt_of_lt_of_le hbl hB.size
        have HBAD := Lib.hid (fun hb => HA.out.bad hlt hb)
        have HGOOD := Lib.hid (fun hb => HA.out.good hlt hb)
        have HLL := Lib.hid HA.out.len
        have HQL := Lib.hid HA.out.low
        have HQZ := Lib.hid HA.out.zero
        have HQM := Lib.hid HA.out.more
        have HSZ : Hid ((str x[k].2).size = x[k].2.length) := str_size _
        clear hc0 hc1 hz hbl hB
        generalize hkb : x[k].1 = kb at *
        generalize hks : x[k].2 = sx at *
        generalize hsS : str sx = S at *
        have HNW := Lib.hid (Blk.new wr 60 #[.int .i64 kb, .string S])
        go_wp2_with fail
        obtain ⟨W3, hW3⟩ : ∃ W, wr.alloc (.cells #[.int .i64 kb, .string S] 60) = W := ⟨_, rfl⟩
        rw [hW3] at HNW ⊢
        have HB3 : Hid (Below W1.heap.size W1 W3) := by unfold Hid; rw [← hW3]; exact HBW.out.alloc HBW.out.size _
        have HT3 : Hid (TxB W3 gn l) := by unfold Hid; rw [← hW3]; exact HTX.out.of_block (Below.heap_alloc _ _ _ HTX.out.lt)
        have q0 := HNW.out.cell 0
        have q1 := HNW.out.cell 1
        simp only [List.getElem?_toArray, List.getElem?_cons_zero, List.getElem?_cons_succ] at q0 q1
        clear hW3 e0 e1
        have hlenI : (l.length : Int) = (l0.length : Int) := by rw [HLL.out]
        have HLI := Lib.hid hlenI
        clear hlenI
        by_cases h1 : kb < 0
        · skip
          have HN := Lib.hid (HBAD.out (.inl (by have := HQL.out; omega)))
          have HW3 := Lib.hid (drewC (HB1.out.trans (HB3.out.mono HB1.out.size)))
          have d1 : decide (kb < 0) = true := decide_eq_true h1
          go_quiet (fail)
          go_wp2_with fail
          go_ret
          rw [HSD.out, HN.out]
          exact HIW.out.same (HW3.out _) rfl
        have d1 : decide (kb < 0) = false := decide_eq_false h1
        by_cases h2 : (l0.length : Int) ≤ kb
        · skip
          have HN := Lib.hid (HBAD.out (.inr (.inl (by have := HLI.out; omega))))
          have HW3 := Lib.hid (drewC (HB1.out.trans (HB3.out.mono HB1.out.size)))
          have d2 : decide ((l0.length : Int) ≤ kb) = true := decide_eq_true h2
          go_quiet (fail)
          go_wp2_with fail
          go_ret
          rw [HSD.out, HN.out]
          exact HIW.out.same (HW3.out _) rfl
        have d2 : decide ((l0.length : Int) ≤ kb) = false := decide_eq_false h2
        by_cases h3 : sx.length = 32
        case neg =>
          have d3 : ((S.size : Int) != 32) = true := by have := HSZ.out; simp; omega
          have HN := Lib.hid (HBAD.out (.inr (.inr h3)))
          have HW3 := Lib.hid (drewC (HB1.out.trans (HB3.out.mono HB1.out.size)))
          clear h3
          go_quiet (fail)
          go_wp2_with fail
          go_ret
          rw [HSD.out, HN.out]
          exact HIW.out.same (HW3.out _) rfl
        have d3 : ((S.size : Int) != 32) = false := by have := HSZ.out; simp; omega
        by_cases h0 : k = 0
        case pos =>
          have hq1 : q = -1 := HQZ.out h0
          have HGD := Lib.hid (HGOOD.out (by have := HLI.out; rintro (h | h | h) <;> omega))
          have d4 : decide ((0 : Int) < (k : Int)) = false ∧ decide (0 < k) = false ∧ ¬ 0 < k := ⟨decide_eq_false (by omega), decide_eq_false (by omega), by omega⟩
          clear h0 hq1
          obtain ⟨kn, hkn⟩ : ∃ kn : Nat, kb = (kn : Int) := ⟨kb.toNat, by omega⟩
          subst hkn
          rw [Int.toNat_natCast] at HGD
          have hkl : kn < l.length := by have := HLI.out; omega
          have hkl0 : (kn : Int) < (l0.length : Int) := by omega
          have f0 := HT3.out.frozen kn
          obtain ⟨old, hold⟩ : ∃ u, W3.cell? ⟨gn, kn, none⟩ = some u := ⟨_, HT3.out.cell kn hkl⟩
          have l3 := HT3.out.lt
          have HT4 := Lib.hid (fun n => (show TxB (W3.drewN n) gn l from HT3.out).set_ kn hkl sx)
          have HB4 := Lib.hid (fun n => (drewC HB3.out n).setCell (p := ⟨gn, kn, none⟩) HGN.out (.string S))
          rw [hsS] at HT4
          clear hkl
          go_quiet (fail)
          go_wp2_with fail
          go_roundw
          case rel => exact ⟨k + 1, _, _, by omega, by go_num, HGD.out, HT4.out _, HB4.out _⟩
          case measure => simp [intOf]; omega
        obtain ⟨km, hkm⟩ : ∃ km, k = km + 1 := ⟨k - 1, by omega⟩
        have hq1 : q = (x[km]'(by omega)).1 ∧ 0 ≤ q := by
          have h := HQM.out (by omega) (by omega)
          simpa [hkm] using h
        have hB3 : Below w.heap.size w W3 := HB1.out.trans (HB3.out.mono HB1.out.size)
        have hkx : km < x.length := by omega
        obtain ⟨b', o', hA', hbl', hc', hju1, hju2⟩ := HX.out km hkx
        simp only [Option.some.injEq, Addr.mk.injEq, and_true] at hA'
        obtain ⟨rfl, rfl⟩ := hA'
        have e2 : W3.cell? ⟨b, o + km * 2, none⟩ = some (.int .i64 x[km].1) := by rw [hB3.cell (p := ⟨b, o + km * 2, none⟩) hbl']; exact hc'
        have hlb3 : b < W3.heap.size := Nat.lt_of_lt_of_le hbl' hB3.size
        clear hc' hbl' hju1 hju2
        generalize x[km].1 = pv at *
        have hw1 : IntKind.i64.wrap ((k : Int) - 1) = (km : Int) := by rw [IntWalk.i64_in _ (by omega)]; omega
        have hw2 : (k : Int) - 1 = (km : Int) := by omega
        have hkx2 : (km : Int) < (x.length : Int) := by omega
        have HQ1 := Lib.hid hq1
        have d4 : decide ((0 : Int) < (k : Int)) = true ∧ decide (0 < k) = true ∧ 0 < k := ⟨decide_eq_true (by omega), decide_eq_true (by omega), by omega⟩
        clear h0 hq1 hkm hB3 hkx
        by_cases h4 : kb ≤ pv
        · skip
          have HN := Lib.hid (HBAD.out (.inl (by have := HQ1.out; omega)))
          have HW3 := Lib.hid (drewC (HB1.out.trans (HB3.out.mono HB1.out.size)))
          have d5 : decide (kb ≤ pv) = true := decide_eq_true h4
          go_quiet (fail)
          go_wp2_with fail
          go_ret
          rw [HSD.out, HN.out]
          exact HIW.out.same (HW3.out _) rfl
        · have HGD := Lib.hid (HGOOD.out (by have := HLI.out; have := HQ1.out; rintro (h | h | h) <;> omega))
          have d5 : decide (kb ≤ pv) = false := decide_eq_false h4
          obtain ⟨kn, hkn⟩ : ∃ kn : Nat, kb = (kn : Int) := ⟨kb.toNat, by omega⟩
          subst hkn
          rw [Int.toNat_natCast] at HGD
          have hkl : kn < l.length := by have := HLI.out; omega
          have hkl0 : (kn : Int) < (l0.length : Int) := by omega
          have f0 := HT3.out.frozen kn
          obtain ⟨old, hold⟩ : ∃ u, W3.cell? ⟨gn, kn, none⟩ = some u := ⟨_, HT3.out.cell kn hkl⟩
          have l3 := HT3.out.lt
          have HT4 := Lib.hid (fun n => (show TxB (W3.drewN n) gn l from HT3.out).set_ kn hkl sx)
          have HB4 := Lib.hid (fun n => (drewC HB3.out n).setCell (p := ⟨gn, kn, none⟩) HGN.out (.string S))
          rw [hsS] at HT4
          clear hkl
          go_quiet (fail)
          go_wp2_with fail
          go_roundw
          case rel => exact ⟨k + 1, _, _, by omega, by go_num, HGD.out, HT4.out _, HB4.out _⟩
          case measure => simp [intOf]; omega
      · have hki : ¬ (k : Int) < (x.length : Int) := by omega
        have HPD := Lib.hid (HA.out.done (by omega))
        have HLL := Lib.hid HA.out.len
        have HLV : Hid (volOk d.live.length l) := putAll_ok HBO.out HPD.out
        have hsd := HSD.out
        rw [HPD.out] at hsd
        have HSD2 : Hid (d.add g x = (⟨l, d.snaps ++ [⟨g, l, false⟩]⟩, 0)) := hsd
        have HW3 := Lib.hid (HB1.out.trans (HBW.out.mono HB1.out.size))
        have HIR := Lib.hid (HI1.out.below HBW.out)
        obtain ⟨h0, gl, cl, v, xs, hr⟩ := HIR.out
        have hsz1 := HBW.out.size
        have hgl := hr.on_
        have HGL : Hid (gn ≠ gl) := by
          intro e
          subst e
          obtain ⟨_, gl1, cl1, v1, xs1, hr1⟩ := HI1.out
          have := hr1.low _ hgl
          have := HGN.out
          omega
        obtain ⟨c0, c1⟩ := blk2 hr.blk
        have hplt := hr.blk.lt
        obtain ⟨A', c', rfl, _, _, _, _⟩ := row_view hr.row
        have h20 : xs.length ≤ 19 := by have := HFEW.out; rw [hr.len]; omega
        have C1 := Lib.hid c1
        have HR := Lib.hid hr
        have HH0 := Lib.hid h0
        have R2 : Hid (wr.cell? ⟨w.heap.size, 0, none⟩ = some (.int .u64 y1)) := (HBW.out.cell (p := ⟨w.heap.size, 0, none⟩) HS1.out).trans R0.out
        have R3 : Hid (wr.cell? ⟨w.heap.size, 1, none⟩ = some (.int .u64 y2)) := (HBW.out.cell (p := ⟨w.heap.size, 1, none⟩) HS1.out).trans R1.out
        have HS2 : Hid (w.heap.size < wr.heap.size) := Nat.lt_of_lt_of_le HS1.out hsz1
        have HCN2 : Hid (l.length ≤ cn) := by unfold Hid; rw [HLL.out]; exact HCN.out
        rw [← HLL.out]
        clear hr h0 c0 c1 hsd hsz1 hgl HLL R0 R1 HS1 HB2 HA HBO HT HCN HIR
        go_wp2_with fail
        refine wp_region_slots_t (by kernel_rfl) 9 [66, 67, 68, 69, 70, 71, 72, 73, 74] (by kernel_rfl) (AdG p A' xs.length c' y1 y2 gn cn l) _ (.pointer (some ⟨p, 0, none⟩)) rfl (by decide) (by kernel_rfl) (by kernel_rfl) (by kernel_rfl) (fun _ _ _ h => h) (Or.inl ⟨by rfl, fun w => by go_simp⟩) (fun _ => rfl) (AdG_mono _ _ _ _ _ _ _ _ _) ?_ ?_
        · intro i o vs ρ W hi ho hρ hfn hb hG
          have t0 : ρ (.tmp 0) = .pointer (some ⟨p, 0, none⟩) := hρ.out 0 rfl
          have t4 : ρ (.tmp 4) = .pointer (some ⟨w.heap.size, 0, none⟩) := hρ.out 4 rfl
          have t8 : ρ (.tmp 8) = .slice (some ⟨gn, 0, none⟩) l.length cn := hρ.out 8 rfl
          have s1 := hρ.at_ 67 1 rfl
          have s2 := hρ.at_ 68 2 rfl
          have s3 := hρ.at_ 69 3 rfl
          have s5 := hρ.at_ 71 5 rfl
          have s6 := hρ.at_ 72 6 rfl
          have s7 := hρ.at_ 73 7 rfl
          have hc := hρ.const
          have c1 : W.cell? ⟨p, 1, none⟩ = some (.slice A' xs.length c') := (hb.cell (p := ⟨p, 1, none⟩) hplt).trans C1.out
          have r0 : W.cell? ⟨w.heap.size, 0, none⟩ = some (.int .u64 y1) := (hb.cell (p := ⟨w.heap.size, 0, none⟩) HS2.out).trans R2.out
          have r1 : W.cell? ⟨w.heap.size, 1, none⟩ = some (.int .u64 y2) := (hb.cell (p := ⟨w.heap.size, 1, none⟩) HS2.out).trans R3.out
          rcases i with _ | _ | _ | _ | _ | _ | _ | _ | _ | i
          all_goals (first | omega | skip)
          all_goals simp only [List.getElem?_toArray, List.getElem?_cons_zero, List.getElem?_cons_succ, Option.some.injEq] at ho
          all_goals subst ho
          · exact stepTo_value (w' := W) (by unfold execOp; simp only [t0]; go_simp) ⟨Below.refl _ _, rfl⟩
          · exact stepTo_value (w' := W) (by unfold execOp; simp only [t0]; go_simp) ⟨Below.refl _ _, rfl⟩
          · have g1 : vs 1 = _ := hG 1 (by kernel_rfl)
            exact stepTo_value (w' := W) (by unfold execOp; simp only [s1, g1]; go_simp) ⟨Below.refl _ _, rfl⟩
          · have g2 : vs 2 = _ := hG 2 (by kernel_rfl)
            exact stepTo_value (w' := W) (by unfold execOp; simp only [s2, g2]; go_simp) ⟨Below.refl _ _, rfl⟩
          · have g3 : vs 3 = _ := hG 3 (by kernel_rfl)
            exact stepTo_value (w' := W) (by unfold execOp; simp only [s3, g3]; go_simp) ⟨Below.refl _ _, rfl⟩
          · exact stepTo_value (w' := W) (by unfold execOp; simp only [t4]; go_simp) ⟨Below.refl _ _, rfl⟩
          · exact stepTo_value (w' := W) (by unfold execOp; simp only [t8]; go_simp) ⟨Below.refl _ _, rfl⟩
          · have g5 : vs 5 = _ := hG 5 (by kernel_rfl)
            have g6 : vs 6 = _ := hG 6 (by kernel_rfl)
            exact stepTo_value (w' := W) (by unfold execOp; simp only [s5, g5, s6, g6]; go_simp) ⟨Below.refl _ _, rfl⟩
          · have g7 : vs 7 = _ := hG 7 (by kernel_rfl)
            refine stepTo_value (w' := W.alloc (.cells #[.int .u64 y1, .int .u64 y2, .slice (some ⟨gn, 0, none⟩) l.length cn, .bool false] 79)) (v := .slice (some ⟨W.heap.size, 0, none⟩) 1 1) (by unfold execOp; simp only [s7, g7]; go_simp) ⟨(Below.refl _ W).alloc (Nat.le_refl _) _, W.heap.size, rfl, Blk.new _ _ _⟩
        · intro vs W hb hG
          have g0 : vs 0 = _ := hG 0 (by decide)
          have g4 : vs 4 = _ := hG 4 (by decide)
          obtain ⟨bb, g8, hbk⟩ := hG 8 (by decide)
          have B2 := Lib.hid (HW3.out.trans (hb.mono HW3.out.size))
          have HR2 := Lib.hid (HR.out.keep hb.size (fun k hk => hb.block k (HR.out.low k hk)))
          have HNW := Lib.hid (news_4 _ _ _ _ _ _ _ hbk)
          have HT := Lib.hid (HTX.out.below hb)
          have HHB := Lib.hid hb
          simp only [putList, putSel, if_true]
          rw [g0, g4, g8]
          generalize vs 1 = z1
          generalize vs 2 = z2
          generalize vs 3 = z3
          generalize vs 5 = z5
          generalize vs 6 = z6
          generalize vs 7 = z7
          clear hG g0 g4 g8 hbk hb
          simp only [Act.put, List.setIfInBounds_toArray, List.set_cons_succ, List.set_cons_zero]
          refine wpAny_one (i := 9) (by kernel_rfl) rfl rfl ?_
          refine wp_append_at (.tmp 70) (.tmp 74) 74 rfl 0 79 i0 (.agg #[.int .u64 0, .int .u64 0, .slice none 0 0, .bool false]) 4 48 Try.underlying74 hi hz0 hz1 hz2 rfl (by decide) _ xs.length _ rfl HR2.out.row ⟨bb, 0, none⟩ 1 1 [.int .u64 y1, .int .u64 y2, .slice (some ⟨gn, 0, none⟩) l.length cn, .bool false] rfl rfl HNW.out ?_ (by unfold maxLen; omega) (by omega) (Nat.zero_le _) ?_
          · intro u hu
            simp at hu
            rcases hu with rfl | rfl | rfl | rfl <;> rfl
          intro v' w1 hown hgrow hv
          obtain ⟨A2, c2, rfl⟩ := own_form hown
          have HOWN : Hid (w1.ownsRow 0 79 4 (.slice A2 (xs.length + 1) c2) (xs.length + 1) (snRow xs ++ snV ((⟨g, l, false⟩ : Sn), gn, cn))) := by
            unfold Hid snV
            dsimp only
            rw [HY1.out, HY2.out]
            exact hown
          have HP := Lib.hid (RcAt.push (s := (⟨g, l, false⟩ : Sn)) HR2.out HT.out HGL.out HCN2.out HOWN.out hgrow hv)
          have HBU := Lib.hid ((Go.Proofs.Ytfinmfmbbgakhaa.ch.But.grow (But.of_below (S := own) B2.out) hgrow (fun k hk => .inl (HR.out.om k hk))).setCell ⟨p, 1, none⟩ (.slice A2 (xs.length + 1) c2) (.inl HR.out.op))
          have HOW := Lib.hid (own_push (own := own) (w := w) (w0 := W) (g := gn) (v := .slice A' xs.length c') (v' := .slice A2 (xs.length + 1) c2) HR.out.om (by have := HB1.out.size; have := HGN.out; omega) B2.out.size hv)
          have f1 : w1.frozen? ⟨p, 1, none⟩ = false := by
            have hp := HR2.out.low p HR2.out.op
            exact (HR2.out.blk.of_block (hgrow.block p hp (fun e => HR2.out.vp p e.symm rfl))).frozen 1
          obtain ⟨b1, hb1⟩ : ∃ z, w1.cell? ⟨p, 1, none⟩ = some z := by
            have hp := HR2.out.low p HR2.out.op
            exact ⟨_, (HR2.out.blk.of_block (hgrow.block p hp (fun e => HR2.out.vp p e.symm rfl))).cell 1⟩
          clear hown hgrow hv HOWN
          go_simp
          refine wpAny_one (i := 10) (by kernel_rfl) rfl rfl ?_
          go_simp
          refine wpAny_one (i := 11) (by kernel_rfl) rfl rfl ?_
          go_simp
          refine wpAny_one (i := 12) (by kernel_rfl) rfl rfl ?_
          go_simp
          refine ⟨by kernel_rfl, ?_⟩
          obtain ⟨W4, hW4⟩ : ∃ W, w1.setCell ⟨p, 1, none⟩ (.slice A2 (xs.length + 1) c2) = W := ⟨_, rfl⟩
          rw [hW4] at HP HBU ⊢
          clear hW4 f1 hb1
          have hmem : ((⟨g, l, false⟩ : Sn), gn, cn) ∈ xs ++ [((⟨g, l, false⟩ : Sn), gn, cn)] := by simp
          have hvl := HP.out.vols _ hmem
          have HO := Lib.hid (rown_any (some ⟨gn, 0, none⟩) cn l W4 hvl.txl (by rw [HLV.out.1]; exact HH0.out.n1) (by rw [HLV.out.1]; have := HH0.out.n8; omega) HCN2.out)
          clear hmem hvl
          go_wp2_with fail
          refine HO.out.mono ?_
          rintro e W5 ⟨g5, c5, rfl, hg5, hc5, ht5, hb5⟩
          have HP5 := Lib.hid (HP.out.keep hb5.size (fun j hj => hb5.block j (HP.out.low j hj)))
          have HRL := Lib.hid (HP5.out.relive ht5 hc5 (fun y hy e => by have := HP.out.low _ (HP.out.ov y hy); omega))
          have HBU5 := Lib.hid ((HBU.out.trans (But.of_below (S := fun _ => False) hb5) (fun _ h => h.elim)).setCell ⟨p, 0, none⟩ (.slice (some ⟨g5, 0, none⟩) l.length c5) (.inl HR.out.op))
          have HG5 : Hid (w.heap.size ≤ g5) := by unfold Hid; have := HBU.out.size; omega
          have f0 := HP5.out.blk.frozen 0
          obtain ⟨b0, hb0⟩ : ∃ z, W5.cell? ⟨p, 0, none⟩ = some z := ⟨_, HP5.out.blk.cell 0⟩
          clear hg5 hc5 ht5 hb5
          go_wp2_with fail
          go_ret
          rw [HSD2.out]
          refine ⟨rfl, _, ⟨ok_live (ok_push HH0.out (⟨g, l, false⟩ : Sn) (by have := HFEW.out; omega) HLV.out HG.out) HLV.out, g5, c5, _, _, HRL.out⟩, HBU5.out, fun j hj => ?_⟩
          rcases hj with hj | rfl
          · exact HOW.out j hj
          · exact .inr HG5.out
  · have hc : (m != 0) = true := by simpa using hz
    have hsn := HSN.out
    rw [if_neg hz] at hsn
    have HSD := Lib.hid hsn
    clear hsn HSN HMZ HI1
    go_wp2_with fail
    go_ret
    rw [HSD.out]
    exact HIW.out.same HB1.out rfl
end Go.Proofs.Ytfinmfmbbgakhaa.ch

