/- RcSame, ChSame. -/
import Derived.Test.YtfinmfmbbgakhaaQ10
import Derived.Test.YtfinmfmbbgakhaaQ2
import Derived.Test.YtfinmfmbbgakhaaQ4
import Derived.Test.YtfinmfmbbgakhaaQ7
import Derived.Test.YtfinmfmbbgakhaaQChLPlays1
import Derived.Deep.QuietTactic
import Derived.BigQuiet
import Derived.LoopTactic
import Derived.Laws.AppendOwn
/- Are two lists of guids alike; two of changes. -/
namespace Go.Proofs.Ytfinmfmbbgakhaa.ch
open Go Go.RowKit Go.Proofs.Ytfinmfmbbgakhaa.ib
set_option maxRecDepth 100000

set_option maxHeartbeats 1600000 in
theorem rguids_any (A A' : Option Addr) (c c' : Nat) (ps qs : List Gd) (w : World) (hp : GdL w A ps) (hq : GdL w A' qs) (hl : ps.length ≤ 9223372036854775807) :
    Calls Try.prog 43 #[.slice A ps.length c, .slice A' qs.length c'] w (okB (decide (ps = qs)) w) := by
  have HP := Lib.hid hp
  have HQ := Lib.hid hq
  clear hp hq
  by_cases hne : ps.length = qs.length
  · have HNE := Lib.hid hne
    have hlb : ((ps.length : Int) != (qs.length : Int)) = false := by rw [hne]; simp
    clear hne
    go_enter Try.func43, Try.ntmps43
    go_wp2_with fail
    go_loopw [5] (fun i wr => AlRel ps qs w i wr) (fun i _ => ps.length - (intOf i).toNat)
    case atStart => exact ⟨0, Nat.zero_le _, rfl, by simp, Below.refl _ _⟩
    case round =>
      obtain ⟨k, hk, rfl, he, hb⟩ := hrel
      have HE := Lib.hid he
      have HB := Lib.hid hb
      clear he hb
      by_cases hlt : k < ps.length
      · obtain ⟨b, o, rfl, hbl, hc, hd, _⟩ := HP.out k hlt
        have hlq : k < qs.length := by have := HNE.out; omega
        obtain ⟨b', o', rfl, hbl', hc', hd', _⟩ := HQ.out k hlq
        have h1 : ps.take (k + 1) = ps.take k ++ [ps[k]] := List.take_succ_eq_append_getElem hlt
        have h2 : qs.take (k + 1) = qs.take k ++ [qs[k]] := List.take_succ_eq_append_getElem hlq
        have hps : ps = qs → ps[k] = qs[k] := fun h => by subst h; rfl
        have HPS := Lib.hid hps
        have H1 := Lib.hid h1
        have H2 := Lib.hid h2
        have e0 : wr.cell? ⟨b, o + k * 2, none⟩ = some (.int .u64 (ps[k].1 : Int)) := by rw [HB.out.cell (p := ⟨b, o + k * 2, none⟩) hbl]; exact hc
        have e1 : wr.cell? ⟨b', o' + k * 2, none⟩ = some (.int .u64 (qs[k].1 : Int)) := by rw [HB.out.cell (p := ⟨b', o' + k * 2, none⟩) hbl']; exact hc'
        have e2 : wr.cell? ⟨b, o + k * 2 + 1, none⟩ = some (.int .u64 (ps[k].2 : Int)) := by rw [HB.out.cell (p := ⟨b, o + k * 2 + 1, none⟩) hbl]; exact hd
        have e3 : wr.cell? ⟨b', o' + k * 2 + 1, none⟩ = some (.int .u64 (qs[k].2 : Int)) := by rw [HB.out.cell (p := ⟨b', o' + k * 2 + 1, none⟩) hbl']; exact hd'
        have l0 : b < wr.heap.size := Nat.lt_of_lt_of_le hbl HB.out.size
        have l1 : b' < wr.heap.size := Nat.lt_of_lt_of_le hbl' HB.out.size
        have hklt : (k : Int) < (ps.length : Int) := by omega
        have hklq : (k : Int) < (qs.length : Int) := by omega
        clear hc hc' hd hd' h1 h2 hps
        generalize ps[k] = x at *
        generalize qs[k] = y at *
        have hx := gd_eq x y
        generalize (x.1 : Int) = x1 at *
        generalize (x.2 : Int) = x2 at *
        generalize (y.1 : Int) = y1 at *
        generalize (y.2 : Int) = y2 at *
        have HXY := Lib.hid hx
        obtain ⟨q1, hq1⟩ : ∃ q, (x1 == y1) = q := ⟨_, rfl⟩
        obtain ⟨q2, hq2⟩ : ∃ q, (x2 == y2) = q := ⟨_, rfl⟩
        have HQ1 : Hid (q1 = true → q2 = true → x = y) := fun h1 h2 => by
          have := HXY.out
          rw [hq1, hq2, h1, h2] at this
          simpa using this.symm
        have HQ2 : Hid ((q1 && q2) = false → decide (ps = qs) = false) := fun h => by
          have := HXY.out
          rw [hq1, hq2, h] at this
          refine decide_eq_false fun h3 => ?_
          rw [HPS.out h3] at this
          simp at this
        clear hx HXY
        by_cases hqq : q1 = true ∧ q2 = true
        · obtain ⟨rfl, rfl⟩ := hqq
          have HXE := Lib.hid (HQ1.out rfl rfl)
          clear HQ1 HQ2
          go_wp2_with fail
          go_quiet (fail)
          go_wp2_with fail
          go_roundw
          case rel => exact ⟨k + 1, by omega, by go_num, by rw [H1.out, H2.out, HE.out, HXE.out], by first | exact drewC HB.out _ | exact HB.out⟩
          case measure => simp [intOf]; omega
        · have hqb : (q1 && q2) = false := by cases q1 <;> cases q2 <;> simp at hqq ⊢
          have HD := Lib.hid (HQ2.out hqb)
          have hqs : (q1 = false) ∨ (q1 = true ∧ q2 = false) := by cases q1 <;> cases q2 <;> simp at hqq ⊢
          clear hqq hqb HQ1 HQ2
          rcases hqs with rfl | ⟨rfl, rfl⟩
          all_goals
            go_wp2_with fail
            go_quiet (fail)
            go_wp2_with fail
            go_ret
            rw [HD.out]
            exact ⟨rfl, by first | exact drewC HB.out _ | exact HB.out⟩
      · have hke : k = ps.length := by omega
        have hd : decide (ps = qs) = true := by
          refine decide_eq_true ?_
          have h := HE.out
          rw [hke, List.take_length, HNE.out, List.take_length] at h
          exact h
        have HD := Lib.hid hd
        clear hd
        go_wp2_with fail
        go_ret
        rw [HD.out]
        exact ⟨rfl, HB.out⟩
  · have hlb : ((ps.length : Int) != (qs.length : Int)) = true := by simp; omega
    have hd : decide (ps = qs) = false := decide_eq_false fun h => hne (by rw [h])
    have HD := Lib.hid hd
    clear hd hne
    go_enter Try.func43, Try.ntmps43
    go_wp2_with fail
    go_ret
    rw [HD.out]
    exact ⟨rfl, Below.refl _ _⟩
set_option maxHeartbeats 1600000 in
theorem rsame_any (A A' : Option Addr) (c c' : Nat) (ps qs : List (Int × Bt)) (w : World) (hp : ChL w A ps) (hq : ChL w A' qs) (hl : ps.length ≤ 9223372036854775807) :
    Calls Try.prog 42 #[.slice A ps.length c, .slice A' qs.length c'] w (okB (decide (ps = qs)) w) := by
  have HP := Lib.hid hp
  have HQ := Lib.hid hq
  clear hp hq
  by_cases hne : ps.length = qs.length
  · have HNE := Lib.hid hne
    have hlb : ((ps.length : Int) != (qs.length : Int)) = false := by rw [hne]; simp
    clear hne
    go_enter Try.func42, Try.ntmps42
    go_wp2_with fail
    go_loopw [5] (fun i wr => AlRel ps qs w i wr) (fun i _ => ps.length - (intOf i).toNat)
    case atStart => exact ⟨0, Nat.zero_le _, rfl, by simp, Below.refl _ _⟩
    case round =>
      obtain ⟨k, hk, rfl, he, hb⟩ := hrel
      have HE := Lib.hid he
      have HB := Lib.hid hb
      clear he hb
      by_cases hlt : k < ps.length
      · obtain ⟨b, o, rfl, hbl, hc, hd, _⟩ := HP.out k hlt
        have hlq : k < qs.length := by have := HNE.out; omega
        obtain ⟨b', o', rfl, hbl', hc', hd', _⟩ := HQ.out k hlq
        have h1 : ps.take (k + 1) = ps.take k ++ [ps[k]] := List.take_succ_eq_append_getElem hlt
        have h2 : qs.take (k + 1) = qs.take k ++ [qs[k]] := List.take_succ_eq_append_getElem hlq
        have hps : ps = qs → ps[k] = qs[k] := fun h => by subst h; rfl
        have HPS := Lib.hid hps
        have H1 := Lib.hid h1
        have H2 := Lib.hid h2
        have e0 : wr.cell? ⟨b, o + k * 2, none⟩ = some (.int .i64 ps[k].1) := by rw [HB.out.cell (p := ⟨b, o + k * 2, none⟩) hbl]; exact hc
        have e1 : wr.cell? ⟨b', o' + k * 2, none⟩ = some (.int .i64 qs[k].1) := by rw [HB.out.cell (p := ⟨b', o' + k * 2, none⟩) hbl']; exact hc'
        have e2 : wr.cell? ⟨b, o + k * 2 + 1, none⟩ = some (.string (str ps[k].2)) := by rw [HB.out.cell (p := ⟨b, o + k * 2 + 1, none⟩) hbl]; exact hd
        have e3 : wr.cell? ⟨b', o' + k * 2 + 1, none⟩ = some (.string (str qs[k].2)) := by rw [HB.out.cell (p := ⟨b', o' + k * 2 + 1, none⟩) hbl']; exact hd'
        have l0 : b < wr.heap.size := Nat.lt_of_lt_of_le hbl HB.out.size
        have l1 : b' < wr.heap.size := Nat.lt_of_lt_of_le hbl' HB.out.size
        have hklt : (k : Int) < (ps.length : Int) := by omega
        have hklq : (k : Int) < (qs.length : Int) := by omega
        clear hc hc' hd hd' h1 h2 hps
        generalize ps[k] = x at *
        generalize qs[k] = y at *
        have hx := chg_eq x y
        generalize x.1 = x1 at *
        generalize str x.2 = x2 at *
        generalize y.1 = y1 at *
        generalize str y.2 = y2 at *
        have HXY := Lib.hid hx
        obtain ⟨q1, hq1⟩ : ∃ q, (x1 == y1) = q := ⟨_, rfl⟩
        obtain ⟨q2, hq2⟩ : ∃ q, (x2.toList == y2.toList) = q := ⟨_, rfl⟩
        have HQ1 : Hid (q1 = true → q2 = true → x = y) := fun h1 h2 => by
          have := HXY.out
          rw [hq1, hq2, h1, h2] at this
          simpa using this.symm
        have HQ2 : Hid ((q1 && q2) = false → decide (ps = qs) = false) := fun h => by
          have := HXY.out
          rw [hq1, hq2, h] at this
          refine decide_eq_false fun h3 => ?_
          rw [HPS.out h3] at this
          simp at this
        clear hx HXY
        by_cases hqq : q1 = true ∧ q2 = true
        · obtain ⟨rfl, rfl⟩ := hqq
          have HXE := Lib.hid (HQ1.out rfl rfl)
          clear HQ1 HQ2
          go_wp2_with fail
          go_quiet (fail)
          go_wp2_with fail
          go_roundw
          case rel => exact ⟨k + 1, by omega, by go_num, by rw [H1.out, H2.out, HE.out, HXE.out], by first | exact drewC HB.out _ | exact HB.out⟩
          case measure => simp [intOf]; omega
        · have hqb : (q1 && q2) = false := by cases q1 <;> cases q2 <;> simp at hqq ⊢
          have HD := Lib.hid (HQ2.out hqb)
          have hqs : (q1 = false) ∨ (q1 = true ∧ q2 = false) := by cases q1 <;> cases q2 <;> simp at hqq ⊢
          clear hqq hqb HQ1 HQ2
          rcases hqs with rfl | ⟨rfl, rfl⟩
          all_goals
            go_wp2_with fail
            go_quiet (fail)
            go_wp2_with fail
            go_ret
            rw [HD.out]
            exact ⟨rfl, by first | exact drewC HB.out _ | exact HB.out⟩
      · have hke : k = ps.length := by omega
        have hd : decide (ps = qs) = true := by
          refine decide_eq_true ?_
          have h := HE.out
          rw [hke, List.take_length, HNE.out, List.take_length] at h
          exact h
        have HD := Lib.hid hd
        clear hd
        go_wp2_with fail
        go_ret
        rw [HD.out]
        exact ⟨rfl, HB.out⟩
  · have hlb : ((ps.length : Int) != (qs.length : Int)) = true := by simp; omega
    have hd : decide (ps = qs) = false := decide_eq_false fun h => hne (by rw [h])
    have HD := Lib.hid hd
    clear hd hne
    go_enter Try.func42, Try.ntmps42
    go_wp2_with fail
    go_ret
    rw [HD.out]
    exact ⟨rfl, Below.refl _ _⟩
end Go.Proofs.Ytfinmfmbbgakhaa.ch

/- What same of the statements does: both chains tell the same. -/
namespace Go.Proofs.Ytfinmfmbbgakhaa.ch
open Go Go.RowKit Go.Proofs.Ytfinmfmbbgakhaa.ib
set_option maxRecDepth 100000

theorem read_len {d : CH} (h : d.ok) (g : Gd) : (d.read g).1.length ≤ 8 := by
  unfold CH.read
  split
  · simp
  · split
    · simp
    · rename_i s hs
      split
      · simp
      · show s.bs.length ≤ 8
        rw [(h.snaps s (List.mem_of_getElem? hs)).1]
        exact h.n8
theorem vol_len {d : CH} (h : d.ok) (k : Nat) : (d.volAt k).length ≤ 8 := by
  unfold CH.volAt
  split
  · simp
  · rename_i s hs
    rw [(h.snaps s (List.mem_of_getElem? hs)).1]
    exact h.n8
theorem changes_len {d : CH} (h : d.ok) (k : Int) : (d.changes k).1.length ≤ 8 := by
  unfold CH.changes
  split
  · simp
  · exact Nat.le_trans (Nat.le_trans (List.length_filterMap_le _ _) (by rw [List.length_range]; exact Nat.le_refl _)) (vol_len h _)
theorem list_len {d : CH} (h : d.ok) : d.list.length ≤ 20 := by
  unfold CH.list
  rw [List.length_map]
  exact h.few

def SmG (p q : Nat) (d : CH) (r1 : List Bt) (r2 : List (Int × Bt)) (e1 e2 : Int) (A1 A2 A3 A4 : Option Addr) (cc1 cc2 cc3 cc4 : Nat) : Nat → Value → World → Prop
  | 0, v, _ => v = .slice A1 r1.length cc1
  | 1, v, _ => v = .slice A2 r1.length cc2
  | 2, v, _ => v = .bool true
  | 3, v, _ => v = .bool true
  | 4, v, _ => v = .int .i64 e1
  | 5, v, _ => v = .int .i64 e1
  | 6, v, _ => v = .bool true
  | 7, v, _ => v = .bool true
  | 8, v, _ => v = .bool true
  | 9, v, _ => v = .slice A3 r2.length cc3
  | 10, v, _ => v = .slice A4 r2.length cc4
  | 11, v, _ => v = .bool true
  | 12, v, _ => v = .bool true
  | 13, v, _ => v = .bool true
  | 14, v, _ => v = .int .i64 e2
  | 15, v, _ => v = .int .i64 e2
  | 16, v, _ => v = .bool true
  | 17, v, _ => v = .bool true
  | 18, v, _ => v = .bool true
  | 19, v, _ => v = .pointer (some ⟨p, 0, none⟩)
  | 20, v, W => ∃ A c, v = .slice A d.list.length c ∧ GdL W A d.list
  | 21, v, _ => v = .pointer (some ⟨q, 0, none⟩)
  | 22, v, W => ∃ A c, v = .slice A d.list.length c ∧ GdL W A d.list
  | 23, v, _ => v = .bool true
  | 24, v, _ => v = .bool true
  | 25, v, _ => v = .bool true
  | 26, v, _ => v = .pointer (some ⟨p, 0, none⟩)
  | 27, v, W => ∃ A c, v = .slice A d.live.length c ∧ TxL W A d.live
  | 28, v, _ => v = .pointer (some ⟨q, 0, none⟩)
  | 29, v, _ => v = .pointer (some ⟨q, 0, none⟩)
  | 30, v, _ => v = .pointer (some ⟨q, 0, none⟩)
  | 31, v, W => ∃ B c, v = .slice (some ⟨B, 0, none⟩) d.live.length c ∧ TxB W B d.live
  | 32, v, _ => v = .bool true
  | 33, v, _ => v = .bool true
  | 34, v, _ => v = .bool true
  | _, _, _ => True
theorem SmG_mono (p q : Nat) (d : CH) (r1 : List Bt) (r2 : List (Int × Bt)) (e1 e2 : Int) (A1 A2 A3 A4 : Option Addr) (cc1 cc2 cc3 cc4 : Nat) (i : Nat) (v : Value) (w w' : World) (hi : i < 35) (h : SmG p q d r1 r2 e1 e2 A1 A2 A3 A4 cc1 cc2 cc3 cc4 i v w) (hb : Below w.heap.size w w') : SmG p q d r1 r2 e1 e2 A1 A2 A3 A4 cc1 cc2 cc3 cc4 i v w' := by
  match i, hi, h with
  | 0, _, h | 1, _, h | 2, _, h | 3, _, h | 4, _, h | 5, _, h | 6, _, h | 7, _, h | 8, _, h | 9, _, h | 10, _, h | 11, _, h | 12, _, h | 13, _, h | 14, _, h | 15, _, h | 16, _, h | 17, _, h | 18, _, h | 19, _, h | 21, _, h | 23, _, h | 24, _, h | 25, _, h | 26, _, h | 28, _, h | 29, _, h | 30, _, h | 32, _, h | 33, _, h | 34, _, h => exact h
  | 20, _, ⟨A, c, hv, h2⟩ => exact ⟨A, c, hv, h2.below hb⟩
  | 22, _, ⟨A, c, hv, h2⟩ => exact ⟨A, c, hv, h2.below hb⟩
  | 27, _, ⟨A, c, hv, h2⟩ => exact ⟨A, c, hv, h2.below hb⟩
  | 31, _, ⟨B, c, hv, h2⟩ => exact ⟨B, c, hv, h2.of_block (hb.block _ h2.lt)⟩
  | j + 35, hi, _ => exact absurd hi (by omega)

set_option maxRecDepth 100000 in
set_option maxHeartbeats 6400000 in
theorem same_any {Is : IsT} (H : Impl Is) {m p q : Nat} {X : Nat → Prop} {w : World} {d : CH} (h : Tw Is w m p q d d X) (g : Gd) (hg : gdB g) (n : Int) (hn : b64 n) :
    Calls Try.prog 17 #[.pointer (some ⟨p, 0, none⟩), .pointer (some ⟨q, 0, none⟩), gv g, .int .i64 n] w (okB true w) := by
  have HOK := Lib.hid (tw_okl H h)
  obtain ⟨own, own2, hd, hr, _⟩ := h
  have HDK : Hid (∀ W, Below w.heap.size w W → Is own W p d) := fun W hb => H.keep hd (fun j hj => hb.block j (H.low hd j hj)) hb.size
  have HRK : Hid (∀ W, Below w.heap.size w W → RcIs own2 W q d) := fun W hb => hr.below hb
  clear hd hr
  obtain ⟨y1, hy1⟩ : ∃ y, (g.1 : Int) = y := ⟨_, rfl⟩
  obtain ⟨y2, hy2⟩ : ∃ y, (g.2 : Int) = y := ⟨_, rfl⟩
  have hgv : gv g = .agg #[.int .u64 y1, .int .u64 y2] := by unfold gv; rw [hy1, hy2]
  clear hy1 hy2
  have HB0 := Lib.hid ((Below.refl w.heap.size w).alloc (Nat.le_refl _) (.cells #[.int .u64 y1, .int .u64 y2] 37))
  have HA0 := Lib.hid (Blk.new w 37 #[.int .u64 y1, .int .u64 y2])
  obtain ⟨w0, hw0⟩ : ∃ x, w.alloc (.cells #[.int .u64 y1, .int .u64 y2] 37) = x := ⟨_, rfl⟩
  rw [hw0] at HB0 HA0
  rw [hgv]
  have HGV := Lib.hid hgv
  clear hgv
  obtain ⟨r1, e1, hR1⟩ : ∃ r e, d.read g = (r, e) := ⟨_, _, rfl⟩
  obtain ⟨r2, e2, hR2⟩ : ∃ r e, d.changes n = (r, e) := ⟨_, _, rfl⟩
  have HL1 : Hid (r1.length ≤ 9223372036854775807) := by have := read_len HOK.out g; rw [hR1] at this; exact Nat.le_trans this (by decide)
  have HL2 : Hid (r2.length ≤ 9223372036854775807) := by have := changes_len HOK.out n; rw [hR2] at this; exact Nat.le_trans this (by decide)
  have HL3 : Hid (d.list.length ≤ 9223372036854775807) := Nat.le_trans (list_len HOK.out) (by decide)
  have HL4 : Hid (d.live.length ≤ 9223372036854775807) := Nat.le_trans HOK.out.n8 (by decide)
  have HR1 := Lib.hid hR1
  have HR2 := Lib.hid hR2
  clear hR1 hR2
  have c0 := HA0.out.cell 0
  have c1 := HA0.out.cell 1
  simp only [List.getElem?_toArray, List.getElem?_cons_zero, List.getElem?_cons_succ] at c0 c1
  have hlt := HA0.out.lt
  go_enter Try.func17, Try.ntmps17
  go_wp2_with fail
  try rw [hw0]
  clear hw0
  have hc := H.read g (HDK.out w0 HB0.out) hg
  rw [HR1.out, HGV.out] at hc
  refine hc.mono ?_
  clear hc
  rintro e W1 ⟨A1, cc1, rfl, h1, _, hb1⟩
  have HB1 := Lib.hid (below_step HB0.out hb1)
  have HA1 := Lib.hid (HA0.out.below hb1)
  have H1 := Lib.hid h1
  have c0 := HA1.out.cell 0
  have c1 := HA1.out.cell 1
  simp only [List.getElem?_toArray, List.getElem?_cons_zero, List.getElem?_cons_succ] at c0 c1
  have hlt := HA1.out.lt
  dsimp only
  clear h1 hb1 HA0
  go_wp2_with fail
  have hc := rread_any (HRK.out W1 HB1.out) g
  rw [HR1.out, HGV.out] at hc
  refine hc.mono ?_
  clear hc c0 c1
  rintro e W2 ⟨A2, cc2, rfl, h2, _, hb2⟩
  have HB2 := Lib.hid (below_step HB1.out hb2)
  have H2 := Lib.hid h2
  have H1 := Lib.hid (H1.out.below hb2)
  dsimp only
  clear h2 hb2
  go_wp2_with fail
  have hc := H.changes n (HDK.out W2 HB2.out) hn
  rw [HR2.out] at hc
  refine hc.mono ?_
  clear hc
  rintro e W3 ⟨A3, cc3, rfl, h3, _, hb3⟩
  have HB3 := Lib.hid (below_step HB2.out hb3)
  have H3 := Lib.hid h3
  have H1 := Lib.hid (H1.out.below hb3)
  have H2 := Lib.hid (H2.out.below hb3)
  dsimp only
  clear h3 hb3
  go_wp2_with fail
  have hc := rchanges_any (HRK.out W3 HB3.out) n
  rw [HR2.out] at hc
  refine hc.mono ?_
  clear hc
  rintro e W4 ⟨A4, cc4, rfl, h4, _, hb4⟩
  have HB4 := Lib.hid (below_step HB3.out hb4)
  have H4 := Lib.hid h4
  have H1 := Lib.hid (H1.out.below hb4)
  have H2 := Lib.hid (H2.out.below hb4)
  have H3 := Lib.hid (H3.out.below hb4)
  dsimp only
  clear h4 hb4
  go_wp2_with fail
  refine wp_region_inv (by kernel_rfl) [41, 42, 43, 44, 45, 46, 47, 48, 49, 50, 51, 52, 53, 54, 55, 56, 57, 58, 59, 60, 61, 62, 63, 64, 65, 66, 67, 68, 69, 70, 71, 72, 73, 74, 8] (by kernel_rfl) (fun L vs W => Below W4.heap.size W4 W ∧ ∀ i, L i = true → i < 35 → SmG p q d r1 r2 e1 e2 A1 A2 A3 A4 cc1 cc2 cc3 cc4 i (vs i) W) ⟨(Below.refl _ _).drew, fun i hi => by cases hi⟩ ?_ ?_ ?_
  · intro i o L vs ρ W ho hli haft hρ hgd hI
    obtain ⟨hb, hG'⟩ := hI
    have hG : ∀ j, L j = true → SmG p q d r1 r2 e1 e2 A1 A2 A3 A4 cc1 cc2 cc3 cc4 j (vs j) W := fun j hj => by
      by_cases h51 : j < 35
      · exact hG' j hj h51
      · match j, h51 with
        | j + 35, _ => exact trivial
    have hi51 : i < 35 := (Array.getElem?_eq_some_iff.1 ho).1
    have hc := hρ.const
    have hfn := hρ.fn
    have next : ∀ v W', Below W.heap.size W W' → SmG p q d r1 r2 e1 e2 A1 A2 A3 A4 cc1 cc2 cc3 cc4 i v W' → Below W4.heap.size W4 W' ∧ ∀ j, updB L i j = true → j < 35 → SmG p q d r1 r2 e1 e2 A1 A2 A3 A4 cc1 cc2 cc3 cc4 j (updV vs i v j) W' := fun v W' h1 h2 => by
      refine ⟨below_step hb h1, fun j hj h51 => ?_⟩
      by_cases hji : j = i
      · subst hji
        simpa [updV] using h2
      · simp only [updB, if_neg hji] at hj
        simpa [updV, hji] using SmG_mono p q d r1 r2 e1 e2 A1 A2 A3 A4 cc1 cc2 cc3 cc4 j _ W W' h51 (hG' j hj h51) h1
    have hbw := below_step HB4.out hb
    rcases i with _ | _ | _ | _ | _ | _ | _ | _ | _ | _ | _ | _ | _ | _ | _ | _ | _ | _ | _ | _ | _ | _ | _ | _ | _ | _ | _ | _ | _ | _ | _ | _ | _ | _ | _ | i
    all_goals (first | omega | skip)
    all_goals simp only [List.getElem?_toArray, List.getElem?_cons_zero, List.getElem?_cons_succ, Option.some.injEq] at ho
    all_goals subst ho
    · have o9 : ρ (.tmp 9) = .slice A1 r1.length cc1 := hρ.out 9 rfl
      exact stepTo_value (w' := W) (by unfold execOp; simp only [o9, hc]; go_simp) (next _ _ (Below.refl _ _) rfl)
    · have o11 : ρ (.tmp 11) = .slice A2 r1.length cc2 := hρ.out 11 rfl
      exact stepTo_value (w' := W) (by unfold execOp; simp only [o11, hc]; go_simp) (next _ _ (Below.refl _ _) rfl)
    · have g41 : SmG p q d r1 r2 e1 e2 A1 A2 A3 A4 cc1 cc2 cc3 cc4 0 (vs 0) W := hG 0 (haft 0 (by kernel_rfl))
      have s41 : ρ (.tmp 41) = .slice A1 r1.length cc1 := (hρ.at_ 41 0 rfl).trans g41
      have g42 : SmG p q d r1 r2 e1 e2 A1 A2 A3 A4 cc1 cc2 cc3 cc4 1 (vs 1) W := hG 1 (haft 1 (by kernel_rfl))
      have s42 : ρ (.tmp 42) = .slice A2 r1.length cc2 := (hρ.at_ 42 1 rfl).trans g42
      refine stepTo_enter (f := 41) (args := #[.slice A1 r1.length cc1, .slice A2 r1.length cc2]) (w' := W) (by unfold execOp; simp only [hfn, s41, s42]; go_simp) ((rtexts_any A1 A2 cc1 cc2 r1 r1 W (H1.out.below hb) (H2.out.below hb) HL1.out).mono ?_)
      rintro x W' ⟨rfl, hb'⟩
      exact ⟨_, rfl, next _ _ hb' (by simp [SmG])⟩
    · have g43 : SmG p q d r1 r2 e1 e2 A1 A2 A3 A4 cc1 cc2 cc3 cc4 2 (vs 2) W := hG 2 (haft 2 (by kernel_rfl))
      have s43 : ρ (.tmp 43) = .bool true := (hρ.at_ 43 2 rfl).trans g43
      exact stepTo_value (w' := W) (by unfold execOp; simp only [s43, hc]; go_simp) (next _ _ (Below.refl _ _) rfl)
    · have o10 : ρ (.tmp 10) = .int .i64 e1 := hρ.out 10 rfl
      exact stepTo_value (w' := W) (by unfold execOp; simp only [o10, hc]; go_simp) (next _ _ (Below.refl _ _) rfl)
    · have o12 : ρ (.tmp 12) = .int .i64 e1 := hρ.out 12 rfl
      exact stepTo_value (w' := W) (by unfold execOp; simp only [o12, hc]; go_simp) (next _ _ (Below.refl _ _) rfl)
    · have g45 : SmG p q d r1 r2 e1 e2 A1 A2 A3 A4 cc1 cc2 cc3 cc4 4 (vs 4) W := hG 4 (haft 4 (by kernel_rfl))
      have s45 : ρ (.tmp 45) = .int .i64 e1 := (hρ.at_ 45 4 rfl).trans g45
      have g46 : SmG p q d r1 r2 e1 e2 A1 A2 A3 A4 cc1 cc2 cc3 cc4 5 (vs 5) W := hG 5 (haft 5 (by kernel_rfl))
      have s46 : ρ (.tmp 46) = .int .i64 e1 := (hρ.at_ 46 5 rfl).trans g46
      exact stepTo_value (w' := W) (by unfold execOp; simp only [s45, s46, hc]; go_simp) (next _ _ (Below.refl _ _) rfl)
    · have g44 : SmG p q d r1 r2 e1 e2 A1 A2 A3 A4 cc1 cc2 cc3 cc4 3 (vs 3) W := hG 3 (haft 3 (by kernel_rfl))
      have s44 : ρ (.tmp 44) = .bool true := (hρ.at_ 44 3 rfl).trans g44
      have g47 : SmG p q d r1 r2 e1 e2 A1 A2 A3 A4 cc1 cc2 cc3 cc4 6 (vs 6) W := hG 6 (haft 6 (by kernel_rfl))
      have s47 : ρ (.tmp 47) = .bool true := (hρ.at_ 47 6 rfl).trans g47
      exact stepTo_value (w' := W) (by unfold execOp; simp only [s44, s47, hc]; go_simp) (next _ _ (Below.refl _ _) rfl)
    · have g48 : SmG p q d r1 r2 e1 e2 A1 A2 A3 A4 cc1 cc2 cc3 cc4 7 (vs 7) W := hG 7 (haft 7 (by kernel_rfl))
      have s48 : ρ (.tmp 48) = .bool true := (hρ.at_ 48 7 rfl).trans g48
      exact stepTo_value (w' := W) (by unfold execOp; simp only [s48, hc]; go_simp) (next _ _ (Below.refl _ _) rfl)
    · have o13 : ρ (.tmp 13) = .slice A3 r2.length cc3 := hρ.out 13 rfl
      exact stepTo_value (w' := W) (by unfold execOp; simp only [o13, hc]; go_simp) (next _ _ (Below.refl _ _) rfl)
    · have o15 : ρ (.tmp 15) = .slice A4 r2.length cc4 := hρ.out 15 rfl
      exact stepTo_value (w' := W) (by unfold execOp; simp only [o15, hc]; go_simp) (next _ _ (Below.refl _ _) rfl)
    · have g50 : SmG p q d r1 r2 e1 e2 A1 A2 A3 A4 cc1 cc2 cc3 cc4 9 (vs 9) W := hG 9 (haft 9 (by kernel_rfl))
      have s50 : ρ (.tmp 50) = .slice A3 r2.length cc3 := (hρ.at_ 50 9 rfl).trans g50
      have g51 : SmG p q d r1 r2 e1 e2 A1 A2 A3 A4 cc1 cc2 cc3 cc4 10 (vs 10) W := hG 10 (haft 10 (by kernel_rfl))
      have s51 : ρ (.tmp 51) = .slice A4 r2.length cc4 := (hρ.at_ 51 10 rfl).trans g51
      refine stepTo_enter (f := 42) (args := #[.slice A3 r2.length cc3, .slice A4 r2.length cc4]) (w' := W) (by unfold execOp; simp only [hfn, s50, s51]; go_simp) ((rsame_any A3 A4 cc3 cc4 r2 r2 W (H3.out.below hb) (H4.out.below hb) HL2.out).mono ?_)
      rintro x W' ⟨rfl, hb'⟩
      exact ⟨_, rfl, next _ _ hb' (by simp [SmG])⟩
    · have g49 : SmG p q d r1 r2 e1 e2 A1 A2 A3 A4 cc1 cc2 cc3 cc4 8 (vs 8) W := hG 8 (haft 8 (by kernel_rfl))
      have s49 : ρ (.tmp 49) = .bool true := (hρ.at_ 49 8 rfl).trans g49
      have g52 : SmG p q d r1 r2 e1 e2 A1 A2 A3 A4 cc1 cc2 cc3 cc4 11 (vs 11) W := hG 11 (haft 11 (by kernel_rfl))
      have s52 : ρ (.tmp 52) = .bool true := (hρ.at_ 52 11 rfl).trans g52
      exact stepTo_value (w' := W) (by unfold execOp; simp only [s49, s52, hc]; go_simp) (next _ _ (Below.refl _ _) rfl)
    · have g53 : SmG p q d r1 r2 e1 e2 A1 A2 A3 A4 cc1 cc2 cc3 cc4 12 (vs 12) W := hG 12 (haft 12 (by kernel_rfl))
      have s53 : ρ (.tmp 53) = .bool true := (hρ.at_ 53 12 rfl).trans g53
      exact stepTo_value (w' := W) (by unfold execOp; simp only [s53, hc]; go_simp) (next _ _ (Below.refl _ _) rfl)
    · have o14 : ρ (.tmp 14) = .int .i64 e2 := hρ.out 14 rfl
      exact stepTo_value (w' := W) (by unfold execOp; simp only [o14, hc]; go_simp) (next _ _ (Below.refl _ _) rfl)
    · have o16 : ρ (.tmp 16) = .int .i64 e2 := hρ.out 16 rfl
      exact stepTo_value (w' := W) (by unfold execOp; simp only [o16, hc]; go_simp) (next _ _ (Below.refl _ _) rfl)
    · have g55 : SmG p q d r1 r2 e1 e2 A1 A2 A3 A4 cc1 cc2 cc3 cc4 14 (vs 14) W := hG 14 (haft 14 (by kernel_rfl))
      have s55 : ρ (.tmp 55) = .int .i64 e2 := (hρ.at_ 55 14 rfl).trans g55
      have g56 : SmG p q d r1 r2 e1 e2 A1 A2 A3 A4 cc1 cc2 cc3 cc4 15 (vs 15) W := hG 15 (haft 15 (by kernel_rfl))
      have s56 : ρ (.tmp 56) = .int .i64 e2 := (hρ.at_ 56 15 rfl).trans g56
      exact stepTo_value (w' := W) (by unfold execOp; simp only [s55, s56, hc]; go_simp) (next _ _ (Below.refl _ _) rfl)
    · have g54 : SmG p q d r1 r2 e1 e2 A1 A2 A3 A4 cc1 cc2 cc3 cc4 13 (vs 13) W := hG 13 (haft 13 (by kernel_rfl))
      have s54 : ρ (.tmp 54) = .bool true := (hρ.at_ 54 13 rfl).trans g54
      have g57 : SmG p q d r1 r2 e1 e2 A1 A2 A3 A4 cc1 cc2 cc3 cc4 16 (vs 16) W := hG 16 (haft 16 (by kernel_rfl))
      have s57 : ρ (.tmp 57) = .bool true := (hρ.at_ 57 16 rfl).trans g57
      exact stepTo_value (w' := W) (by unfold execOp; simp only [s54, s57, hc]; go_simp) (next _ _ (Below.refl _ _) rfl)
    · have g58 : SmG p q d r1 r2 e1 e2 A1 A2 A3 A4 cc1 cc2 cc3 cc4 17 (vs 17) W := hG 17 (haft 17 (by kernel_rfl))
      have s58 : ρ (.tmp 58) = .bool true := (hρ.at_ 58 17 rfl).trans g58
      exact stepTo_value (w' := W) (by unfold execOp; simp only [s58, hc]; go_simp) (next _ _ (Below.refl _ _) rfl)
    · have o0 : ρ (.tmp 0) = .pointer (some ⟨p, 0, none⟩) := hρ.out 0 rfl
      exact stepTo_value (w' := W) (by unfold execOp; simp only [o0, hc]; go_simp) (next _ _ (Below.refl _ _) rfl)
    · have g60 : SmG p q d r1 r2 e1 e2 A1 A2 A3 A4 cc1 cc2 cc3 cc4 19 (vs 19) W := hG 19 (haft 19 (by kernel_rfl))
      have s60 : ρ (.tmp 60) = .pointer (some ⟨p, 0, none⟩) := (hρ.at_ 60 19 rfl).trans g60
      refine stepTo_enter (f := 25) (args := #[.pointer (some ⟨p, 0, none⟩)]) (w' := W) (by unfold execOp; simp only [hfn, s60]; go_simp) ((H.list (HDK.out W hbw)).mono ?_)
      rintro x W' ⟨A, cc, rfl, hx, _, hb'⟩
      exact ⟨_, rfl, next _ _ hb' ⟨A, cc, rfl, hx⟩⟩
    · have o1 : ρ (.tmp 1) = .pointer (some ⟨q, 0, none⟩) := hρ.out 1 rfl
      exact stepTo_value (w' := W) (by unfold execOp; simp only [o1, hc]; go_simp) (next _ _ (Below.refl _ _) rfl)
    · have g62 : SmG p q d r1 r2 e1 e2 A1 A2 A3 A4 cc1 cc2 cc3 cc4 21 (vs 21) W := hG 21 (haft 21 (by kernel_rfl))
      have s62 : ρ (.tmp 62) = .pointer (some ⟨q, 0, none⟩) := (hρ.at_ 62 21 rfl).trans g62
      refine stepTo_enter (f := 44) (args := #[.pointer (some ⟨q, 0, none⟩)]) (w' := W) (by unfold execOp; simp only [hfn, s62]; go_simp) ((rlist_any (HRK.out W hbw)).mono ?_)
      rintro x W' ⟨A, cc, rfl, hx, _, hb'⟩
      exact ⟨_, rfl, next _ _ hb' ⟨A, cc, rfl, hx⟩⟩
    · obtain ⟨A61, c61, g61, hh612⟩ : SmG p q d r1 r2 e1 e2 A1 A2 A3 A4 cc1 cc2 cc3 cc4 20 (vs 20) W := hG 20 (haft 20 (by kernel_rfl))
      have s61 : ρ (.tmp 61) = .slice A61 d.list.length c61 := (hρ.at_ 61 20 rfl).trans g61
      obtain ⟨A63, c63, g63, hh632⟩ : SmG p q d r1 r2 e1 e2 A1 A2 A3 A4 cc1 cc2 cc3 cc4 22 (vs 22) W := hG 22 (haft 22 (by kernel_rfl))
      have s63 : ρ (.tmp 63) = .slice A63 d.list.length c63 := (hρ.at_ 63 22 rfl).trans g63
      refine stepTo_enter (f := 43) (args := #[.slice A61 d.list.length c61, .slice A63 d.list.length c63]) (w' := W) (by unfold execOp; simp only [hfn, s61, s63]; go_simp) ((rguids_any A61 A63 c61 c63 d.list d.list W hh612 hh632 HL3.out).mono ?_)
      rintro x W' ⟨rfl, hb'⟩
      exact ⟨_, rfl, next _ _ hb' (by simp [SmG])⟩
    · have g59 : SmG p q d r1 r2 e1 e2 A1 A2 A3 A4 cc1 cc2 cc3 cc4 18 (vs 18) W := hG 18 (haft 18 (by kernel_rfl))
      have s59 : ρ (.tmp 59) = .bool true := (hρ.at_ 59 18 rfl).trans g59
      have g64 : SmG p q d r1 r2 e1 e2 A1 A2 A3 A4 cc1 cc2 cc3 cc4 23 (vs 23) W := hG 23 (haft 23 (by kernel_rfl))
      have s64 : ρ (.tmp 64) = .bool true := (hρ.at_ 64 23 rfl).trans g64
      exact stepTo_value (w' := W) (by unfold execOp; simp only [s59, s64, hc]; go_simp) (next _ _ (Below.refl _ _) rfl)
    · have g65 : SmG p q d r1 r2 e1 e2 A1 A2 A3 A4 cc1 cc2 cc3 cc4 24 (vs 24) W := hG 24 (haft 24 (by kernel_rfl))
      have s65 : ρ (.tmp 65) = .bool true := (hρ.at_ 65 24 rfl).trans g65
      exact stepTo_value (w' := W) (by unfold execOp; simp only [s65, hc]; go_simp) (next _ _ (Below.refl _ _) rfl)
    · have o0 : ρ (.tmp 0) = .pointer (some ⟨p, 0, none⟩) := hρ.out 0 rfl
      exact stepTo_value (w' := W) (by unfold execOp; simp only [o0, hc]; go_simp) (next _ _ (Below.refl _ _) rfl)
    · have g67 : SmG p q d r1 r2 e1 e2 A1 A2 A3 A4 cc1 cc2 cc3 cc4 26 (vs 26) W := hG 26 (haft 26 (by kernel_rfl))
      have s67 : ρ (.tmp 67) = .pointer (some ⟨p, 0, none⟩) := (hρ.at_ 67 26 rfl).trans g67
      refine stepTo_enter (f := 21) (args := #[.pointer (some ⟨p, 0, none⟩)]) (w' := W) (by unfold execOp; simp only [hfn, s67]; go_simp) ((H.live (HDK.out W hbw)).mono ?_)
      rintro x W' ⟨A, cc, rfl, hx, _, hb'⟩
      exact ⟨_, rfl, next _ _ hb' ⟨A, cc, rfl, hx⟩⟩
    · have o1 : ρ (.tmp 1) = .pointer (some ⟨q, 0, none⟩) := hρ.out 1 rfl
      exact stepTo_value (w' := W) (by unfold execOp; simp only [o1, hc]; go_simp) (next _ _ (Below.refl _ _) rfl)
    · have g69 : SmG p q d r1 r2 e1 e2 A1 A2 A3 A4 cc1 cc2 cc3 cc4 28 (vs 28) W := hG 28 (haft 28 (by kernel_rfl))
      have s69 : ρ (.tmp 69) = .pointer (some ⟨q, 0, none⟩) := (hρ.at_ 69 28 rfl).trans g69
      exact stepTo_value (w' := W) (by unfold execOp; simp only [s69, hc]; go_simp) (next _ _ (Below.refl _ _) rfl)
    · have g70 : SmG p q d r1 r2 e1 e2 A1 A2 A3 A4 cc1 cc2 cc3 cc4 29 (vs 29) W := hG 29 (haft 29 (by kernel_rfl))
      have s70 : ρ (.tmp 70) = .pointer (some ⟨q, 0, none⟩) := (hρ.at_ 70 29 rfl).trans g70
      exact stepTo_value (w' := W) (by unfold execOp; simp only [s70, hc]; go_simp) (next _ _ (Below.refl _ _) rfl)
    · have g71 : SmG p q d r1 r2 e1 e2 A1 A2 A3 A4 cc1 cc2 cc3 cc4 30 (vs 30) W := hG 30 (haft 30 (by kernel_rfl))
      have s71 : ρ (.tmp 71) = .pointer (some ⟨q, 0, none⟩) := (hρ.at_ 71 30 rfl).trans g71
      obtain ⟨_, gn, cn, v, xs, hr⟩ := HRK.out W hbw
      obtain ⟨l0, _⟩ := blk2 hr.blk
      have hnow := hr.now
      exact stepTo_value (v := .slice (some ⟨gn, 0, none⟩) d.live.length cn) (w' := W) (by unfold execOp; simp only [s71]; go_simp) (next _ _ (Below.refl _ _) ⟨gn, cn, rfl, hnow⟩)
    · obtain ⟨A68, c68, g68, hh682⟩ : SmG p q d r1 r2 e1 e2 A1 A2 A3 A4 cc1 cc2 cc3 cc4 27 (vs 27) W := hG 27 (haft 27 (by kernel_rfl))
      have s68 : ρ (.tmp 68) = .slice A68 d.live.length c68 := (hρ.at_ 68 27 rfl).trans g68
      obtain ⟨B72, c72, g72, hh722⟩ : SmG p q d r1 r2 e1 e2 A1 A2 A3 A4 cc1 cc2 cc3 cc4 31 (vs 31) W := hG 31 (haft 31 (by kernel_rfl))
      have s72 : ρ (.tmp 72) = .slice (some ⟨B72, 0, none⟩) d.live.length c72 := (hρ.at_ 72 31 rfl).trans g72
      refine stepTo_enter (f := 41) (args := #[.slice A68 d.live.length c68, .slice (some ⟨B72, 0, none⟩) d.live.length c72]) (w' := W) (by unfold execOp; simp only [hfn, s68, s72]; go_simp) ((rtexts_any A68 (some ⟨B72, 0, none⟩) c68 c72 d.live d.live W hh682 hh722.txl HL4.out).mono ?_)
      rintro x W' ⟨rfl, hb'⟩
      exact ⟨_, rfl, next _ _ hb' (by simp [SmG])⟩
    · have g66 : SmG p q d r1 r2 e1 e2 A1 A2 A3 A4 cc1 cc2 cc3 cc4 25 (vs 25) W := hG 25 (haft 25 (by kernel_rfl))
      have s66 : ρ (.tmp 66) = .bool true := (hρ.at_ 66 25 rfl).trans g66
      have g73 : SmG p q d r1 r2 e1 e2 A1 A2 A3 A4 cc1 cc2 cc3 cc4 32 (vs 32) W := hG 32 (haft 32 (by kernel_rfl))
      have s73 : ρ (.tmp 73) = .bool true := (hρ.at_ 73 32 rfl).trans g73
      exact stepTo_value (w' := W) (by unfold execOp; simp only [s66, s73, hc]; go_simp) (next _ _ (Below.refl _ _) rfl)
    · have g74 : SmG p q d r1 r2 e1 e2 A1 A2 A3 A4 cc1 cc2 cc3 cc4 33 (vs 33) W := hG 33 (haft 33 (by kernel_rfl))
      have s74 : ρ (.tmp 74) = .bool true := (hρ.at_ 74 33 rfl).trans g74
      exact stepTo_value (w' := W) (by unfold execOp; simp only [s74, hc]; go_simp) (next _ _ (Below.refl _ _) rfl)
  · intro i o L vs W j want ho hli haft hg hv hI
    obtain ⟨hb, hG'⟩ := hI
    have hG : ∀ j, L j = true → SmG p q d r1 r2 e1 e2 A1 A2 A3 A4 cc1 cc2 cc3 cc4 j (vs j) W := fun j hj => by
      by_cases h51 : j < 35
      · exact hG' j hj h51
      · match j, h51 with
        | j + 35, _ => exact trivial
    have hi51 : i < 35 := (Array.getElem?_eq_some_iff.1 ho).1
    rcases i with _ | _ | _ | _ | _ | _ | _ | _ | _ | _ | _ | _ | _ | _ | _ | _ | _ | _ | _ | _ | _ | _ | _ | _ | _ | _ | _ | _ | _ | _ | _ | _ | _ | _ | _ | i
    all_goals (first | omega | skip)
    all_goals simp only [List.getElem?_toArray, List.getElem?_cons_zero, List.getElem?_cons_succ, Option.some.injEq] at ho
    all_goals subst ho
    all_goals simp only [reduceCtorEq, Option.some.injEq, Prod.mk.injEq] at hg
    · obtain ⟨rfl, rfl⟩ := hg
      exact (hv (hG 3 (haft 3 (by kernel_rfl)))).elim
    · obtain ⟨rfl, rfl⟩ := hg
      exact (hv (hG 3 (haft 3 (by kernel_rfl)))).elim
    · obtain ⟨rfl, rfl⟩ := hg
      exact (hv (hG 3 (haft 3 (by kernel_rfl)))).elim
    · obtain ⟨rfl, rfl⟩ := hg
      exact (hv (hG 8 (haft 8 (by kernel_rfl)))).elim
    · obtain ⟨rfl, rfl⟩ := hg
      exact (hv (hG 8 (haft 8 (by kernel_rfl)))).elim
    · obtain ⟨rfl, rfl⟩ := hg
      exact (hv (hG 8 (haft 8 (by kernel_rfl)))).elim
    · obtain ⟨rfl, rfl⟩ := hg
      exact (hv (hG 13 (haft 13 (by kernel_rfl)))).elim
    · obtain ⟨rfl, rfl⟩ := hg
      exact (hv (hG 13 (haft 13 (by kernel_rfl)))).elim
    · obtain ⟨rfl, rfl⟩ := hg
      exact (hv (hG 13 (haft 13 (by kernel_rfl)))).elim
    · obtain ⟨rfl, rfl⟩ := hg
      exact (hv (hG 18 (haft 18 (by kernel_rfl)))).elim
    · obtain ⟨rfl, rfl⟩ := hg
      exact (hv (hG 18 (haft 18 (by kernel_rfl)))).elim
    · obtain ⟨rfl, rfl⟩ := hg
      exact (hv (hG 18 (haft 18 (by kernel_rfl)))).elim
    · obtain ⟨rfl, rfl⟩ := hg
      exact (hv (hG 18 (haft 18 (by kernel_rfl)))).elim
    · obtain ⟨rfl, rfl⟩ := hg
      exact (hv (hG 18 (haft 18 (by kernel_rfl)))).elim
    · obtain ⟨rfl, rfl⟩ := hg
      exact (hv (hG 25 (haft 25 (by kernel_rfl)))).elim
    · obtain ⟨rfl, rfl⟩ := hg
      exact (hv (hG 25 (haft 25 (by kernel_rfl)))).elim
    · obtain ⟨rfl, rfl⟩ := hg
      exact (hv (hG 25 (haft 25 (by kernel_rfl)))).elim
    · obtain ⟨rfl, rfl⟩ := hg
      exact (hv (hG 25 (haft 25 (by kernel_rfl)))).elim
    · obtain ⟨rfl, rfl⟩ := hg
      exact (hv (hG 25 (haft 25 (by kernel_rfl)))).elim
    · obtain ⟨rfl, rfl⟩ := hg
      exact (hv (hG 25 (haft 25 (by kernel_rfl)))).elim
    · obtain ⟨rfl, rfl⟩ := hg
      exact (hv (hG 25 (haft 25 (by kernel_rfl)))).elim
  · intro vs W hI
    have g34 : vs 34 = .bool true := hI.2 34 (by decide) (by decide)
    have hbW := Lib.hid (below_step HB4.out hI.1)
    clear hI
    go_wp2_with fail
    refine bodyPost_slot 34 rfl (by decide +kernel) (by kernel_rfl) rfl g34 ⟨rfl, hbW.out⟩
end Go.Proofs.Ytfinmfmbbgakhaa.ch

