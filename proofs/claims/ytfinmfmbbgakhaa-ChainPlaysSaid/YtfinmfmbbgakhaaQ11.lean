/- PgRead, PgChgs, PgLst. -/
import Derived.Test.YtfinmfmbbgakhaaQ10
import Derived.Test.YtfinmfmbbgakhaaQ6
import Derived.Test.YtfinmfmbbgakhaaQ8
/- The program's calls that read: Live, Read, Changes, List. -/
namespace Go.Proofs.Ytfinmfmbbgakhaa.ch.pg
open Go Go.RowKit Go.Sort Go.Proofs.Ytfinmfmbbgakhaa.ib
set_option maxRecDepth 100000

/-- A list of texts that was made behind B. -/
def TxV (l : List Bt) (B : Nat) (v : Value) (w : World) : Prop := ∃ A cc, v = .slice A l.length cc ∧ TxL w A l ∧ ∀ b o, A = some ⟨b, o, none⟩ → B ≤ b ∧ b < w.heap.size
theorem TxV.below {l : List Bt} {B : Nat} {v : Value} {w w' : World} (h : TxV l B v w) (hb : Below w.heap.size w w') : TxV l B v w' := by
  obtain ⟨A, cc, h1, h2, h3⟩ := h
  exact ⟨A, cc, h1, h2.below hb, fun b o e => ⟨(h3 b o e).1, Nat.lt_of_lt_of_le (h3 b o e).2 hb.size⟩⟩

/-! ### Live -/
def LvG (p n : Nat) (l : List Bt) (B : Nat) : Nat → Value → World → Prop
  | 0, v, _ => v = .pointer (some ⟨p, 0, none⟩)
  | 1, v, _ => v = .pointer (some ⟨p, 0, none⟩)
  | 2, v, _ => v = .pointer (some ⟨p, 1, none⟩)
  | 3, v, _ => v = .pointer (some ⟨p, 0, none⟩)
  | 4, v, _ => v = .pointer (some ⟨p, 0, none⟩)
  | 5, v, _ => v = .pointer (some ⟨p, 0, none⟩)
  | 6, v, _ => v = .int .i64 (n : Int)
  | 7, v, w => TxV l B v w
  | 8, v, w => TxV l B v w
  | _, _, _ => True
theorem LvG_mono (p n : Nat) (l : List Bt) (B : Nat) (i : Nat) (v : Value) (w w' : World) (hi : i < 9) (h : LvG p n l B i v w) (hb : Below w.heap.size w w') : LvG p n l B i v w' := by
  match i, hi, h with
  | 0, _, h | 1, _, h | 2, _, h | 3, _, h | 4, _, h | 5, _, h | 6, _, h => exact h
  | 7, _, h | 8, _, h => exact TxV.below h hb

set_option maxHeartbeats 3200000 in
theorem live_any {own : Nat → Prop} {w : World} {p : Nat} {d : CH} (h : Is0 own w p d) : Calls Try.prog 21 #[.pointer (some ⟨p, 0, none⟩)] w (okTx d.live w) := by
  obtain ⟨h0, v, hr⟩ := h
  have HR := Lib.hid hr
  have HH0 := Lib.hid h0
  clear h0 hr
  go_enter Try.func21, Try.ntmps21
  go_wp2_with fail
  refine wp_region_slots_f (by kernel_rfl) 9 [5, 6, 7, 8, 9, 10, 11, 12, 2] (by kernel_rfl) (LvG p d.live.length d.live w.heap.size) (LvG_mono _ _ _ _) ?_ ?_
  · intro i o vs ρ W hi9 hop hρ hfn hb hG
    have t0 : ρ (.tmp 0) = .pointer (some ⟨p, 0, none⟩) := hρ.out 0 rfl
    have hc := hρ.const
    have s5 := hρ.at_ 5 0 rfl
    have s6 := hρ.at_ 6 1 rfl
    have s7 := hρ.at_ 7 2 rfl
    have s8 := hρ.at_ 8 3 rfl
    have s9 := hρ.at_ 9 4 rfl
    have s10 := hρ.at_ 10 5 rfl
    have s11 := hρ.at_ 11 6 rfl
    have s12 := hρ.at_ 12 7 rfl
    have HR1 := Lib.hid (HR.out.below hb)
    have c0 := HR1.out.c0
    rcases i with _ | _ | _ | _ | _ | _ | _ | _ | _ | i
    all_goals (first | omega | skip)
    all_goals simp only [List.getElem?_toArray, List.getElem?_cons_zero, List.getElem?_cons_succ, Option.some.injEq] at hop
    all_goals subst hop
    · exact stepTo_value (w' := W) (by unfold execOp; simp only [t0]; go_simp) ⟨Below.refl _ _, rfl⟩
    · have g0 : vs 0 = _ := hG 0 (by kernel_rfl)
      exact stepTo_value (w' := W) (by unfold execOp; simp only [s5, g0]; go_simp) ⟨Below.refl _ _, rfl⟩
    · have g1 : vs 1 = _ := hG 1 (by kernel_rfl)
      exact stepTo_value (w' := W) (by unfold execOp; simp only [s6, g1]; go_simp) ⟨Below.refl _ _, rfl⟩
    · exact stepTo_value (w' := W) (by unfold execOp; simp only [t0]; go_simp) ⟨Below.refl _ _, rfl⟩
    · have g3 : vs 3 = _ := hG 3 (by kernel_rfl)
      exact stepTo_value (w' := W) (by unfold execOp; simp only [s8, g3]; go_simp) ⟨Below.refl _ _, rfl⟩
    · have g4 : vs 4 = _ := hG 4 (by kernel_rfl)
      exact stepTo_value (w' := W) (by unfold execOp; simp only [s9, g4]; go_simp) ⟨Below.refl _ _, rfl⟩
    · have g5 : vs 5 = _ := hG 5 (by kernel_rfl)
      exact stepTo_value (w' := W) (by unfold execOp; simp only [s10, g5]; go_simp) ⟨Below.refl _ _, rfl⟩
    · have g2 : vs 2 = _ := hG 2 (by kernel_rfl)
      have g6 : vs 6 = _ := hG 6 (by kernel_rfl)
      refine stepTo_enter (f := 47) (args := #[.pointer (some ⟨p, 1, none⟩), .int .i64 (d.live.length : Int)]) (w' := W) (by unfold execOp; simp only [hc, hfn, s7, g2, s11, g6]; go_simp) ((list_any HR1.out.blk (fun j u hu => by simpa using ccells_vc (m := d.live.length) (v := v) j u hu) HH0.out.live HH0.out.n8).mono ?_)
      rintro e W' ⟨A, cc, rfl, h1, h2, h3⟩
      exact ⟨_, rfl, h3, A, cc, rfl, h1, fun b o e => ⟨Nat.le_trans hb.size (h2 b o e).1, (h2 b o e).2⟩⟩
    · obtain ⟨A, cc, g7, h1, h2⟩ := hG 7 (by kernel_rfl)
      exact stepTo_value (w' := W) (by unfold execOp; simp only [s12, g7]; go_simp) ⟨Below.refl _ _, A, cc, rfl, h1, h2⟩
  · intro vs W hb hG
    obtain ⟨A, cc, g8, h1, h2⟩ := hG 8 (by decide)
    simp only [putList, putSel, if_true]
    rw [g8]
    generalize vs 0 = z0
    generalize vs 1 = z1
    generalize vs 2 = z2
    generalize vs 3 = z3
    generalize vs 4 = z4
    generalize vs 5 = z5
    generalize vs 6 = z6
    generalize vs 7 = z7
    have HB := Lib.hid hb
    have H1 := Lib.hid h1
    have H2 := Lib.hid h2
    clear hG g8 hb h1 h2
    simp only [Act.put, List.setIfInBounds_toArray, List.set_cons_succ, List.set_cons_zero]
    refine ⟨by kernel_rfl, ?_⟩
    go_wp2_with fail
    go_ret
    exact ⟨A, cc, rfl, H1.out, H2.out, HB.out⟩

/-! ### Read -/
def RdG (p n i g c m : Nat) (l : List Bt) (B : Nat) : Nat → Value → World → Prop
  | 0, v, _ => v = .pointer (some ⟨p, 0, none⟩)
  | 1, v, _ => v = .pointer (some ⟨p, 0, none⟩)
  | 2, v, _ => v = .pointer (some ⟨p, 257, none⟩)
  | 3, v, _ => v = .slice (some ⟨g, 0, none⟩) m c
  | 4, v, _ => v = .int .i64 (i : Int)
  | 5, v, _ => v = .pointer (some ⟨g, i * 259, none⟩)
  | 6, v, _ => v = .pointer (some ⟨g, i * 259, none⟩)
  | 7, v, _ => v = .pointer (some ⟨p, 0, none⟩)
  | 8, v, _ => v = .pointer (some ⟨p, 0, none⟩)
  | 9, v, _ => v = .pointer (some ⟨p, 0, none⟩)
  | 10, v, _ => v = .int .i64 (n : Int)
  | 11, v, w => TxV l B v w
  | 12, v, w => TxV l B v w
  | 13, v, _ => v = .int .i64 0
  | _, _, _ => True
theorem RdG_mono (p n i0 g c m : Nat) (l : List Bt) (B : Nat) (i : Nat) (v : Value) (w w' : World) (hi : i < 14) (h : RdG p n i0 g c m l B i v w) (hb : Below w.heap.size w w') : RdG p n i0 g c m l B i v w' := by
  match i, hi, h with
  | 0, _, h | 1, _, h | 2, _, h | 3, _, h | 4, _, h | 5, _, h | 6, _, h | 7, _, h | 8, _, h | 9, _, h | 10, _, h | 13, _, h => exact h
  | 11, _, h | 12, _, h => exact TxV.below h hb

set_option maxHeartbeats 6400000 in
theorem read_any {own : Nat → Prop} {w : World} {p : Nat} {d : CH} (h : Is0 own w p d) (g : Gd) : Calls Try.prog 24 #[.pointer (some ⟨p, 0, none⟩), gv g] w (okTxE (d.read g) w) := by
  have hb0 := (Below.refl w.heap.size w).alloc (Nat.le_refl _) (.cells #[.int .u64 (g.1 : Int), .int .u64 (g.2 : Int)] 37)
  obtain ⟨h0, v, hr⟩ := h
  have hr1 := hr.below hb0
  have HF := Lib.hid (find_any (⟨h0, v, hr1⟩ : Is0 own _ p d) g)
  have q0 : (w.alloc (.cells #[.int .u64 (g.1 : Int), .int .u64 (g.2 : Int)] 37)).cell? ⟨w.heap.size, 0, none⟩ = some (.int .u64 (g.1 : Int)) := (Blk.new w _ _).cell 0
  have q1 : (w.alloc (.cells #[.int .u64 (g.1 : Int), .int .u64 (g.2 : Int)] 37)).cell? ⟨w.heap.size, 1, none⟩ = some (.int .u64 (g.2 : Int)) := (Blk.new w _ _).cell 1
  have HB0 := Lib.hid hb0
  have HR0 := Lib.hid hr1
  have HH0 := Lib.hid h0
  have HC := Lib.hid (findP_cases d g)
  obtain ⟨R, hR⟩ : ∃ R, findP d g = R := ⟨_, rfl⟩
  rw [hR] at HF HC
  clear hb0 hr1 hr h0 hR
  unfold gv at HF ⊢
  go_enter Try.func24, Try.ntmps24
  go_wp2_with fail
  refine HF.out.mono ?_
  rintro e W1 ⟨rfl, hb1⟩
  have HB1 := Lib.hid (HB0.out.trans (hb1.mono HB0.out.size))
  have HR1 := Lib.hid (HR0.out.below hb1)
  clear hb1 HF q0 q1 HB0 HR0
  rcases HC.out with ⟨c, hc, rfl, _, hrd⟩ | ⟨i, s, rfl, hil, hs, _, hrd⟩
  · have hcb : (c != 0) = true := by simpa using hc
    have HRD := Lib.hid hrd
    clear hc hrd HC HR1 HH0
    go_wp2_with fail
    go_ret2
    rw [HRD.out]
    exact ⟨none, 0, rfl, fun i h => absurd h (by simp), NewA.none _ _, HB1.out⟩
  · obtain rfl : d.snaps[i] = s := by
      rw [List.getElem?_eq_getElem hil] at hs
      exact Option.some.inj hs
    have HRD := Lib.hid hrd
    have HSO := Lib.hid (HH0.out.snaps _ (List.getElem_mem hil))
    obtain ⟨A, c, hv, hlc, _, hx⟩ := srow_view HR1.out.row HH0.out.snaps HH0.out.n8
    subst hv
    obtain ⟨gr, cur, rfl, hb, hc⟩ := hx i hil
    have HBK := Lib.hid hb
    have HVC : Hid (∀ j u, (vc d.snaps[i].bs)[j]? = some u → cur[i * 259 + j]? = some u) := fun j u hu => hc j u (sc_vc _ j u hu)
    have hii : (i : Int) < (d.snaps.length : Int) := by omega
    generalize d.snaps[i].bs = bs at *
    have HI := Lib.hid hii
    clear hb hc hx hs hrd HC hil hii
    go_wp2_with fail
    refine wp_region_slots_f (by kernel_rfl) 14 [17, 18, 19, 20, 21, 22, 23, 24, 25, 26, 27, 28, 4, 5] (by kernel_rfl) (RdG p d.live.length i gr c d.snaps.length bs W1.heap.size) (RdG_mono _ _ _ _ _ _ _ _) ?_ ?_
    · intro j o vs ρ W hi9 hop hρ hfn hb hG
      have t0 : ρ (.tmp 0) = .pointer (some ⟨p, 0, none⟩) := hρ.out 0 rfl
      have t6 : ρ (.tmp 6) = .int .i64 (i : Int) := hρ.out 6 rfl
      have hc := hρ.const
      have s17 := hρ.at_ 17 0 rfl
      have s18 := hρ.at_ 18 1 rfl
      have s19 := hρ.at_ 19 2 rfl
      have s20 := hρ.at_ 20 3 rfl
      have s21 := hρ.at_ 21 4 rfl
      have s22 := hρ.at_ 22 5 rfl
      have s23 := hρ.at_ 23 6 rfl
      have s24 := hρ.at_ 24 7 rfl
      have s25 := hρ.at_ 25 8 rfl
      have s26 := hρ.at_ 26 9 rfl
      have s27 := hρ.at_ 27 10 rfl
      have s28 := hρ.at_ 28 11 rfl
      have HR2 := Lib.hid (HR1.out.below hb)
      have c0 := HR2.out.c0
      have c2 := HR2.out.c2 HH0.out
      have hii := HI.out
      rcases j with _ | _ | _ | _ | _ | _ | _ | _ | _ | _ | _ | _ | _ | _ | j
      all_goals (first | omega | skip)
      all_goals simp only [List.getElem?_toArray, List.getElem?_cons_zero, List.getElem?_cons_succ, Option.some.injEq] at hop
      all_goals subst hop
      · exact stepTo_value (w' := W) (by unfold execOp; simp only [t0]; go_simp) ⟨Below.refl _ _, rfl⟩
      · have g0 : vs 0 = _ := hG 0 (by kernel_rfl)
        exact stepTo_value (w' := W) (by unfold execOp; simp only [s17, g0]; go_simp) ⟨Below.refl _ _, rfl⟩
      · have g1 : vs 1 = _ := hG 1 (by kernel_rfl)
        exact stepTo_value (w' := W) (by unfold execOp; simp only [s18, g1]; go_simp) ⟨Below.refl _ _, rfl⟩
      · have g2 : vs 2 = _ := hG 2 (by kernel_rfl)
        exact stepTo_value (w' := W) (by unfold execOp; simp only [s19, g2]; go_simp) ⟨Below.refl _ _, rfl⟩
      · exact stepTo_value (w' := W) (by unfold execOp; simp only [t6]; go_simp) ⟨Below.refl _ _, rfl⟩
      · have g3 : vs 3 = _ := hG 3 (by kernel_rfl)
        have g4 : vs 4 = _ := hG 4 (by kernel_rfl)
        exact stepTo_value (w' := W) (by unfold execOp; simp only [s20, g3, s21, g4]; go_simp) ⟨Below.refl _ _, rfl⟩
      · have g5 : vs 5 = _ := hG 5 (by kernel_rfl)
        exact stepTo_value (w' := W) (by unfold execOp; simp only [s22, g5]; go_simp) ⟨Below.refl _ _, rfl⟩
      · exact stepTo_value (w' := W) (by unfold execOp; simp only [t0]; go_simp) ⟨Below.refl _ _, rfl⟩
      · have g7 : vs 7 = _ := hG 7 (by kernel_rfl)
        exact stepTo_value (w' := W) (by unfold execOp; simp only [s24, g7]; go_simp) ⟨Below.refl _ _, rfl⟩
      · have g8 : vs 8 = _ := hG 8 (by kernel_rfl)
        exact stepTo_value (w' := W) (by unfold execOp; simp only [s25, g8]; go_simp) ⟨Below.refl _ _, rfl⟩
      · have g9 : vs 9 = _ := hG 9 (by kernel_rfl)
        exact stepTo_value (w' := W) (by unfold execOp; simp only [s26, g9]; go_simp) ⟨Below.refl _ _, rfl⟩
      · have g6 : vs 6 = _ := hG 6 (by kernel_rfl)
        have g10 : vs 10 = _ := hG 10 (by kernel_rfl)
        refine stepTo_enter (f := 47) (args := #[.pointer (some ⟨gr, i * 259, none⟩), .int .i64 (d.live.length : Int)]) (w' := W) (by unfold execOp; simp only [hc, hfn, s23, g6, s27, g10]; go_simp) ((list_any (HBK.out.below hb) HVC.out HSO.out HH0.out.n8).mono ?_)
        rintro e W' ⟨A, cc, rfl, h1, h2, h3⟩
        exact ⟨_, rfl, h3, A, cc, rfl, h1, fun b o e => ⟨Nat.le_trans hb.size (h2 b o e).1, (h2 b o e).2⟩⟩
      · obtain ⟨A, cc, g11, h1, h2⟩ := hG 11 (by kernel_rfl)
        exact stepTo_value (w' := W) (by unfold execOp; simp only [s28, g11]; go_simp) ⟨Below.refl _ _, A, cc, rfl, h1, h2⟩
      · exact stepTo_value (w' := W) (by unfold execOp; simp only [hc]; go_simp) ⟨Below.refl _ _, rfl⟩
    · intro vs W hb hG
      obtain ⟨A, cc, g12, h1, h2⟩ := hG 12 (by decide)
      have g13 : vs 13 = _ := hG 13 (by decide)
      simp only [putList, putSel, if_true]
      rw [g12, g13]
      generalize vs 0 = z0
      generalize vs 1 = z1
      generalize vs 2 = z2
      generalize vs 3 = z3
      generalize vs 4 = z4
      generalize vs 5 = z5
      generalize vs 6 = z6
      generalize vs 7 = z7
      generalize vs 8 = z8
      generalize vs 9 = z9
      generalize vs 10 = z10
      generalize vs 11 = z11
      have HB := Lib.hid (HB1.out.trans (hb.mono HB1.out.size))
      have H1 := Lib.hid h1
      have H2 := Lib.hid (fun b o e => And.intro (Nat.le_trans HB1.out.size (h2 b o e).1) (h2 b o e).2)
      clear hG g12 g13 hb h1 h2
      simp only [Act.put, List.setIfInBounds_toArray, List.set_cons_succ, List.set_cons_zero]
      refine ⟨by kernel_rfl, ?_⟩
      go_wp2_with fail
      go_ret2
      rw [HRD.out]
      exact ⟨A, cc, rfl, H1.out, H2.out, HB.out⟩
end Go.Proofs.Ytfinmfmbbgakhaa.ch.pg

/- The program's Changes and List. -/
namespace Go.Proofs.Ytfinmfmbbgakhaa.ch.pg
open Go Go.RowKit Go.Sort Go.Proofs.Ytfinmfmbbgakhaa.ib
set_option maxRecDepth 100000

/-- A list of changes that was made behind B. -/
def CgV (l : List (Int × Bt)) (B : Nat) (v : Value) (w : World) : Prop := ∃ A cc, v = .slice A l.length cc ∧ ChL w A l ∧ ∀ b o, A = some ⟨b, o, none⟩ → B ≤ b ∧ b < w.heap.size
theorem CgV.below {l : List (Int × Bt)} {B : Nat} {v : Value} {w w' : World} (h : CgV l B v w) (hb : Below w.heap.size w w') : CgV l B v w' := by
  obtain ⟨A, cc, h1, h2, h3⟩ := h
  exact ⟨A, cc, h1, h2.below hb, fun b o e => ⟨(h3 b o e).1, Nat.lt_of_lt_of_le (h3 b o e).2 hb.size⟩⟩
def CsG (p g c n m : Nat) (S V : List Value) (D : List (Int × Bt)) (B : Nat) : Nat → Value → World → Prop
  | 0, v, _ => v = .pointer (some ⟨p, 0, none⟩)
  | 1, v, _ => v = .pointer (some ⟨p, 0, none⟩)
  | 2, v, _ => v = .pointer (some ⟨p, 257, none⟩)
  | 3, v, _ => v = .slice (some ⟨g, 0, none⟩) n c
  | 4, v, _ => v = .int .i64 (m : Int)
  | 5, v, _ => v = .pointer (some ⟨g, m * 259, none⟩)
  | 6, v, _ => v = .pointer (some ⟨g, m * 259, none⟩)
  | 7, v, _ => v = .pointer (some ⟨p, 0, none⟩)
  | 8, v, _ => v = .pointer (some ⟨p, 0, none⟩)
  | 9, v, _ => v = .pointer (some ⟨p, 257, none⟩)
  | 10, v, _ => v = .slice (some ⟨g, 0, none⟩) n c
  | 11, v, _ => v = .int .i64 (m : Int)
  | 12, v, _ => v = .slice (some ⟨g, 0, none⟩) m c
  | 13, v, _ => v = .agg S.toArray
  | 14, v, _ => v = .agg V.toArray
  | 15, v, w => CgV D B v w
  | 16, v, w => CgV D B v w
  | 17, v, _ => v = .int .i64 0
  | _, _, _ => True
theorem CsG_mono (p g c n m : Nat) (S V : List Value) (D : List (Int × Bt)) (B : Nat) (i : Nat) (v : Value) (w w' : World) (hi : i < 18) (h : CsG p g c n m S V D B i v w) (hb : Below w.heap.size w w') : CsG p g c n m S V D B i v w' := by
  match i, hi, h with
  | 0, _, h | 1, _, h | 2, _, h | 3, _, h | 4, _, h | 5, _, h | 6, _, h | 7, _, h | 8, _, h | 9, _, h | 10, _, h | 11, _, h | 12, _, h | 13, _, h | 14, _, h | 17, _, h => exact h
  | 15, _, h | 16, _, h => exact CgV.below h hb
  | n + 18, h, _ => exact absurd h (by omega)

theorem prev_last (d : CH) (m : Nat) (hm : m < d.snaps.length) : (lastS d.live.length (d.snaps.take m)).bs = d.prev m := by
  unfold lastS CH.prev
  by_cases h : m = 0
  · subst h
    rfl
  · rw [if_neg h, List.getLast?_eq_getElem?, List.length_take, Nat.min_eq_left (by omega), List.getElem?_take, if_pos (by omega)]
    unfold CH.volAt
    rw [List.getElem?_eq_getElem (by omega)]
    rfl

set_option maxHeartbeats 6400000 in
theorem changes_any {own : Nat → Prop} {w : World} {p : Nat} {d : CH} (h : Is0 own w p d) (k : Int) : Calls Try.prog 22 #[.pointer (some ⟨p, 0, none⟩), .int .i64 k] w (okChE (d.changes k) w) := by
  obtain ⟨h0, v, hr⟩ := h
  have c2 := hr.c2 h0
  have HR1 := Lib.hid hr
  have HH0 := Lib.hid h0
  have h20 := h0.few
  obtain ⟨A, c, hv, hlc, _, hx⟩ := srow_view hr.row h0.snaps h0.n8
  subst hv
  by_cases hbad : k < 0 ∨ (d.snaps.length : Int) ≤ k
  · have HW : Hid (d.changes k = ([], 5)) := by unfold Hid CH.changes; rw [if_pos hbad]
    rw [HW.out]
    have hcs : k < 0 ∨ (¬ k < 0 ∧ (d.snaps.length : Int) ≤ k) := by omega
    clear hbad HW hx hr h0 HR1 HH0
    rcases hcs with hk | ⟨hk, hk2⟩
    all_goals
      go_enter Try.func22, Try.ntmps22
      go_wp2_with fail
      go_ret2
      exact ⟨none, 0, rfl, ChL.nil _ _, NewA.none _ _, Below.refl _ _⟩
  · obtain ⟨m, rfl⟩ : ∃ m : Nat, k = (m : Int) := ⟨k.toNat, by omega⟩
    have hm : m < d.snaps.length := by omega
    have HW : Hid (d.changes (m : Int) = (diffs (d.prev m) d.snaps[m].bs, 0)) := by
      unfold Hid CH.changes
      rw [if_neg hbad, Int.toNat_natCast]
      unfold CH.volAt
      rw [List.getElem?_eq_getElem hm]
    rw [HW.out]
    obtain ⟨gr, cur, rfl, hb, hc⟩ := hx m hm
    have hmi : (m : Int) < (d.snaps.length : Int) := by omega
    have hmn : ¬ (m : Int) < 0 := by omega
    have hmx : ¬ (d.snaps.length : Int) ≤ (m : Int) := by omega
    have hmc : (m : Int) ≤ (c : Int) := by omega
    have hmcn : m ≤ c := by omega
    have HSO := Lib.hid (h0.snaps _ (List.getElem_mem hm))
    have HVC : Hid (∀ j u, (vc d.snaps[m].bs)[j]? = some u → cur[m * 259 + j]? = some u) := fun j u hu => hc j u (sc_vc _ j u hu)
    have HBK := Lib.hid hb
    have HTO : Hid (∀ s ∈ d.snaps.take m, volOk d.live.length s.bs) := fun s hs => h0.snaps s (List.mem_of_mem_take hs)
    have HTL : Hid ((d.snaps.take m).length ≤ 20) := by unfold Hid; rw [List.length_take]; omega
    have HTR : Hid (∀ W, Below w.heap.size w W → SRow W (.slice (some ⟨gr, 0, none⟩) m c) (d.snaps.take m)) := fun W hb => srow_take (hr.row.below hb) h0.snaps h0.n8 (by omega) c (by omega) (Nat.le_refl _)
    have hlo := lastS_ok (n := d.live.length) HTO.out
    have HLO : Hid (volOk d.live.length (d.prev m)) := by unfold Hid; rw [← prev_last d m hm]; exact hlo
    have hfi := field_vol (lastS d.live.length (d.snaps.take m)) hlo h0.n8
    rw [prev_last d m hm] at hfi
    have HLA := Lib.hid (fun W hb => last_any (HTR.out W hb) HTO.out h0.n8 HTL.out)
    obtain ⟨S, hS⟩ : ∃ S, sc (lastS d.live.length (d.snaps.take m)) = S := ⟨_, rfl⟩
    rw [hS] at HLA hfi
    generalize d.prev m = P at *
    generalize d.snaps[m].bs = bs at *
    have HCH := Lib.hid (fun W (hb : Below w.heap.size w W) => changesV_any (HBK.out.below hb) HVC.out HSO.out HLO.out h0.n8)
    have HFI := Lib.hid hfi
    have HMI := Lib.hid hmi
    clear hbad HW hx hr hb hc hlo hfi hS hm HTR HTO HTL HVC HSO HLO
    obtain ⟨D, hD⟩ : ∃ D, diffs P bs = D := ⟨_, rfl⟩
    rw [hD] at HCH ⊢
    clear hD
    go_enter Try.func22, Try.ntmps22
    go_wp2_with fail
    refine wp_region_slots_f (by kernel_rfl) 18 [21, 22, 23, 24, 25, 26, 27, 28, 29, 30, 31, 32, 33, 34, 35, 36, 4, 5] (by kernel_rfl) (CsG p gr c d.snaps.length m S (vc P) D w.heap.size) (CsG_mono _ _ _ _ _ _ _ _ _) ?_ ?_
    · intro j o vs ρ W hi9 hop hρ hfn hb hG
      have t0 : ρ (.tmp 0) = .pointer (some ⟨p, 0, none⟩) := hρ.out 0 rfl
      have t1 : ρ (.tmp 1) = .int .i64 (m : Int) := hρ.out 1 rfl
      have hc := hρ.const
      have s21 := hρ.at_ 21 0 rfl
      have s22 := hρ.at_ 22 1 rfl
      have s23 := hρ.at_ 23 2 rfl
      have s24 := hρ.at_ 24 3 rfl
      have s25 := hρ.at_ 25 4 rfl
      have s26 := hρ.at_ 26 5 rfl
      have s27 := hρ.at_ 27 6 rfl
      have s28 := hρ.at_ 28 7 rfl
      have s29 := hρ.at_ 29 8 rfl
      have s30 := hρ.at_ 30 9 rfl
      have s31 := hρ.at_ 31 10 rfl
      have s32 := hρ.at_ 32 11 rfl
      have s33 := hρ.at_ 33 12 rfl
      have s34 := hρ.at_ 34 13 rfl
      have s35 := hρ.at_ 35 14 rfl
      have s36 := hρ.at_ 36 15 rfl
      have c2 := (HR1.out.below hb).c2 HH0.out
      have hmi := HMI.out
      rcases j with _ | _ | _ | _ | _ | _ | _ | _ | _ | _ | _ | _ | _ | _ | _ | _ | _ | _ | j
      all_goals (first | omega | skip)
      all_goals simp only [List.getElem?_toArray, List.getElem?_cons_zero, List.getElem?_cons_succ, Option.some.injEq] at hop
      all_goals subst hop
      · exact stepTo_value (w' := W) (by unfold execOp; simp only [t0]; go_simp) ⟨Below.refl _ _, rfl⟩
      · have g0 : vs 0 = _ := hG 0 (by kernel_rfl)
        exact stepTo_value (w' := W) (by unfold execOp; simp only [s21, g0]; go_simp) ⟨Below.refl _ _, rfl⟩
      · have g1 : vs 1 = _ := hG 1 (by kernel_rfl)
        exact stepTo_value (w' := W) (by unfold execOp; simp only [s22, g1]; go_simp) ⟨Below.refl _ _, rfl⟩
      · have g2 : vs 2 = _ := hG 2 (by kernel_rfl)
        exact stepTo_value (w' := W) (by unfold execOp; simp only [s23, g2]; go_simp) ⟨Below.refl _ _, rfl⟩
      · exact stepTo_value (w' := W) (by unfold execOp; simp only [t1]; go_simp) ⟨Below.refl _ _, rfl⟩
      · have g3 : vs 3 = _ := hG 3 (by kernel_rfl)
        have g4 : vs 4 = _ := hG 4 (by kernel_rfl)
        exact stepTo_value (w' := W) (by unfold execOp; simp only [s24, g3, s25, g4]; go_simp) ⟨Below.refl _ _, rfl⟩
      · have g5 : vs 5 = _ := hG 5 (by kernel_rfl)
        exact stepTo_value (w' := W) (by unfold execOp; simp only [s26, g5]; go_simp) ⟨Below.refl _ _, rfl⟩
      · exact stepTo_value (w' := W) (by unfold execOp; simp only [t0]; go_simp) ⟨Below.refl _ _, rfl⟩
      · have g7 : vs 7 = _ := hG 7 (by kernel_rfl)
        exact stepTo_value (w' := W) (by unfold execOp; simp only [s28, g7]; go_simp) ⟨Below.refl _ _, rfl⟩
      · have g8 : vs 8 = _ := hG 8 (by kernel_rfl)
        exact stepTo_value (w' := W) (by unfold execOp; simp only [s29, g8]; go_simp) ⟨Below.refl _ _, rfl⟩
      · have g9 : vs 9 = _ := hG 9 (by kernel_rfl)
        exact stepTo_value (w' := W) (by unfold execOp; simp only [s30, g9]; go_simp) ⟨Below.refl _ _, rfl⟩
      · exact stepTo_value (w' := W) (by unfold execOp; simp only [t1]; go_simp) ⟨Below.refl _ _, rfl⟩
      · have g10 : vs 10 = _ := hG 10 (by kernel_rfl)
        have g11 : vs 11 = _ := hG 11 (by kernel_rfl)
        exact stepTo_value (w' := W) (by unfold execOp; simp only [s31, g10, s32, g11]; go_simp) ⟨Below.refl _ _, rfl⟩
      · have g12 : vs 12 = _ := hG 12 (by kernel_rfl)
        refine stepTo_enter (f := 33) (args := #[.slice (some ⟨gr, 0, none⟩) m c]) (w' := W) (by unfold execOp; simp only [hc, hfn, s33, g12]; go_simp) ((HLA.out W hb).mono ?_)
        rintro e W' ⟨rfl, h1⟩
        exact ⟨_, rfl, h1, rfl⟩
      · have g13 : vs 13 = _ := hG 13 (by kernel_rfl)
        have hfi := HFI.out
        exact stepTo_value (w' := W) (by unfold execOp; simp only [s34, g13]; go_simp) ⟨Below.refl _ _, rfl⟩
      · have g6 : vs 6 = _ := hG 6 (by kernel_rfl)
        have g14 : vs 14 = _ := hG 14 (by kernel_rfl)
        refine stepTo_enter (f := 48) (args := #[.pointer (some ⟨gr, m * 259, none⟩), .agg (vc P).toArray]) (w' := W) (by unfold execOp; simp only [hc, hfn, s27, g6, s35, g14]; go_simp) ((HCH.out W hb).mono ?_)
        rintro e W' ⟨A, cc, rfl, h1, h2, h3⟩
        exact ⟨_, rfl, h3, A, cc, rfl, h1, fun b o e => ⟨Nat.le_trans hb.size (h2 b o e).1, (h2 b o e).2⟩⟩
      · obtain ⟨A, cc, g15, h1, h2⟩ := hG 15 (by kernel_rfl)
        exact stepTo_value (w' := W) (by unfold execOp; simp only [s36, g15]; go_simp) ⟨Below.refl _ _, A, cc, rfl, h1, h2⟩
      · exact stepTo_value (w' := W) (by unfold execOp; simp only [hc]; go_simp) ⟨Below.refl _ _, rfl⟩
    · intro vs W hb hG
      obtain ⟨A, cc, g16, h1, h2⟩ := hG 16 (by decide)
      have g17 : vs 17 = _ := hG 17 (by decide)
      simp only [putList, putSel, if_true]
      rw [g16, g17]
      generalize vs 0 = z0
      generalize vs 1 = z1
      generalize vs 2 = z2
      generalize vs 3 = z3
      generalize vs 4 = z4
      generalize vs 5 = z5
      generalize vs 6 = z6
      generalize vs 7 = z7
      generalize vs 8 = z8
      generalize vs 9 = z9
      generalize vs 10 = z10
      generalize vs 11 = z11
      generalize vs 12 = z12
      generalize vs 13 = z13
      generalize vs 14 = z14
      generalize vs 15 = z15
      have HB := Lib.hid hb
      have H1 := Lib.hid h1
      have H2 := Lib.hid h2
      clear hG g16 g17 hb h1 h2
      simp only [Act.put, List.setIfInBounds_toArray, List.set_cons_succ, List.set_cons_zero]
      refine ⟨by kernel_rfl, ?_⟩
      go_wp2_with fail
      go_ret2
      exact ⟨A, cc, rfl, H1.out, H2.out, HB.out⟩

end Go.Proofs.Ytfinmfmbbgakhaa.ch.pg

/- The program's List. -/
namespace Go.Proofs.Ytfinmfmbbgakhaa.ch.pg
open Go Go.RowKit Go.Sort Go.Proofs.Ytfinmfmbbgakhaa.ib
set_option maxRecDepth 100000

def gcells (l : List Gd) : List Value := l.flatMap fun g => [.int .u64 (g.1 : Int), .int .u64 (g.2 : Int)]
theorem gcells_len (l : List Gd) : (gcells l).length = l.length * 2 := fm_len (fun _ _ => rfl)
theorem gcells_get (l : List Gd) (k : Nat) (hk : k < l.length) : (gcells l)[k * 2]? = some (.int .u64 (l[k].1 : Int)) ∧ (gcells l)[k * 2 + 1]? = some (.int .u64 (l[k].2 : Int)) :=
  ⟨fm_get l k hk (m := 2) (fun _ _ => rfl) 0 _ rfl, fm_get l k hk (m := 2) (fun _ _ => rfl) 1 _ rfl⟩
theorem gcells_set (l : List Gd) (k : Nat) (hk : k < l.length) (g : Gd) : ((gcells l).set (k * 2) (.int .u64 (g.1 : Int))).set (k * 2 + 1) (.int .u64 (g.2 : Int)) = gcells (l.set k g) := by
  have h := fm_set (f := fun g : Gd => [Value.int .u64 (g.1 : Int), .int .u64 (g.2 : Int)]) (m := 2) l k g hk (fun _ _ => rfl)
  unfold gcells
  rw [← h]
  have hl := gcells_len l
  unfold gcells at hl
  generalize (l.flatMap fun g => [Value.int .u64 (g.1 : Int), .int .u64 (g.2 : Int)]) = z at *
  apply List.ext_getElem?
  intro i
  by_cases h1 : i < k * 2
  · rw [List.getElem?_set_ne (by omega), List.getElem?_set_ne (by omega), List.append_assoc, List.getElem?_append_left (by rw [List.length_take]; omega), List.getElem?_take, if_pos h1]
  · by_cases h2 : i = k * 2
    · subst h2
      rw [List.getElem?_set_ne (by omega), List.getElem?_set_self (by omega), List.append_assoc, List.getElem?_append_right (by rw [List.length_take]; omega), List.length_take, Nat.min_eq_left (by omega), Nat.sub_self]
      rfl
    · by_cases h3 : i = k * 2 + 1
      · subst h3
        rw [List.getElem?_set_self (by rw [List.length_set]; omega), List.append_assoc, List.getElem?_append_right (by rw [List.length_take]; omega), List.length_take, Nat.min_eq_left (by omega), show k * 2 + 1 - k * 2 = 1 by omega]
        rfl
      · rw [List.getElem?_set_ne (by omega), List.getElem?_set_ne (by omega), List.getElem?_append_right (by rw [List.length_append, List.length_take]; simp; omega), List.getElem?_drop, List.length_append, List.length_take, Nat.min_eq_left (by omega)]
        congr 1
        simp
        omega
theorem gcells_new (n : Nat) : madeCells #[.int .u64 0, .int .u64 0] (n * 2) = (gcells (List.replicate n (0, 0))).toArray := by
  apply Array.ext
  · simp [size_madeCells, gcells_len]
  · intro j h1 h2
    have hl : (gcells (List.replicate n (0, 0))).length = n * 2 := by rw [gcells_len, List.length_replicate]
    have hj : j < n * 2 := by simpa [hl] using h2
    have e : (gcells (List.replicate n (0, 0)))[j]? = some (.int .u64 0) := by
      have hq : j / 2 < (List.replicate n ((0, 0) : Gd)).length := by rw [List.length_replicate]; omega
      obtain ⟨g0, g1⟩ := gcells_get (List.replicate n (0, 0)) (j / 2) hq
      rw [List.getElem_replicate] at g0 g1
      rcases Nat.mod_two_eq_zero_or_one j with h | h
      · rw [show j = j / 2 * 2 by omega]
        exact g0
      · rw [show j = j / 2 * 2 + 1 by omega]
        exact g1
    have e2 : (gcells (List.replicate n (0, 0))).toArray[j]? = some (.int .u64 0) := by simpa using e
    rw [Array.getElem?_eq_getElem h2] at e2
    rw [Option.some.inj e2]
    rcases Nat.mod_two_eq_zero_or_one j with h | h <;> simp [madeCells, h]
theorem make_guids (n : Nat) (h : n ≤ 1000) (W : World) : (Instr.makeSlice 57 (.int .i64 (n : Int)) (.int .i64 (n : Int))).run Try.prog W = .ok (.slice (some ⟨W.heap.size, 0, none⟩) n n) (W.alloc (.cells (gcells (List.replicate n (0, 0))).toArray 37)) := by
  obtain ⟨i0, hi, hz0, hz1, hz2⟩ := info_parts infoGd
  have hmk := run_make (P := Try.prog) W 57 37 i0 (.agg #[.int .u64 0, .int .u64 0]) Try.underlying57 hi hz0 .i64 .i64 (n : Int) (n : Int) (by omega) (Int.le_refl _) (by rw [hz2]; omega) (by omega)
  rw [hz1] at hmk
  rw [← gcells_new]
  simpa [Value.cells] using hmk
theorem exec_makeG {ρ : Operand → Value} {o : Oper} {w : World} (x y : Operand) (n : Nat) (ho : o.op = .makeSlice 57 x y) (hx : ρ x = .int .i64 (n : Int)) (hy : ρ y = .int .i64 (n : Int)) (h : n ≤ 1000) :
    (execOp ρ o).run Try.prog w = .ok (.value (.slice (some ⟨w.heap.size, 0, none⟩) n n)) (w.alloc (.cells (gcells (List.replicate n (0, 0))).toArray 37)) := by
  simp [execOp, ho, hx, hy, make_guids n h w, Result.andThen]

def LsRel (l : List Gd) (w : World) (i : Value) (wr : World) : Prop :=
  ∃ k : Nat, k ≤ l.length ∧ i = .int .i64 (k : Int) ∧ Blk wr w.heap.size 37 (gcells (l.take k ++ List.replicate (l.length - k) (0, 0))).toArray ∧ Below w.heap.size w wr
theorem gtake_set {l : List Gd} {k : Nat} (hk : k < l.length) : (l.take k ++ List.replicate (l.length - k) (0, 0)).set k l[k] = l.take (k + 1) ++ List.replicate (l.length - (k + 1)) (0, 0) := by
  rw [List.set_append_right _ _ (by rw [List.length_take]; omega), List.length_take, Nat.min_eq_left (by omega), Nat.sub_self, show l.length - k = (l.length - (k + 1)) + 1 by omega, List.replicate_succ, List.set_cons_zero, List.take_succ_eq_append_getElem (by omega), List.append_assoc]
  rfl

set_option maxHeartbeats 6400000 in
theorem plist_any {own : Nat → Prop} {w : World} {p : Nat} {d : CH} (h : Is0 own w p d) : Calls Try.prog 25 #[.pointer (some ⟨p, 0, none⟩)] w (okGd d.list w) := by
  obtain ⟨i0, hi, hz0, hz1, hz2⟩ := info_parts infoSnp
  have HI := Lib.hid hi
  have HZ0 := Lib.hid hz0
  obtain ⟨h0, v, hr⟩ := h
  have c2 := hr.c2 h0
  have HR := Lib.hid hr
  have HH0 := Lib.hid h0
  have h20 := h0.few
  have hplt := hr.blk.lt
  obtain ⟨A, c, hv, hlc, _, hx⟩ := srow_view hr.row h0.snaps h0.n8
  subst hv
  have HX := Lib.hid hx
  have HLI : Hid (d.list.length = d.snaps.length) := by unfold Hid CH.list; rw [List.length_map]
  have HGB : Hid (∀ x ∈ d.list, gdB x) := fun x hx => by
    obtain ⟨s, hs, rfl⟩ := List.mem_map.1 hx
    exact h0.gds s hs
  have HLG : Hid (∀ k (hk : k < d.snaps.length) (hk2 : k < d.list.length), d.list[k] = d.snaps[k].g) := fun k hk hk2 => by simp [CH.list]
  have HZL : Hid ((sc z0).length = 259) := by unfold Hid z0; exact sc_len (n := 0) ⟨rfl, fun v hv => by simp at hv⟩ (by omega)
  obtain ⟨Z, hZ⟩ : ∃ Z, sc z0 = Z := ⟨_, rfl⟩
  rw [hZ] at HZ0 HZL
  obtain ⟨n, hn⟩ : ∃ n, d.snaps.length = n := ⟨_, rfl⟩
  have HN := Lib.hid hn
  have C2 := Lib.hid c2
  rw [hn] at C2 c2 h20 hlc HLI
  clear hx hr h0 hi hz0 hz1 hz2 hZ hn
  have HGI : Hid (gcells (List.replicate n (0, 0)) = gcells (d.list.take 0 ++ List.replicate (d.list.length - 0) (0, 0))) := by unfold Hid; rw [HLI.out]; rfl
  go_enter Try.func25, Try.ntmps25
  have c2b : ∀ o, (w.alloc o).cell? ⟨p, 257, none⟩ = some (.slice A n c) := fun o => (((Below.refl w.heap.size w).alloc (Nat.le_refl _) o).cell (p := ⟨p, 257, none⟩) hplt).trans C2.out
  go_wp2_with (at_make; refine wpList_value rfl (exec_makeG _ _ n rfl rfl rfl (by omega)) ?_)
  go_loopw [4, 5, 19] (fun _ _ i wr => LsRel d.list w i wr) (fun _ _ i _ => n - (intOf i).toNat)
  case atStart => exact ⟨0, Nat.zero_le _, rfl, by rw [← HGI.out]; exact Blk.new w 37 _, (Below.refl _ _).alloc (Nat.le_refl _) _⟩
  case round =>
    obtain ⟨k, hk, rfl, hbk, hbel⟩ := hrel
    have HK := Lib.hid hbk
    have HBE := Lib.hid hbel
    have hkn : k ≤ n := by have := HLI.out; omega
    clear hbk hbel c2b c2
    by_cases hlt : k < n
    · have hki : (k : Int) < (n : Int) := by omega
      have hls : k < d.snaps.length := by rw [HN.out]; exact hlt
      have hlg : k < d.list.length := by rw [HLI.out]; exact hlt
      obtain ⟨gr, cur, rfl, hb, hc⟩ := HX.out k hls
      have hso := HH0.out.snaps _ (List.getElem_mem hls)
      have HSL : Hid ((sc d.snaps[k]).length = 259) := sc_len hso HH0.out.n8
      have HS1 := Lib.hid (sc_one d.snaps[k])
      have HBK := Lib.hid (hb.below HBE.out)
      have HC := Lib.hid hc
      have hg1 := sc_g1 hso HH0.out.n8
      have hg2 := sc_g2 hso HH0.out.n8
      have HSE : Hid (((gcells (d.list.take k ++ List.replicate (d.list.length - k) (0, 0))).set (k * 2) (.int .u64 (d.snaps[k].g.1 : Int))).set (k * 2 + 1) (.int .u64 (d.snaps[k].g.2 : Int)) = gcells (d.list.take (k + 1) ++ List.replicate (d.list.length - (k + 1)) (0, 0))) := by
        unfold Hid
        rw [gcells_set _ k (by rw [List.length_append, List.length_take, List.length_replicate]; omega), ← HLG.out k hls hlg, gtake_set hlg]
      generalize sc d.snaps[k] = S at *
      generalize (d.snaps[k].g.1 : Int) = x1 at *
      generalize (d.snaps[k].g.2 : Int) = x2 at *
      have e0 : (wr.alloc (.cells S.toArray 84)).cell? ⟨wr.heap.size, 256, none⟩ = some (.int .u64 x1) := by
        rw [(Blk.new wr 84 S.toArray).cell 256]
        simpa using hg1
      have e1 : (wr.alloc (.cells S.toArray 84)).cell? ⟨wr.heap.size, 257, none⟩ = some (.int .u64 x2) := by
        rw [(Blk.new wr 84 S.toArray).cell 257]
        simpa using hg2
      have HB1 := Lib.hid (HBE.out.alloc HBE.out.size (.cells S.toArray 84))
      have HK1 : Hid (Blk (wr.alloc (.cells S.toArray 84)) w.heap.size _ _) := HK.out.of_block (Below.heap_alloc wr _ _ HK.out.lt)
      obtain ⟨cs, hcs⟩ : ∃ cs, gcells (d.list.take k ++ List.replicate (d.list.length - k) (0, 0)) = cs := ⟨_, rfl⟩
      have hcl : cs.length = n * 2 := by
        rw [← hcs, gcells_len, List.length_append, List.length_take, List.length_replicate, HLI.out]
        omega
      rw [hcs] at HK1 HSE
      have f0 := HK1.out.frozen (k * 2)
      have f1 := HK1.out.frozen (k * 2 + 1)
      obtain ⟨z0', hz0⟩ : ∃ z, (wr.alloc (.cells S.toArray 84)).cell? ⟨w.heap.size, k * 2, none⟩ = some z := by
        rw [HK1.out.cell (k * 2)]
        exact ⟨cs[k * 2], by simp [show k * 2 < cs.length by omega]⟩
      obtain ⟨z1', hz1⟩ : ∃ z, (wr.alloc (.cells S.toArray 84)).cell? ⟨w.heap.size, k * 2 + 1, none⟩ = some z := by
        rw [HK1.out.cell (k * 2 + 1)]
        exact ⟨cs[k * 2 + 1], by simp [show k * 2 + 1 < cs.length by omega]⟩
      have HK2 := Lib.hid ((HK1.out.set_ (k * 2) (.int .u64 x1)).set_ (k * 2 + 1) (.int .u64 x2))
      have HB2 := Lib.hid ((HB1.out.setCell (p := ⟨w.heap.size, k * 2, none⟩) (Nat.le_refl _) (.int .u64 x1)).setCell (p := ⟨w.heap.size, k * 2 + 1, none⟩) (Nat.le_refl _) (.int .u64 x2))
      have E0 := Lib.hid e0
      have E1 := Lib.hid e1
      clear HK HBE hb hc hso hg1 hg2 hcs hcl hls hlg e0 e1
      have F0 := Lib.hid f0
      have F1 := Lib.hid f1
      have ZZ0 := Lib.hid hz0
      have ZZ1 := Lib.hid hz1
      clear f0 f1 hz0 hz1
      go_wp2_with (first | (refine wpList_value rfl (exec_load_part 84 (.tmp 22) rfl gr (k * 259) rfl _ cur S _ _ HBK.out Try.underlying84 rfl (by rw [sizeSnp, HSL.out]) HC.out) ?_) | (refine wpList_value rfl (exec_alloc 84 i0 Z.toArray rfl HI.out HZ0.out) ?_) | (refine wpList_skip rfl (exec_store_new wr 84 Z.toArray S.toArray (.tmp 5) (.tmp 23) rfl rfl rfl (by rw [sizeSnp, List.size_toArray, HSL.out]) (by rw [List.size_toArray, List.size_toArray, HSL.out, HZL.out]) (cells_all HS1.out)) ?_; have e0 := E0.out; have e1 := E1.out; have f0 := F0.out; have f1 := F1.out; have z0 := ZZ0.out; have z1 := ZZ1.out))
      go_roundw
      case rel => exact ⟨k + 1, by have := HLI.out; omega, by go_num, by
        have h := HK2.out
        simp only [List.setIfInBounds_toArray] at h
        rw [HSE.out] at h
        exact h, HB2.out⟩
      case measure => simp [intOf]; omega
    · obtain rfl : k = n := by omega
      have HL2 : Hid (d.list.take k ++ List.replicate (d.list.length - k) (0, 0) = d.list) := by
        unfold Hid
        rw [← HLI.out, Nat.sub_self, List.take_length]
        simp
      have hbk := HK.out
      rw [HL2.out] at hbk
      have HT : Hid (GdL wr (some ⟨w.heap.size, 0, none⟩) d.list) := fun i hi => by
        obtain ⟨g0, g1⟩ := gcells_get d.list i hi
        exact ⟨w.heap.size, 0, rfl, hbk.lt, by rw [Nat.zero_add, hbk.cell]; simpa using g0, by rw [Nat.zero_add, hbk.cell]; simpa using g1, HGB.out _ (List.getElem_mem hi)⟩
      have HLT := Lib.hid hbk.lt
      clear hbk HK HL2
      go_wp2_with fail
      go_ret
      refine ⟨_, k, by rw [HLI.out]; rfl, HT.out, fun b o e => ?_, HBE.out⟩
      simp only [Option.some.injEq, Addr.mk.injEq, and_true] at e
      obtain ⟨rfl, _⟩ := e
      exact ⟨Nat.le_refl _, HLT.out⟩
end Go.Proofs.Ytfinmfmbbgakhaa.ch.pg

