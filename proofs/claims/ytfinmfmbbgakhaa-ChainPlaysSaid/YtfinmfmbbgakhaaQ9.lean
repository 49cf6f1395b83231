/- PgRoll, PgAdd, PgEq, ChMem. -/
import Derived.Test.YtfinmfmbbgakhaaQ0
import Derived.Test.YtfinmfmbbgakhaaQ1
import Derived.Test.YtfinmfmbbgakhaaQ6
import Derived.Test.YtfinmfmbbgakhaaQ7
import Derived.Test.YtfinmfmbbgakhaaQ8
import Derived.ChangeKeysEq
import Derived.Stop.BytesEq
import Derived.OwnWalk
/- The program's Rollback. -/
namespace Go.Proofs.Ytfinmfmbbgakhaa.ch.pg
open Go Go.RowKit Go.Sort Go.Proofs.Ytfinmfmbbgakhaa.ib
set_option maxRecDepth 100000

/-- Another live volume. -/
theorem PgAt.relive {w w' : World} {own : Nat → Prop} {p : Nat} {v : Value} {d : CH} {l : List Bt} (h : PgAt w own p v d) (ho : d.ok) (hl : volOk d.live.length l)
    (hw : w' = w.setRow p ((ccells d.live.length d.live v).toArray.toList.take 1 ++ vc l ++ (ccells d.live.length d.live v).toArray.toList.drop (1 + (vc l).length)).toArray) : PgAt w' own p v ⟨l, d.snaps⟩ ∧ But (fun j => j = p) w w' := by
  have hb := h.blk
  have e : ((ccells d.live.length d.live v).toArray.toList.take 1 ++ vc l ++ (ccells d.live.length d.live v).toArray.toList.drop (1 + (vc l).length)).toArray = (ccells d.live.length l v).toArray := by
    have := ccells_setl (m := d.live.length) (v := v) ho.live hl ho.n8
    rw [← this]
  rw [e] at hw
  have hbu := setRow_but w p (ccells d.live.length l v).toArray
  have hk2 := setRow_blk (c := (ccells d.live.length l v).toArray) hb
  rw [← hw] at hbu hk2
  refine ⟨⟨?_, h.row.of_block (fun j hj => hbu.block j (h.row.lt j hj) (h.vp j hj)), h.op, h.om, fun j hj => Nat.lt_of_lt_of_le (h.low j hj) hbu.size⟩, hbu⟩
  show Blk w' p _ (ccells l.length l v).toArray
  rw [hl.1]
  exact hk2

theorem lastS_take (d : CH) (m : Nat) : (lastS d.live.length (d.snaps.take m)).bs = (⟨d.live, d.snaps.take m⟩ : CH).base := lastS_bs ⟨d.live, d.snaps.take m⟩

set_option maxHeartbeats 6400000 in
theorem roll1_any {own : Nat → Prop} {w : World} {p : Nat} {d : CH} (k : Int) (h : Is0 own w p d) : Calls Try.prog 15 #[.pointer (some ⟨p, 0, none⟩), .int .i64 k] w fun e w' => Aft Is0 own p (d.roll k) w e w' ∧ But (fun j => j = p) w w' := by
  have HIS := Lib.hid h
  obtain ⟨h0, v, hr⟩ := h
  have c2 := hr.c2 h0
  have h20 := h0.few
  obtain ⟨A, c, hv, hlc, hA, _⟩ := srow_view hr.row h0.snaps h0.n8
  subst hv
  by_cases hbad : k < 0 ∨ (d.snaps.length : Int) < k
  · have HW : Hid (d.roll k = (d, 2)) := by unfold Hid CH.roll; rw [if_pos hbad]
    rw [HW.out]
    have hcs : k < 0 ∨ (¬ k < 0 ∧ (d.snaps.length : Int) < k) := by omega
    clear hbad HW hr h0
    rcases hcs with hk | ⟨hk, hk2⟩
    all_goals
      go_enter Try.func15, Try.ntmps15
      go_wp2_with fail
      go_ret
      exact is0_same HIS.out (Below.refl _ _) rfl
  · have HW : Hid (d.roll k = (⟨(⟨d.live, d.snaps.take k.toNat⟩ : CH).base, d.snaps.take k.toNat⟩, 0)) := by unfold Hid CH.roll; rw [if_neg hbad]
    rw [HW.out]
    obtain ⟨m, rfl⟩ : ∃ m : Nat, k = (m : Int) := ⟨k.toNat, by omega⟩
    rw [Int.toNat_natCast]
    have hm : m ≤ d.snaps.length := by omega
    have hk3 : ¬ (m : Int) < 0 := by omega
    have hk4 : ¬ (d.snaps.length : Int) < (m : Int) := by omega
    have hk5 : (m : Int) ≤ (c : Int) := by omega
    have hk6 : m ≤ c := by omega
    have HTR := Lib.hid (srow_take hr.row h0.snaps h0.n8 hm m (Nat.le_refl _) hk6)
    have HOT := Lib.hid (ok_take h0 m)
    have f1 := hr.blk.frozen 257
    have HR1 : Hid (PgAt (w.setCell ⟨p, 257, none⟩ (.slice A m m)) own p (.slice A m m) ⟨d.live, d.snaps.take m⟩) := by
      have hob : ∀ j, (Value.slice A m m).ownBlock = some j → (Value.slice A d.snaps.length c).ownBlock = some j := fun j hj => by
        cases A with
        | none => cases hj
        | some a => exact hj
      refine ⟨?_, HTR.out.of_block (fun j hj => set_oth _ _ _ _ _ (hr.vp j (hob j hj))), hr.op, fun j hj => hr.om j (hob j hj), fun j hj => ?_⟩
      · have := hr.blk.set_ 257 (.slice A m m)
        rw [ccells_setv h0.live h0.n8] at this
        exact this
      · have := hr.low j hj
        simpa [World.setCell] using this
    have HBU1 : Hid (But (fun j => j = p) w (w.setCell ⟨p, 257, none⟩ (.slice A m m))) := (But.refl _ w).setCell ⟨p, 257, none⟩ (.slice A m m) (.inl rfl)
    have HTL : Hid ((d.snaps.take m).length ≤ 20) := by unfold Hid; rw [List.length_take]; omega
    have HLA := Lib.hid (last_any HR1.out.row HOT.out.snaps HOT.out.n8 HTL.out)
    have hlo := lastS_ok (n := d.live.length) HOT.out.snaps
    have hfi := field_vol (lastS d.live.length (d.snaps.take m)) hlo h0.n8
    rw [lastS_take d m] at hfi hlo
    obtain ⟨S, hS⟩ : ∃ S, sc (lastS d.live.length (d.snaps.take m)) = S := ⟨_, rfl⟩
    rw [hS] at hfi
    have HLA2 : Hid (Calls Try.prog 33 #[.slice A m m] (w.setCell ⟨p, 257, none⟩ (.slice A m m)) fun e w' => e = .returned (.agg S.toArray) ∧ Below (w.setCell ⟨p, 257, none⟩ (.slice A m m)).heap.size (w.setCell ⟨p, 257, none⟩ (.slice A m m)) w') := by
      have := HLA.out
      rw [show sc (lastS (⟨d.live, d.snaps.take m⟩ : CH).live.length (⟨d.live, d.snaps.take m⟩ : CH).snaps) = S from hS] at this
      exact this
    obtain ⟨L, hL⟩ : ∃ L, (⟨d.live, d.snaps.take m⟩ : CH).base = L := ⟨_, rfl⟩
    rw [hL] at hfi hlo ⊢
    have HLO : Hid (volOk d.live.length L) := hlo
    have HVL : Hid ((vc L).length = 256) := vc_len HLO.out h0.n8
    have HH0 := Lib.hid h0
    have HOP := Lib.hid hr.op
    clear hbad HW hr h0 hlo hS hL HTR HLA HTL hA hm
    go_enter Try.func15, Try.ntmps15
    go_wp2_with fail
    refine HLA2.out.mono ?_
    rintro e W1 ⟨rfl, hb1⟩
    have HB1 := Lib.hid hb1
    have HR2 := Lib.hid (HR1.out.below hb1)
    clear hb1
    have HCL : Hid ((ccells (⟨d.live, d.snaps.take m⟩ : CH).live.length (⟨d.live, d.snaps.take m⟩ : CH).live (.slice A m m)).length = 258) := ccells_len HOT.out.live HOT.out.n8
    go_wp2_with (refine wpList_skip rfl (exec_store_part W1 69 (.tmp 38) (.tmp 36) rfl p 1 rfl (vc L) rfl _ _ HR2.out.blk (by rw [sizeVol, HVL.out]) (by rw [List.size_toArray, HCL.out, HVL.out]; decide) (vc_one L)) ?_)
    go_ret
    obtain ⟨hp2, hbu2⟩ := PgAt.relive HR2.out HOT.out HLO.out rfl
    have hbw := (HBU1.out.trans (S' := fun _ => False) (But.of_below HB1.out) (fun _ h => h.elim)).trans hbu2 (fun _ h => .inl h)
    exact ⟨⟨rfl, own, ⟨ok_live HOT.out HLO.out, _, hp2⟩, hbw.mono (fun j hj => by rw [hj]; exact HOP.out), fun j hj => .inl hj⟩, hbw⟩
end Go.Proofs.Ytfinmfmbbgakhaa.ch.pg

/- The program's Add. -/
namespace Go.Proofs.Ytfinmfmbbgakhaa.ch.pg
open Go Go.RowKit Go.Sort Go.Proofs.Ytfinmfmbbgakhaa.ib
set_option maxRecDepth 100000

def AdG (p : Nat) (v0 : Value) (S V N : List Value) (y1 y2 : Int) (B : Nat) : Nat → Value → World → Prop
  | 0, v, _ => v = .pointer (some ⟨p, 0, none⟩)
  | 1, v, _ => v = .pointer (some ⟨p, 0, none⟩)
  | 2, v, _ => v = .pointer (some ⟨p, 257, none⟩)
  | 3, v, _ => v = v0
  | 4, v, _ => v = .agg S.toArray
  | 5, v, _ => v = .agg V.toArray
  | 6, v, _ => v = .agg #[.int .u64 y1, .int .u64 y2]
  | 7, v, _ => v = .agg N.toArray
  | 8, v, w => ∃ g Z, v = .pointer (some ⟨g, 0, none⟩) ∧ B ≤ g ∧ Blk w g 84 Z ∧ Z.size = 259
  | _, _, _ => True
theorem AdG_mono (p : Nat) (v0 : Value) (S V N : List Value) (y1 y2 : Int) (B : Nat) (i : Nat) (v : Value) (w w' : World) (hi : i < 9) (h : AdG p v0 S V N y1 y2 B i v w) (hb : Below w.heap.size w w') : AdG p v0 S V N y1 y2 B i v w' := by
  match i, hi, h with
  | 0, _, h | 1, _, h | 2, _, h | 3, _, h | 4, _, h | 5, _, h | 6, _, h | 7, _, h => exact h
  | 8, _, ⟨g, Z, h1, h2, h3, h4⟩ => exact ⟨g, Z, h1, h2, h3.below hb, h4⟩

/-- How far the changes are put. -/
def AdRel (x : List (Int × Bt)) (base : List Bt) (n : Nat) (g : Gd) (gg : Nat) (w : World) (v i : Value) (wr : World) : Prop :=
  ∃ (j : Nat) (p : Int) (l : List Bt), j ≤ x.length ∧ i = .int .i64 (j : Int) ∧ v = .int .i64 (p + 1) ∧ -1 ≤ p ∧ p < 8 ∧ volOk n l ∧ putAll base (-1) x = putAll l p (x.drop j) ∧
    Blk wr gg 84 (sc ⟨g, l, false⟩).toArray ∧ Below w.heap.size w wr

set_option maxHeartbeats 12800000 in
theorem add_any {own : Nat → Prop} {w : World} {p : Nat} {d : CH} (g : Gd) (A : Option Addr) (c : Nat) (x : List (Int × Bt)) (h : Is0 own w p d) (hg : gdB g) (hx : ChL w A x) (hxl : x.length ≤ 1000) :
    Calls Try.prog 23 #[.pointer (some ⟨p, 0, none⟩), gv g, .slice A x.length c] w (Aft Is0 own p (d.add g x) w) := by
  obtain ⟨i0, hi, hz0, hz1, hz2⟩ := info_parts infoSnp
  have HI := Lib.hid hi
  have HZ0 := Lib.hid hz0
  have HZL : Hid ((sc z0).toArray.size = 259) := by unfold Hid; rw [List.size_toArray]; exact sc_len (n := 0) ⟨rfl, fun v hv => by simp [z0] at hv⟩ (by omega)
  obtain ⟨Z, hZ⟩ : ∃ Z, (sc z0).toArray = Z := ⟨_, rfl⟩
  rw [hZ] at HZ0 HZL
  have hb0 := (Below.refl w.heap.size w).alloc (Nat.le_refl _) (.cells #[.int .u64 (g.1 : Int), .int .u64 (g.2 : Int)] 37)
  have HIS := Lib.hid h
  have HX := Lib.hid hx
  obtain ⟨h0, v, hr⟩ := h
  have hr1 := hr.below hb0
  have HB0 := Lib.hid hb0
  have HRW := Lib.hid hr
  have HR0 := Lib.hid hr1
  have HH0 := Lib.hid h0
  have HG := Lib.hid hg
  have HM := Lib.hid (may_any (⟨h0, v, hr1⟩ : Is0 own _ p d) g)
  obtain ⟨y1, hy1⟩ : ∃ y, (g.1 : Int) = y := ⟨_, rfl⟩
  obtain ⟨y2, hy2⟩ : ∃ y, (g.2 : Int) = y := ⟨_, rfl⟩
  have HY1 := Lib.hid hy1
  have HY2 := Lib.hid hy2
  unfold gv at HM ⊢
  rw [hy1, hy2] at HM HB0 HR0 ⊢
  clear hb0 hg hy1 hy2 hr1 hr h0 hx hi hz0 hz1 hz2 hZ
  have HSN : Hid (d.add g x = if d.may g = 0 then (match putAll d.base (-1) x with
    | none => (d, 2)
    | some l => (⟨l, d.snaps ++ [⟨g, l, false⟩]⟩, 0)) else (d, d.may g)) := rfl
  have HMZ := Lib.hid (fun h => may_zero (c := d) (g := g) h)
  obtain ⟨m, hm⟩ : ∃ m, d.may g = m := ⟨_, rfl⟩
  rw [hm] at HM HSN HMZ
  clear hm
  obtain ⟨W0, hW0⟩ : ∃ W, w.alloc (.cells #[.int .u64 y1, .int .u64 y2] 37) = W := ⟨_, rfl⟩
  rw [hW0] at HM HR0 HB0
  have q0 : W0.cell? ⟨w.heap.size, 0, none⟩ = some (.int .u64 y1) := by rw [← hW0]; exact (Blk.new w _ _).cell 0
  have q1 : W0.cell? ⟨w.heap.size, 1, none⟩ = some (.int .u64 y2) := by rw [← hW0]; exact (Blk.new w _ _).cell 1
  have HS0 : Hid (w.heap.size < W0.heap.size) := by unfold Hid; rw [← hW0]; simp
  have Q0 := Lib.hid q0
  have Q1 := Lib.hid q1
  go_enter Try.func23, Try.ntmps23
  go_wp2_with fail
  clear hW0
  refine HM.out.mono ?_
  rintro e W1 ⟨rfl, hb1⟩
  have HB1 := Lib.hid (HB0.out.trans (hb1.mono HB0.out.size))
  have HR1 := Lib.hid (HR0.out.below hb1)
  have R0 : Hid (W1.cell? ⟨w.heap.size, 0, none⟩ = some (.int .u64 y1)) := (hb1.cell (p := ⟨w.heap.size, 0, none⟩) HS0.out).trans Q0.out
  have R1 : Hid (W1.cell? ⟨w.heap.size, 1, none⟩ = some (.int .u64 y2)) := (hb1.cell (p := ⟨w.heap.size, 1, none⟩) HS0.out).trans Q1.out
  have HS1 : Hid (w.heap.size < W1.heap.size) := Nat.lt_of_lt_of_le HS0.out hb1.size
  clear hb1 HM HR0 HB0 q0 q1 Q0 Q1 HS0
  by_cases hz : m = 0
  · subst hz
    have hsn := HSN.out
    rw [if_pos rfl] at hsn
    obtain ⟨_, hfew⟩ := HMZ.out rfl
    have HFEW := Lib.hid hfew
    have hbo := HH0.out.base_ok
    have HBO := Lib.hid hbo
    have hlo := lastS_ok (n := d.live.length) HH0.out.snaps
    have hfi := field_vol (lastS d.live.length d.snaps) hlo HH0.out.n8
    rw [lastS_bs d] at hfi
    have HFI := Lib.hid hfi
    have HLA := Lib.hid (fun W (hb : Below W1.heap.size W1 W) => last_any ((HR1.out.below hb).row) HH0.out.snaps HH0.out.n8 HH0.out.few)
    obtain ⟨S, hS⟩ : ∃ S, sc (lastS d.live.length d.snaps) = S := ⟨_, rfl⟩
    rw [hS] at HLA HFI
    obtain ⟨base, hbase⟩ : ∃ b, d.base = b := ⟨_, rfl⟩
    rw [hbase] at HBO HFI hsn
    have HSD := Lib.hid hsn
    clear hsn HSN HMZ hfew hbo hlo hfi hS hbase
    have HNL : Hid ((sc ⟨g, base, false⟩).length = 259) := sc_len HBO.out HH0.out.n8
    have HN1 := Lib.hid (sc_one ⟨g, base, false⟩)
    have HNC : Hid (∃ N, sc ⟨g, base, false⟩ = N) := ⟨_, rfl⟩
    go_wp2_with fail
    refine wp_region_slots_f (by kernel_rfl) 9 [18, 19, 20, 21, 22, 23, 24, 25, 8] (by kernel_rfl) (AdG p v S (vc base) (sc ⟨g, base, false⟩) y1 y2 W1.heap.size) (AdG_mono _ _ _ _ _ _ _ _) ?_ ?_
    · intro i o vs ρ W hi9 hop hρ hfn hb hG
      have t0 : ρ (.tmp 0) = .pointer (some ⟨p, 0, none⟩) := hρ.out 0 rfl
      have t4 : ρ (.tmp 4) = .pointer (some ⟨w.heap.size, 0, none⟩) := hρ.out 4 rfl
      have hc := hρ.const
      have s18 := hρ.at_ 18 0 rfl
      have s19 := hρ.at_ 19 1 rfl
      have s20 := hρ.at_ 20 2 rfl
      have s21 := hρ.at_ 21 3 rfl
      have s22 := hρ.at_ 22 4 rfl
      have s23 := hρ.at_ 23 5 rfl
      have s24 := hρ.at_ 24 6 rfl
      have c2 := (HR1.out.below hb).c2 HH0.out
      have r0 : W.cell? ⟨w.heap.size, 0, none⟩ = some (.int .u64 y1) := (hb.cell (p := ⟨w.heap.size, 0, none⟩) HS1.out).trans R0.out
      have r1 : W.cell? ⟨w.heap.size, 1, none⟩ = some (.int .u64 y2) := (hb.cell (p := ⟨w.heap.size, 1, none⟩) HS1.out).trans R1.out
      rcases i with _ | _ | _ | _ | _ | _ | _ | _ | _ | i
      all_goals (first | omega | skip)
      all_goals simp only [List.getElem?_toArray, List.getElem?_cons_zero, List.getElem?_cons_succ, Option.some.injEq] at hop
      all_goals subst hop
      · exact stepTo_value (w' := W) (by unfold execOp; simp only [t0]; go_simp) ⟨Below.refl _ _, rfl⟩
      · have g0 : vs 0 = _ := hG 0 (by kernel_rfl)
        exact stepTo_value (w' := W) (by unfold execOp; simp only [s18, g0]; go_simp) ⟨Below.refl _ _, rfl⟩
      · have g1 : vs 1 = _ := hG 1 (by kernel_rfl)
        exact stepTo_value (w' := W) (by unfold execOp; simp only [s19, g1]; go_simp) ⟨Below.refl _ _, rfl⟩
      · have g2 : vs 2 = _ := hG 2 (by kernel_rfl)
        obtain ⟨A4, c4, hv4, _⟩ := HR1.out.row
        rw [hv4] at c2 ⊢
        exact stepTo_value (w' := W) (by unfold execOp; simp only [s20, g2]; go_simp) ⟨Below.refl _ _, rfl⟩
      · have g3 : vs 3 = _ := hG 3 (by kernel_rfl)
        refine stepTo_enter (f := 33) (args := #[v]) (w' := W) (by unfold execOp; simp only [hc, hfn, s21, g3]; go_simp) ((HLA.out W hb).mono ?_)
        rintro e W' ⟨rfl, h1⟩
        exact ⟨_, rfl, h1, rfl⟩
      · have g4 : vs 4 = _ := hG 4 (by kernel_rfl)
        have hfi := HFI.out
        exact stepTo_value (w' := W) (by unfold execOp; simp only [s22, g4]; go_simp) ⟨Below.refl _ _, rfl⟩
      · exact stepTo_value (w' := W) (by unfold execOp; simp only [t4]; go_simp) ⟨Below.refl _ _, rfl⟩
      · have g5 : vs 5 = _ := hG 5 (by kernel_rfl)
        have g6 : vs 6 = _ := hG 6 (by kernel_rfl)
        exact stepTo_value (w' := W) (exec_buildS (.tmp 23) (.tmp 24) base g y1 y2 HY1.out HY2.out rfl (s23.trans g5) (s24.trans g6) HBO.out HH0.out.n8) ⟨Below.refl _ _, rfl⟩
      · exact stepTo_value (exec_alloc 84 i0 _ rfl HI.out HZ0.out) ⟨(Below.refl _ W).alloc (Nat.le_refl _) _, W.heap.size, _, rfl, hb.size, Blk.new _ _ _, HZL.out⟩
    · intro vs W hb hG
      have g0 : vs 0 = _ := hG 0 (by decide)
      have g7 : vs 7 = _ := hG 7 (by decide)
      obtain ⟨gg, Zc, g8, hgB, hgk, hgz⟩ := hG 8 (by decide)
      simp only [putList, putSel, if_true]
      rw [g7, g8]
      generalize vs 0 = z0
      generalize vs 1 = z1
      generalize vs 2 = z2
      generalize vs 3 = z3
      generalize vs 4 = z4
      generalize vs 5 = z5
      generalize vs 6 = z6
      clear hG g0 g7 g8
      simp only [Act.put, List.setIfInBounds_toArray, List.set_cons_succ, List.set_cons_zero]
      refine wpAny_one (i := 9) (by kernel_rfl) rfl rfl ?_
      refine wp_skip (exec_store_part W 84 (.tmp 8) (.tmp 25) rfl gg 0 rfl (sc ⟨g, base, false⟩) rfl 84 _ hgk (by rw [sizeSnp, HNL.out]) (by rw [HNL.out, hgz]; omega) HN1.out) ?_
      have e1 : (Zc.toList.take 0 ++ sc ⟨g, base, false⟩ ++ Zc.toList.drop (0 + (sc ⟨g, base, false⟩).length)) = sc ⟨g, base, false⟩ := by
        rw [List.take_zero, List.nil_append, List.drop_of_length_le, List.append_nil]
        rw [HNL.out, Array.length_toList, hgz]
        omega
      rw [e1]
      have HBX := Lib.hid (setRow_blk (c := (sc ⟨g, base, false⟩).toArray) hgk)
      have hbt := setRow_but W gg (sc ⟨g, base, false⟩).toArray
      have hb2 : Below W1.heap.size W1 (W.setRow gg (sc ⟨g, base, false⟩).toArray) := hb.trans (hbt.below (fun i hi => by rw [hi]; exact hgB) hb.size)
      have HB2 := Lib.hid (HB1.out.trans (hb2.mono HB1.out.size))
      have HR2 := Lib.hid (HR1.out.below hb2)
      have HGB : Hid (w.heap.size ≤ gg) := Nat.le_trans HB1.out.size hgB
      have HX2 := Lib.hid (HX.out.below HB2.out)
      clear hb hgk hgz hbt hb2 e1 HR1 HNC HN1 HNL hgB
      generalize W.setRow gg (sc ⟨g, base, false⟩).toArray = W2 at *
      refine ⟨by kernel_rfl, ?_⟩
      go_wp2_with fail
      go_loopw [9, 28] (fun v i wr => AdRel x base d.live.length g gg w v i wr) (fun _ i _ => x.length - (intOf i).toNat)
      case atStart => exact ⟨0, -1, base, Nat.zero_le _, rfl, rfl, by omega, by omega, HBO.out, by rw [List.drop_zero], HBX.out, HB2.out⟩
      case round =>
        obtain ⟨j, pr, l, hj, rfl, rfl, hp1, hp8, hlo, hpa, hbk, hbel⟩ := hrel
        have HLO := Lib.hid hlo
        have HPA := Lib.hid hpa
        have HBK := Lib.hid hbk
        have HBE := Lib.hid hbel
        have HR3 := Lib.hid (HRW.out.below hbel)
        have HLL : Hid (l.length = d.live.length) := hlo.1
        clear hlo hpa hbk hbel
        by_cases hlt : j < x.length
        · have hji : (j : Int) < (x.length : Int) := by omega
          obtain ⟨bx, ox, rfl, hbx, e0, e1, hb64⟩ := HX.out j hlt
          have e0 := (HBE.out.cell (p := ⟨bx, ox + j * 2, none⟩) hbx).trans e0
          have e1 := (HBE.out.cell (p := ⟨bx, ox + j * 2 + 1, none⟩) hbx).trans e1
          have hdrop : x.drop j = x[j] :: x.drop (j + 1) := List.drop_eq_getElem_cons hlt
          have hpa := HPA.out
          rw [hdrop] at hpa
          generalize x[j] = xe at *
          obtain ⟨kz, s⟩ := xe
          dsimp only at e0 e1 hb64
          have HPU : Hid (putAll base (-1) x = if kz ≤ pr ∨ (l.length : Int) ≤ kz ∨ s.length ≠ 32 then none else putAll (l.set kz.toNat s) kz (x.drop (j + 1))) := hpa
          clear hdrop hpa HPA
          have HT := Lib.hid (fun W (hb : Below wr.heap.size wr W) => takes_any ((HR3.out.below hb).c0) kz s)
          by_cases hk1 : kz < pr + 1
          · have hs2 := HSD.out
            rw [HPU.out, if_pos (.inl (by omega))] at hs2
            have HS2 := Lib.hid hs2
            clear hs2 HPU HSD HT
            go_wp2_with fail
            go_ret
            rw [HS2.out]
            exact (is0_same HIS.out (HBE.out.alloc HBE.out.size _) rfl).1
          · have HBA := Lib.hid ((Below.refl wr.heap.size wr).alloc (Nat.le_refl _) (.cells #[.int .i64 kz, .string (str s)] 60))
            have HTA := Lib.hid (HT.out _ HBA.out)
            have HA0 : Hid (Blk (wr.alloc (.cells #[.int .i64 kz, .string (str s)] 60)) wr.heap.size 60 #[.int .i64 kz, .string (str s)]) := Blk.new _ _ _
            have hk2 : ¬ kz < pr + 1 := hk1
            clear HT
            have a0 := HA0.out.cell 0
            have a1 := HA0.out.cell 1
            simp only [List.getElem?_toArray, List.getElem?_cons_zero, List.getElem?_cons_succ] at a0 a1
            by_cases hgd : 0 ≤ kz ∧ kz < (d.live.length : Int) ∧ s.length = 32
            · obtain ⟨kn, rfl⟩ : ∃ kn : Nat, kz = (kn : Int) := ⟨kz.toNat, by omega⟩
              rw [decide_eq_true hgd] at HTA
              have hkl : kn < l.length := by have := HLL.out; omega
              have hkp : pr < (kn : Int) := by omega
              have HKL := Lib.hid hkl
              have HS32 := Lib.hid hgd.2.2
              have h8 := HH0.out.n8
              have hk8 : kn < 8 := by omega
              have hpu := HPU.out
              rw [if_neg (by have := HLL.out; omega), Int.toNat_natCast] at hpu
              have HPN := Lib.hid hpu
              clear hpu HPU hgd hkl
              go_wp2_with fail
              refine HTA.out.mono ?_
              rintro e W3 ⟨rfl, hb3⟩
              have HB3 := Lib.hid (HBA.out.trans (hb3.mono HBA.out.size))
              have HA3 := Lib.hid (HA0.out.below hb3)
              have HLT3 := Lib.hid HBK.out.lt
              have a0 := HA3.out.cell 0
              have a1 := HA3.out.cell 1
              simp only [List.getElem?_toArray, List.getElem?_cons_zero, List.getElem?_cons_succ] at a0 a1
              have HBK3 := Lib.hid (HBK.out.below HB3.out)
              clear hb3 HTA HA0 HBA HBK
              go_wp2_with fail
              refine (set_any HBK3.out (o := 0) (by rw [List.size_toArray, sc_len HLO.out h8]; omega) kn hk8 s HS32.out).mono ?_
              rintro e W4 ⟨rfl, hW4⟩
              have hset := sc_set1 (s := ⟨g, l, false⟩) HLO.out h8 kn s HKL.out
              have e2 : W4 = W3.setRow gg (sc ⟨g, l.set kn s, false⟩).toArray := by
                rw [hW4, ← hset]
              have hbt := setRow_but W3 gg (sc ⟨g, l.set kn s, false⟩).toArray
              have hbk4 := setRow_blk (c := (sc ⟨g, l.set kn s, false⟩).toArray) HBK3.out
              rw [← e2] at hbt hbk4
              have HK4 := Lib.hid hbk4
              have HA4 := Lib.hid (HA3.out.of_block (hbt.block _ HA3.out.lt (by have := HLT3.out; omega)))
              have a2 := HA4.out.cell 0
              simp only [List.getElem?_toArray, List.getElem?_cons_zero] at a2
              have HBW4 : Hid (But (fun i => i = gg) wr W4) := (But.of_below (S := fun i => i = gg) HB3.out).trans hbt (fun _ h => .inl h)
              have hwr : IntKind.i64.wrap ((kn : Int) + 1) = (kn : Int) + 1 := IntWalk.i64_in _ (by omega)
              clear hset e2 hbt hbk4 hW4 a0 a1
              go_wp2_with fail
              go_roundw
              case rel =>
                exact ⟨j + 1, kn, l.set kn s, by omega, by go_num, rfl, by omega, by omega, set_ok HLO.out HS32.out, HPN.out, HK4.out, HBE.out.trans (HBW4.out.below (fun i hi => by rw [hi]; exact HGB.out) HBE.out.size)⟩
              case measure => simp [intOf]; omega
            · rw [decide_eq_false hgd] at HTA
              have hs2 := HSD.out
              rw [HPU.out, if_pos (by have := HLL.out; omega)] at hs2
              have HS2 := Lib.hid hs2
              clear hs2 HPU HSD hgd
              go_wp2_with fail
              refine HTA.out.mono ?_
              rintro e W3 ⟨rfl, hb3⟩
              have HB3 := Lib.hid (HBE.out.trans ((HBA.out.trans (hb3.mono HBA.out.size)).mono HBE.out.size))
              clear hb3 HTA HA0 HBA HBK a0 a1
              go_wp2_with fail
              go_ret
              rw [HS2.out]
              exact (is0_same HIS.out HB3.out rfl).1
        · have hji : ¬ (j : Int) < (x.length : Int) := by omega
          have hpa := HPA.out
          rw [List.drop_of_length_le (by omega), putAll_nil] at hpa
          have hs2 := HSD.out
          rw [hpa] at hs2
          have HS2 : Hid (d.add g x = (⟨l, d.snaps ++ [⟨g, l, false⟩]⟩, 0)) := hs2
          have HPU := Lib.hid (put_any HR3.out HH0.out HFEW.out ⟨g, l, false⟩ HLO.out)
          have HOK := Lib.hid (ok_push' HH0.out ⟨g, l, false⟩ HFEW.out HLO.out HG.out)
          have HSL : Hid ((sc ⟨g, l, false⟩).length = 259) := sc_len HLO.out HH0.out.n8
          have HVL : Hid ((vc l).length = 256) := vc_len HLO.out HH0.out.n8
          have HVC : Hid (∀ j u, (vc l)[j]? = some u → (sc ⟨g, l, false⟩).toArray[0 + j]? = some u) := fun j u hu => by
            rw [Nat.zero_add]
            simpa using sc_vc ⟨g, l, false⟩ j u hu
          obtain ⟨N, hN⟩ : ∃ N, sc ⟨g, l, false⟩ = N := ⟨_, rfl⟩
          rw [hN] at HPU HSL HBK HVC
          clear hpa hs2 HSD HPA hN
          go_wp2_with (refine wpList_value rfl (exec_load_part 84 (.tmp 8) rfl gg 0 rfl _ N.toArray N _ _ HBK.out Try.underlying84 rfl (by rw [sizeSnp, HSL.out]) (fun j u hu => by rw [Nat.zero_add]; simpa using hu)) ?_)
          refine HPU.out.mono ?_
          rintro e W5 ⟨rfl, v5, own5, hp5, hbu5, hgr5⟩
          have HP5 := Lib.hid hp5
          have HBU5 := Lib.hid ((But.of_below (S := fun i => i = p) HBE.out).trans hbu5 (fun _ h => .inl h))
          have HGR5 : Hid (∀ i, own5 i → own i ∨ w.heap.size ≤ i) := fun i hi => by
            rcases hgr5 i hi with h | h
            · exact .inl h
            · have := HBE.out.size
              exact .inr (by omega)
          have HBK5 := Lib.hid (HBK.out.of_block (hbu5.block gg HBK.out.lt (blk_type HBK.out HR3.out.blk (by decide))))
          have HCL : Hid ((ccells (⟨d.live, d.snaps ++ [⟨g, l, false⟩]⟩ : CH).live.length (⟨d.live, d.snaps ++ [⟨g, l, false⟩]⟩ : CH).live v5).length = 258) := ccells_len HOK.out.live HOK.out.n8
          clear hp5 hbu5 hgr5 HPU
          go_wp2_with (first | (refine wpList_value rfl (exec_load_part 69 (.tmp 59) rfl gg 0 rfl _ N.toArray (vc l) _ _ HBK5.out Try.underlying69 rfl (by rw [sizeVol, HVL.out]) HVC.out) ?_) | (refine wpList_skip rfl (exec_store_part W5 69 (.tmp 62) (.tmp 60) rfl p 1 rfl (vc l) rfl _ _ HP5.out.blk (by rw [sizeVol, HVL.out]) (by rw [List.size_toArray, HCL.out, HVL.out]; decide) (vc_one l)) ?_))
          go_ret
          obtain ⟨hp6, hbu6⟩ := PgAt.relive HP5.out HOK.out HLO.out rfl
          have hbw := HBU5.out.trans hbu6 (fun _ h => .inl h)
          rw [HS2.out]
          exact ⟨rfl, own5, ⟨ok_live HOK.out HLO.out, _, hp6⟩, hbw.mono (fun i hi => by rw [hi]; exact HRW.out.op), HGR5.out⟩
  · have hcn : (m != 0) = true := by simpa using hz
    have hsn := HSN.out
    rw [if_neg hz] at hsn
    have HSD := Lib.hid hsn
    clear hsn HSN HMZ HR1
    go_wp2_with fail
    go_ret
    rw [HSD.out]
    exact (is0_same HIS.out HB1.out rfl).1
end Go.Proofs.Ytfinmfmbbgakhaa.ch.pg

/- Are two volumes alike, two blocks: the program's comparisons of arrays. -/
namespace Go.Proofs.Ytfinmfmbbgakhaa.ch.pg
open Go Go.RowKit Go.Proofs.Ytfinmfmbbgakhaa.ib
set_option maxRecDepth 100000

theorem size_u8 (w : World) : (sizeOf 5).run Try.prog w = .ok 1 w := by
  obtain ⟨i0, hi, hz0, hz1, hz2⟩ := info_parts Try.info5
  simp [sizeOf, typeInfo, hi, hz1]
theorem eq_b32 (d : Nat) (x y : Bt) (hx : x.length = 32) (hy : y.length = 32) (w : World) :
    (Op.equalIn (d + 2) 67 (.agg (Lib.byteCells x).toArray) (.agg (Lib.byteCells y).toArray)).run Try.prog w = .ok (decide (x = y)) w := by
  have h := run_equalIn_bytes (P := Try.prog) w d 67 5 32 Try.underlying67 Try.underlying5 size_u8 x y hx hy
  have e : decide (x = y) = (x == y) := by rw [Bool.eq_iff_iff]; simp
  rw [e]
  exact h
theorem part_b32 (ps : List Bt) (h : ∀ v ∈ ps, (Lib.byteCells v).length = 32) (k : Nat) (hk : k < ps.length) (w : World) :
    (part 67 (ps.flatMap Lib.byteCells).toArray (k * 32)).run Try.prog w = .ok (.agg (Lib.byteCells ps[k]).toArray) w := by
  have ha : (isAgg 67).run Try.prog w = .ok true w := by
    unfold isAgg
    rw [Sem.run_bind, run_underlying Try.underlying67 w]
    rfl
  have hz : (sizeOf 67).run Try.prog w = .ok 32 w := by
    cases hq : Try.prog.info? 67 with
    | none => have := sizeB32; simp [hq] at this
    | some i =>
      have := sizeB32
      simp [hq] at this
      simp [sizeOf, typeInfo, hq, this]
  have he : ((ps.flatMap Lib.byteCells).toArray.extract (k * 32) (k * 32 + 32)) = (Lib.byteCells ps[k]).toArray := by
    apply Array.ext'
    rw [Array.toList_extract]
    rw [List.extract_eq_take_drop, show k * 32 + 32 - k * 32 = 32 by omega]
    rw [fm_drop ps k h, List.drop_eq_getElem_cons hk, List.flatMap_cons, List.take_left' (h _ (List.getElem_mem hk))]
  simp only [part, Sem.run_bind, ha, Result.andThen_ok, if_true, hz, Sem.run_pure, he]
theorem items_b32 (d : Nat) (ps qs : List Bt) (hp : ∀ v ∈ ps, v.length = 32) (hq : ∀ v ∈ qs, v.length = 32) (w : World) : ∀ is : List Nat, (∀ i ∈ is, i < ps.length ∧ i < qs.length) →
    (Op.eqItems (d + 2) 67 32 (ps.flatMap Lib.byteCells).toArray (qs.flatMap Lib.byteCells).toArray is).run Try.prog w = .ok (is.all fun i => decide (ps[i]? = qs[i]?)) w
  | [], _ => by simp [Op.eqItems]
  | i :: is, h => by
    obtain ⟨h1, h2⟩ := h i (by simp)
    have ih := items_b32 d ps qs hp hq w is (fun j hj => h j (by simp [hj]))
    have p1 := part_b32 ps (fun v hv => by rw [Lib.byteCells_length, hp v hv]) i h1 w
    have p2 := part_b32 qs (fun v hv => by rw [Lib.byteCells_length, hq v hv]) i h2 w
    have p3 := eq_b32 d ps[i] qs[i] (hp _ (List.getElem_mem h1)) (hq _ (List.getElem_mem h2)) w
    have e : decide (ps[i]? = qs[i]?) = decide (ps[i] = qs[i]) := by
      rw [List.getElem?_eq_getElem h1, List.getElem?_eq_getElem h2]
      simp
    rw [List.all_cons, e]
    obtain ⟨b, hb⟩ : ∃ b, decide (ps[i] = qs[i]) = b := ⟨_, rfl⟩
    rw [hb] at p3 ⊢
    generalize (is.all fun i => decide (ps[i]? = qs[i]?)) = r at *
    generalize ps[i] = x at *
    generalize qs[i] = y at *
    generalize (ps.flatMap Lib.byteCells).toArray = P at *
    generalize (qs.flatMap Lib.byteCells).toArray = Q at *
    generalize Lib.byteCells x = X at *
    generalize Lib.byteCells y = Y at *
    have hu : Op.eqItems (d + 2) 67 32 P Q (i :: is) = (do
      let a ← part 67 P (i * 32)
      let b ← part 67 Q (i * 32)
      let r ← Op.equalIn (d + 2) 67 a b
      if (!r) = true then pure false else Op.eqItems (d + 2) 67 32 P Q is) := rfl
    rw [hu, Sem.run_bind, p1, Result.andThen_ok, Sem.run_bind, p2, Result.andThen_ok, Sem.run_bind, p3, Result.andThen_ok]
    cases b
    · rfl
    · exact ih
theorem eq_vol {n : Nat} (p q : List Bt) (hp : volOk n p) (hq : volOk n q) (h8 : n ≤ 8) (w : World) :
    (Op.equalIn 10000 69 (.agg (vc p).toArray) (.agg (vc q).toArray)).run Try.prog w = .ok (decide (p = q)) w := by
  cases hi : Try.prog.info? 67 with
  | none => have := sizeB32; simp [hi] at this
  | some i =>
    have hc : Try.prog.cellsOf 67 = 32 := by
      have := sizeB32
      simp [hi] at this
      simp [Program.cellsOf, hi, this]
    rw [show (10000 : Nat) = 9999 + 1 from rfl, run_equalIn_array w 9999 _ _ Try.underlying69 hi, hc]
    unfold vc
    rw [show (9999 : Nat) = 9997 + 2 from rfl, items_b32 9997 (pad p) (pad q) (pad_32 hp) (pad_32 hq) w (List.range 8) (fun j hj => by rw [pad_len hp h8, pad_len hq h8]; have := List.mem_range.1 hj; omega)]
    congr 1
    rw [Bool.eq_iff_iff]
    simp only [List.all_eq_true, List.mem_range, decide_eq_true_eq]
    constructor
    · intro h
      refine pad_inj (hp.1.trans hq.1.symm) (List.ext_getElem? fun j => ?_)
      by_cases hj : j < 8
      · exact h j hj
      · rw [List.getElem?_eq_none (by rw [pad_len hp h8]; omega), List.getElem?_eq_none (by rw [pad_len hq h8]; omega)]
    · rintro rfl j _
      rfl
theorem exec_eqvol {ρ : Operand → Value} {o : Oper} {w : World} {n : Nat} (x y : Operand) (p q : List Bt) (ho : o.op = .binOp .eql 69 x y 69) (hx : ρ x = .agg (vc p).toArray) (hy : ρ y = .agg (vc q).toArray) (hp : volOk n p) (hq : volOk n q) (h8 : n ≤ 8) :
    (execOp ρ o).run Try.prog w = .ok (.value (.bool (decide (p = q)))) w := by
  have he := eq_vol p q hp hq h8 w
  have hg := run_eqGuard_agg (P := Try.prog) w .eql 69 x y (vc p).toArray (vc q).toArray Try.eqGuardType69
  have hb : (binOp .eql 69 (.agg (vc p).toArray) (.agg (vc q).toArray)).run Try.prog w = .ok (.bool (decide (p = q))) w := by
    rw [run_eql_struct, he]
    rfl
  simp [execOp, ho, hx, hy, hg, hb, Result.andThen]
theorem exec_neq32 {ρ : Operand → Value} {o : Oper} {w : World} (x y : Operand) (p q : Bt) (ho : o.op = .binOp .neq 67 x y 67) (hx : ρ x = .agg (Lib.byteCells p).toArray) (hy : ρ y = .agg (Lib.byteCells q).toArray) (hp : p.length = 32) (hq : q.length = 32) :
    (execOp ρ o).run Try.prog w = .ok (.value (.bool (!decide (p = q)))) w := by
  have he := eq_b32 9998 p q hp hq w
  have hg := run_eqGuard_agg (P := Try.prog) w .neq 67 x y (Lib.byteCells p).toArray (Lib.byteCells q).toArray Try.eqGuardType67
  have hb : (binOp .neq 67 (.agg (Lib.byteCells p).toArray) (.agg (Lib.byteCells q).toArray)).run Try.prog w = .ok (.bool (!decide (p = q))) w := by
    rw [run_neq_struct, he]
    rfl
  simp [execOp, ho, hx, hy, hg, hb, Result.andThen]
end Go.Proofs.Ytfinmfmbbgakhaa.ch.pg

/- Slices of changes that a call made. -/
namespace Go.Proofs.Ytfinmfmbbgakhaa.ch
open Go Go.RowKit Go.Proofs.Ytfinmfmbbgakhaa.ib
set_option maxRecDepth 100000

theorem infoCh : (Try.prog.info? 60).map (fun i => (i.zero, i.size, i.bytes)) = some (some (.agg #[.int .i64 0, .string ByteArray.empty]), 2, 24) := by kernel_rfl
def chVals : List (Int × Bt) → List Value
  | [] => []
  | x :: r => .int .i64 x.1 :: .string (str x.2) :: chVals r
def OChs (w : World) (B : Nat) (v : Value) (l : List (Int × Bt)) : Prop := w.ownsRow B 60 2 v l.length (chVals l)

theorem chVals_append : ∀ (l r : List (Int × Bt)), chVals (l ++ r) = chVals l ++ chVals r
  | [], _ => rfl
  | x :: l, r => by simp [chVals, chVals_append l r]
theorem chVals_len : ∀ l : List (Int × Bt), (chVals l).length = l.length * 2
  | [] => rfl
  | x :: l => by simp [chVals, chVals_len l]; omega
theorem chVals_get : ∀ (l : List (Int × Bt)) (i : Nat) (h : i < l.length), (chVals l)[i * 2]? = some (.int .i64 l[i].1) ∧ (chVals l)[i * 2 + 1]? = some (.string (str l[i].2))
  | x :: l, 0, _ => ⟨rfl, rfl⟩
  | x :: l, i + 1, h => by
    have := chVals_get l i (by simpa using h)
    rw [show (i + 1) * 2 = i * 2 + 1 + 1 from by omega]
    exact this

theorem OChs.view {w : World} {B : Nat} {v : Value} {l : List (Int × Bt)} (h : OChs w B v l) (hz : ∀ x ∈ l, b64 x.1) : ∃ a c, v = .slice a l.length c ∧ ChL w a l := by
  rcases h.2 with ⟨rfl, h0⟩ | ⟨g, cap, cur, rfl, hg, hh, hcc, hm, hcs, hcur⟩
  · obtain rfl : l = [] := List.length_eq_zero_iff.1 h0
    exact ⟨none, 0, rfl, fun i h => by simp at h⟩
  · refine ⟨some ⟨g, 0, none⟩, cap, rfl, fun i hi => ?_⟩
    have key : ∀ (j : Nat) (u : Value), (chVals l)[j]? = some u → w.cell? ⟨g, j, none⟩ = some u := by
      intro j u hu
      rw [cell_of_row w g j cur 60 (0, 0) hh]
      rw [← hcur, List.getElem?_take] at hu
      split at hu
      · simpa using hu
      · cases hu
    obtain ⟨g0, g1⟩ := chVals_get l i hi
    exact ⟨g, 0, rfl, (Array.getElem?_eq_some_iff.1 hh).1, by rw [Nat.zero_add]; exact key _ _ g0, by rw [Nat.zero_add]; exact key _ _ g1, hz _ (List.getElem_mem hi)⟩

theorem two_one (x : Int × Bt) : ∀ u ∈ ([Value.int .i64 x.1, .string (str x.2)] : List Value), u.oneCell' = true := by
  intro u hu
  simp at hu
  rcases hu with rfl | rfl <;> rfl

theorem news_two (w : World) (t : TypeId) (v u : Value) : ∀ (j : Nat) (x : Value), ([v, u] : List Value)[j]? = some x → (w.alloc (.cells #[v, u] t)).cell? ((⟨w.heap.size, 0, none⟩ : Addr).add j) = some x := by
  intro j x hj
  match j, hj with
  | 0, hj =>
    simp at hj
    subst hj
    rw [addr_add]
    exact (Blk.new w t #[v, u]).cell 0
  | 1, hj =>
    simp at hj
    subst hj
    rw [addr_add]
    exact (Blk.new w t #[v, u]).cell 1

theorem OChs.snoc {w1 : World} {B : Nat} {v' : Value} {l : List (Int × Bt)} {x : Int × Bt} (h : w1.ownsRow B 60 2 v' (l.length + 1) (chVals l ++ [.int .i64 x.1, .string (str x.2)])) : OChs w1 B v' (l ++ [x]) := by
  unfold OChs
  rw [List.length_append, chVals_append]
  exact h

theorem ochs_base {w : World} {B C : Nat} {v : Value} {l : List (Int × Bt)} (h : OChs w B v l) (hc : C ≤ B) : OChs w C v l := by
  refine ⟨h.1, ?_⟩
  rcases h.2 with hn | ⟨g, cap, cur, hv, hb, rest⟩
  · exact .inl hn
  · exact .inr ⟨g, cap, cur, hv, Nat.le_trans hc hb, rest⟩

def okChs (l : List (Int × Bt)) (w : World) (e : Ending) (w' : World) : Prop := ∃ v, e = .returned v ∧ OChs w' w.heap.size v l ∧ Below w.heap.size w w'
/-- A slice of puts that came in. -/
def PtL (w : World) (A : Option Addr) (zs : List (Int × UInt8)) : Prop :=
  ∀ i (h : i < zs.length), ∃ b o, A = some ⟨b, o, none⟩ ∧ b < w.heap.size ∧ w.cell? ⟨b, o + i * 2, none⟩ = some (.int .i64 zs[i].1) ∧ w.cell? ⟨b, o + i * 2 + 1, none⟩ = some (.int .u8 (zs[i].2.toNat : Int)) ∧ b64 zs[i].1
theorem PtL.below {w w' : World} {A : Option Addr} {x : List (Int × UInt8)} (h : PtL w A x) (hb : Below w.heap.size w w') : PtL w' A x := by
  intro i hi
  obtain ⟨b, o, h1, h2, h3, h4, h5⟩ := h i hi
  exact ⟨b, o, h1, Nat.lt_of_lt_of_le h2 hb.size, by rw [hb.cell (p := ⟨b, o + i * 2, none⟩) h2]; exact h3, by rw [hb.cell (p := ⟨b, o + i * 2 + 1, none⟩) h2]; exact h4, h5⟩
def chOf (zs : List (Int × UInt8)) : List (Int × Bt) := (zs.take 10).map fun x => (x.1, dat x.2)

theorem OChs.view2 {w : World} {B : Nat} {v : Value} {l : List (Int × Bt)} (h : OChs w B v l) (hz : ∀ x ∈ l, b64 x.1) : ∃ a c, v = .slice a l.length c ∧ ChL w a l ∧ ∀ b o, a = some ⟨b, o, none⟩ → B ≤ b ∧ b < w.heap.size := by
  obtain ⟨a, c, hv, hl⟩ := h.view hz
  refine ⟨a, c, hv, hl, fun b o e => ?_⟩
  rcases h.2 with ⟨rfl, _⟩ | ⟨g, cap, cur, rfl, hg, hh, _⟩
  · simp only [Value.slice.injEq] at hv
    rw [e] at hv
    cases hv.1
  · simp only [Value.slice.injEq] at hv
    rw [e] at hv
    obtain ⟨h1, _⟩ := hv
    simp only [Option.some.injEq, Addr.mk.injEq, and_true] at h1
    obtain ⟨rfl, _⟩ := h1
    exact ⟨hg, (Array.getElem?_eq_some_iff.1 hh).1⟩
theorem chl_one (W : World) (k : Int) (s : Bt) (hk : b64 k) : ChL (W.alloc (.cells #[.int .i64 k, .string (str s)] 60)) (some ⟨W.heap.size, 0, none⟩) [(k, s)] := by
  intro i hi
  obtain rfl : i = 0 := by simpa using hi
  exact ⟨W.heap.size, 0, rfl, by simp, (Blk.new W _ _).cell 0, (Blk.new W _ _).cell 1, hk⟩
theorem ptl_two (W : World) (j k : Int) (a b : UInt8) (hj : b64 j) (hk : b64 k) : PtL (W.alloc (.cells #[.int .i64 j, .int .u8 (a.toNat : Int), .int .i64 k, .int .u8 (b.toNat : Int)] 65)) (some ⟨W.heap.size, 0, none⟩) [(j, a), (k, b)] := by
  intro i hi
  have hi2 : i < 2 := by simpa using hi
  match i, hi2 with
  | 0, _ => exact ⟨W.heap.size, 0, rfl, by simp, (Blk.new W _ _).cell 0, (Blk.new W _ _).cell 1, hj⟩
  | 1, _ => exact ⟨W.heap.size, 0, rfl, by simp, (Blk.new W _ _).cell 2, (Blk.new W _ _).cell 3, hk⟩
theorem ptl_one (W : World) (j : Int) (a : UInt8) (hj : b64 j) : PtL (W.alloc (.cells #[.int .i64 j, .int .u8 (a.toNat : Int)] 65)) (some ⟨W.heap.size, 0, none⟩) [(j, a)] := by
  intro i hi
  obtain rfl : i = 0 := by simpa using hi
  exact ⟨W.heap.size, 0, rfl, by simp, (Blk.new W _ _).cell 0, (Blk.new W _ _).cell 1, hj⟩
end Go.Proofs.Ytfinmfmbbgakhaa.ch

