/- RcCopy, ChTwo, SlotsI, ChDo. -/
import Derived.Test.YtfinmfmbbgakhaaQ12
import Derived.Test.YtfinmfmbbgakhaaQ13
import Derived.Test.YtfinmfmbbgakhaaQ4
import Derived.Test.YtfinmfmbbgakhaaQChLPlays0
/- The document's Copy. -/
namespace Go.Proofs.Ytfinmfmbbgakhaa.ch
open Go Go.RowKit Go.Sort Go.Proofs.Ytfinmfmbbgakhaa.ib
set_option maxRecDepth 100000

/-- A new chain, that says the same. -/
def CopyP (Is : IsT) (d : CH) (w : World) (e : Ending) (w' : World) : Prop := ∃ q own', e = .returned (.pointer (some ⟨q, 0, none⟩)) ∧ Is own' w' q d ∧ Below w.heap.size w w' ∧ ∀ j, own' j → w.heap.size ≤ j
/-- How far the copy is. -/
def CpRel (d : CH) (q : Nat) (w : World) (i : Value) (wr : World) : Prop :=
  ∃ (k : Nat) (own : Nat → Prop) (gn cn : Nat) (v : Value) (ys : List RSn), k ≤ d.snaps.length ∧ i = .int .i64 (k : Int) ∧ RcAt wr own q gn cn v ys ⟨d.live, d.snaps.take k⟩ ∧ (∀ j, own j → w.heap.size ≤ j) ∧ Below w.heap.size w wr
def CpG (q : Nat) (A : Option Addr) (n c : Nat) (y1 y2 : Int) (g cg l : Nat) (hd : Bool) : Nat → Value → World → Prop
  | 0, v, _ => v = .pointer (some ⟨q, 0, none⟩)
  | 1, v, _ => v = .pointer (some ⟨q, 0, none⟩)
  | 2, v, _ => v = .pointer (some ⟨q, 0, none⟩)
  | 3, v, _ => v = .pointer (some ⟨q, 1, none⟩)
  | 4, v, _ => v = .slice A n c
  | 5, v, _ => v = .agg #[.int .u64 y1, .int .u64 y2, .slice (some ⟨g, 0, none⟩) l cg, .bool hd]
  | 6, v, w => ∃ b, v = .slice (some ⟨b, 0, none⟩) 1 1 ∧ Blk w b 79 #[.int .u64 y1, .int .u64 y2, .slice (some ⟨g, 0, none⟩) l cg, .bool hd]
  | _, _, _ => True
theorem CpG_mono (q : Nat) (A : Option Addr) (n c : Nat) (y1 y2 : Int) (g cg l : Nat) (hd : Bool) (i : Nat) (v : Value) (w w' : World) (hi : i < 7) (h : CpG q A n c y1 y2 g cg l hd i v w) (hb : Below w.heap.size w w') : CpG q A n c y1 y2 g cg l hd i v w' := by
  match i, hi, h with
  | 0, _, h | 1, _, h | 2, _, h | 3, _, h | 4, _, h | 5, _, h => exact h
  | 6, _, ⟨b, h1, h2⟩ => exact ⟨b, h1, h2.below hb⟩

set_option maxHeartbeats 6400000 in
theorem rcopy_any {own : Nat → Prop} {w : World} {p : Nat} {d : CH} (h : RcIs own w p d) : Calls Try.prog 12 #[.pointer (some ⟨p, 0, none⟩)] w (CopyP RcIs d w) := by
  obtain ⟨i0, hi, hz0, hz1, hz2⟩ := info_parts infoSn
  obtain ⟨h0, gn, cn, v, xs, hr⟩ := h
  obtain ⟨c0, c1⟩ := blk2 hr.blk
  have hplt := hr.blk.lt
  obtain ⟨A, c, rfl, hcc, _, _, _⟩ := row_view hr.row
  have h20 : xs.length ≤ 20 := by have := h0.few; rw [hr.len]; exact this
  have HR := Lib.hid hr
  have HH0 := Lib.hid h0
  have HLN := Lib.hid hr.len
  have HC1 := Lib.hid c1
  have HO := Lib.hid (rown_any (some ⟨gn, 0, none⟩) cn d.live w hr.now.txl h0.n1 (by have := h0.n8; omega) hr.room.1)
  clear hr h0
  go_enter Try.func12, Try.ntmps12
  go_wp2_with fail
  refine HO.out.mono ?_
  rintro e W1 ⟨g1, k1, rfl, hg1, hk1, ht1, hb1⟩
  have HT1 := Lib.hid ht1
  have HB1 := Lib.hid hb1
  have HQ : Hid (RcAt (W1.alloc (.cells #[.slice (some ⟨g1, 0, none⟩) d.live.length k1, .slice none 0 0] 76)) (fun j => j = g1 ∨ j = W1.heap.size) W1.heap.size g1 k1 (.slice none 0 0) [] ⟨d.live, d.snaps.take 0⟩) := by
    have hW := ht1.lt
    refine ⟨Blk.new W1 _ _, ht1.of_block (Below.heap_alloc _ _ _ hW), ⟨rfl, .inl ⟨rfl, rfl⟩⟩, rfl, fun x hx => by simp at hx, ⟨hk1, fun x hx => by simp at hx⟩, .inr rfl, .inl rfl, (fun k hk => by cases hk), fun x hx => by simp at hx, fun x hx => by simp at hx, fun j hj => ?_⟩
    have : (W1.alloc (.cells #[.slice (some ⟨g1, 0, none⟩) d.live.length k1, .slice none 0 0] 76)).heap.size = W1.heap.size + 1 := by simp
    rcases hj with rfl | rfl <;> omega
  have HQO : Hid (∀ j, (j = g1 ∨ j = W1.heap.size) → w.heap.size ≤ j) := fun j hj => by have := hb1.size; rcases hj with rfl | rfl <;> omega
  have HQB := Lib.hid (hb1.alloc hb1.size (.cells #[.slice (some ⟨g1, 0, none⟩) d.live.length k1, .slice none 0 0] 76))
  clear hg1 hk1 ht1 hb1
  go_wp2_with fail
  obtain ⟨q, hq⟩ : ∃ q, W1.heap.size = q := ⟨_, rfl⟩
  rw [hq] at HQ HQO ⊢
  clear hq
  go_loopw [4] (fun i wr => CpRel d q w i wr) (fun i _ => xs.length - (intOf i).toNat)
  case atStart => exact ⟨0, _, _, _, _, _, Nat.zero_le _, rfl, HQ.out, HQO.out, HQB.out⟩
  case round =>
    clear HQ HQO HQB
    obtain ⟨k, own2, g2, k2, v2, ys, hk, rfl, hrq, hoq, hbw⟩ := hrel
    have HRQ := Lib.hid hrq
    have HOQ := Lib.hid hoq
    have HBW := Lib.hid hbw
    have HRW := Lib.hid (HR.out.keep hbw.size (fun j hj => hbw.block j (HR.out.low j hj)))
    have C1 : wr.cell? ⟨p, 1, none⟩ = some (.slice A xs.length c) := (hbw.cell (p := ⟨p, 1, none⟩) hplt).trans HC1.out
    have lp : p < wr.heap.size := Nat.lt_of_lt_of_le hplt hbw.size
    rw [← HLN.out] at hk
    clear hrq hoq hbw
    by_cases hlt : k < xs.length
    · have hki : (k : Int) < (xs.length : Int) := by omega
      obtain ⟨A', c', hv, _, _, _, hx⟩ := row_view HRW.out.row
      obtain ⟨gr, hA, lg, _, e0, e1, e2, e3⟩ := hx k hlt
      obtain ⟨rfl, -, rfl⟩ : A = A' ∧ True ∧ c = c' := by
        simp only [Value.slice.injEq] at hv
        exact ⟨hv.1, trivial, hv.2.2⟩
      subst hA
      have hmem : xs[k] ∈ xs := List.getElem_mem hlt
      have hok := HH0.out.snaps xs[k].1 (by rw [← HR.out.eq]; exact List.mem_map_of_mem hmem)
      have hlen : xs[k].1.bs.length = d.live.length := hok.1
      have HOW := Lib.hid (fun W (hw : Below wr.heap.size wr W) => rown_any (some ⟨xs[k].2.1, 0, none⟩) xs[k].2.2 xs[k].1.bs W ((HRW.out.vols _ hmem).txl.below hw) (by rw [hlen]; exact HH0.out.n1) (by have := HH0.out.n8; omega) (HRW.out.room.2 _ hmem))
      have HTK : Hid (d.snaps.take (k + 1) = d.snaps.take k ++ [xs[k].1]) := by
        have hs := HR.out.nth k hlt
        have hkl : k < d.snaps.length := by have := HLN.out; omega
        unfold Hid
        rw [List.take_succ_eq_append_getElem hkl]
        rw [List.getElem?_eq_getElem hkl] at hs
        injection hs with hs
        rw [hs]
      clear hx hv hmem hok hlen
      generalize xs[k] = X at *
      obtain ⟨⟨⟨gd1, gd2⟩, bs, hid⟩, gx, cx⟩ := X
      dsimp only at e0 e1 e2 e3 HOW HTK
      obtain ⟨y1, hy1⟩ : ∃ y, (gd1 : Int) = y := ⟨_, rfl⟩
      obtain ⟨y2, hy2⟩ : ∃ y, (gd2 : Int) = y := ⟨_, rfl⟩
      rw [hy1] at e0
      rw [hy2] at e1
      have HY1 := Lib.hid hy1
      have HY2 := Lib.hid hy2
      clear hy1 hy2
      have HNS := Lib.hid (Blk.new wr 79 #[.int .u64 y1, .int .u64 y2, .slice (some ⟨gx, 0, none⟩) bs.length cx, .bool hid])
      have hna : Below wr.heap.size wr (wr.alloc (.cells #[.int .u64 y1, .int .u64 y2, .slice (some ⟨gx, 0, none⟩) bs.length cx, .bool hid] 79)) := (Below.refl _ _).alloc (Nat.le_refl _) _
      have HNA := Lib.hid hna
      have HSN := Lib.hid (HOW.out _ hna)
      clear hna
      go_wp2_with fail
      obtain ⟨W3, hW3⟩ : ∃ W, wr.alloc (.cells #[.int .u64 y1, .int .u64 y2, .slice (some ⟨gx, 0, none⟩) bs.length cx, .bool hid] 79) = W := ⟨_, rfl⟩
      rw [hW3] at HNS HSN HNA ⊢
      have HS3 : Hid (W3.heap.size = wr.heap.size + 1) := by unfold Hid; rw [← hW3]; simp
      clear hW3 e0 e1 e2 e3
      refine HSN.out.mono ?_
      rintro e W4 ⟨g5, c5, rfl, hg5, hc5, ht5, hb5⟩
      have HB5 := Lib.hid (below_step HNA.out hb5)
      have HNS4 := Lib.hid (HNS.out.below hb5)
      have HT5 := Lib.hid ht5
      have HG5 : Hid (wr.heap.size + 1 ≤ g5) := by unfold Hid; rw [← HS3.out]; exact hg5
      have HC5 := Lib.hid hc5
      have f2 := HNS4.out.frozen 2
      have q2 := HNS4.out.cell 2
      simp only [List.getElem?_toArray, List.getElem?_cons_zero, List.getElem?_cons_succ] at q2
      clear hg5 hc5 ht5 hb5
      go_wp2_with fail
      obtain ⟨W5, hW5⟩ : ∃ W, W4.setCell ⟨wr.heap.size, 2, none⟩ (.slice (some ⟨g5, 0, none⟩) bs.length c5) = W := ⟨_, rfl⟩
      have HS5 := HNS4.out.set_ 2 (.slice (some ⟨g5, 0, none⟩) bs.length c5)
      have HB6 := HB5.out.setCell (p := ⟨wr.heap.size, 2, none⟩) (Nat.le_refl _) (.slice (some ⟨g5, 0, none⟩) bs.length c5)
      have HT6 := HT5.out.of_block (w' := W4.setCell ⟨wr.heap.size, 2, none⟩ (.slice (some ⟨g5, 0, none⟩) bs.length c5)) (set_oth _ _ _ _ _ (by have := HG5.out; omega))
      rw [hW5] at HS5 HB6 HT6 ⊢
      have HS5' : Blk W5 wr.heap.size 79 #[.int .u64 y1, .int .u64 y2, .slice (some ⟨g5, 0, none⟩) bs.length c5, .bool hid] := HS5
      have HRQ5 := HRQ.out.keep HB6.size (fun j hj => HB6.block j (HRQ.out.low j hj))
      have HNEW : Hid (∀ j, own2 j → j < wr.heap.size) := HRQ.out.low
      have s0 := HS5'.cell 0
      have s1 := HS5'.cell 1
      have s2 := HS5'.cell 2
      have s3 := HS5'.cell 3
      simp only [List.getElem?_toArray, List.getElem?_cons_zero, List.getElem?_cons_succ] at s0 s1 s2 s3
      have slt := HS5'.lt
      obtain ⟨d0, d1⟩ := blk2 HRQ5.blk
      have qlt := HRQ5.blk.lt
      obtain ⟨A9, c9, rfl, _, _, _, _⟩ := row_view HRQ5.row
      have hyl : ys.length ≤ 19 := by
        have := HRQ.out.len
        rw [this]
        show (d.snaps.take k).length ≤ 19
        rw [List.length_take]
        omega
      have S0 := Lib.hid s0
      have S1 := Lib.hid s1
      have S2 := Lib.hid s2
      have S3 := Lib.hid s3
      have D1 := Lib.hid d1
      have HR5 := Lib.hid HRQ5
      have HBX := Lib.hid HB6
      have HTX := Lib.hid HT6
      have SLT := Lib.hid slt
      have QLT := Lib.hid qlt
      have HGN : Hid (g5 ≠ g2) := by
        intro e
        subst e
        have := HNEW.out _ HRQ.out.on_
        have := HG5.out
        omega
      clear hW5 HS5 HS5' HB6 HT6 HRQ5 s0 s1 s2 s3 slt d0 d1 qlt f2 q2
      refine wp_region_slots_t (by kernel_rfl) 7 [33, 34, 35, 36, 37, 38, 39] (by kernel_rfl) (CpG q A9 ys.length c9 y1 y2 g5 c5 bs.length hid) _ (.pointer (some ⟨q, 0, none⟩)) rfl (by decide) (by kernel_rfl) (by kernel_rfl) (by kernel_rfl) (fun _ _ _ h => h) (Or.inl ⟨by rfl, fun w => by go_simp⟩) (fun _ => rfl) (CpG_mono _ _ _ _ _ _ _ _ _ _) ?_ ?_
      · intro i o vs ρ W hi ho hρ hfn hb hG
        have t3 : ρ (.tmp 3) = .pointer (some ⟨q, 0, none⟩) := hρ.out 3 rfl
        have t5 : ρ (.tmp 5) = .pointer (some ⟨wr.heap.size, 0, none⟩) := hρ.out 5 rfl
        have r1 := hρ.at_ 34 1 rfl
        have r2 := hρ.at_ 35 2 rfl
        have r3 := hρ.at_ 36 3 rfl
        have r5 := hρ.at_ 38 5 rfl
        have hc := hρ.const
        have c1 : W.cell? ⟨q, 1, none⟩ = some (.slice A9 ys.length c9) := (hb.cell (p := ⟨q, 1, none⟩) QLT.out).trans D1.out
        have n0 : W.cell? ⟨wr.heap.size, 0, none⟩ = some (.int .u64 y1) := (hb.cell (p := ⟨wr.heap.size, 0, none⟩) SLT.out).trans S0.out
        have n1 : W.cell? ⟨wr.heap.size, 1, none⟩ = some (.int .u64 y2) := (hb.cell (p := ⟨wr.heap.size, 1, none⟩) SLT.out).trans S1.out
        have n2 : W.cell? ⟨wr.heap.size, 2, none⟩ = some (.slice (some ⟨g5, 0, none⟩) bs.length c5) := (hb.cell (p := ⟨wr.heap.size, 2, none⟩) SLT.out).trans S2.out
        have n3 : W.cell? ⟨wr.heap.size, 3, none⟩ = some (.bool hid) := (hb.cell (p := ⟨wr.heap.size, 3, none⟩) SLT.out).trans S3.out
        rcases i with _ | _ | _ | _ | _ | _ | _ | i
        all_goals (first | omega | skip)
        all_goals simp only [List.getElem?_toArray, List.getElem?_cons_zero, List.getElem?_cons_succ, Option.some.injEq] at ho
        all_goals subst ho
        · exact stepTo_value (w' := W) (by unfold execOp; simp only [t3]; go_simp) ⟨Below.refl _ _, rfl⟩
        · exact stepTo_value (w' := W) (by unfold execOp; simp only [t3]; go_simp) ⟨Below.refl _ _, rfl⟩
        · have g1 : vs 1 = _ := hG 1 (by kernel_rfl)
          exact stepTo_value (w' := W) (by unfold execOp; simp only [r1, g1]; go_simp) ⟨Below.refl _ _, rfl⟩
        · have g2 : vs 2 = _ := hG 2 (by kernel_rfl)
          exact stepTo_value (w' := W) (by unfold execOp; simp only [r2, g2]; go_simp) ⟨Below.refl _ _, rfl⟩
        · have g3 : vs 3 = _ := hG 3 (by kernel_rfl)
          exact stepTo_value (w' := W) (by unfold execOp; simp only [r3, g3]; go_simp) ⟨Below.refl _ _, rfl⟩
        · exact stepTo_value (w' := W) (by unfold execOp; simp only [t5]; go_simp) ⟨Below.refl _ _, rfl⟩
        · have g5 : vs 5 = _ := hG 5 (by kernel_rfl)
          refine stepTo_value (w' := W.alloc (.cells #[.int .u64 y1, .int .u64 y2, .slice (some ⟨_, 0, none⟩) bs.length c5, .bool hid] 79)) (v := .slice (some ⟨W.heap.size, 0, none⟩) 1 1) (by unfold execOp; simp only [r5, g5]; go_simp) ⟨(Below.refl _ W).alloc (Nat.le_refl _) _, W.heap.size, rfl, Blk.new _ _ _⟩
      · intro vs W hb hG
        have g0 : vs 0 = _ := hG 0 (by decide)
        have g4 : vs 4 = _ := hG 4 (by decide)
        obtain ⟨bb, g6, hbk⟩ := hG 6 (by decide)
        have B2 := Lib.hid (HBX.out.trans (hb.mono HBX.out.size))
        have HR6 := Lib.hid (HR5.out.keep hb.size (fun k hk => hb.block k (HR5.out.low k hk)))
        have HNW := Lib.hid (news_4 _ _ _ _ _ _ _ hbk)
        have HT := Lib.hid (HTX.out.below hb)
        simp only [putList, putSel, if_true]
        rw [g0, g4, g6]
        generalize vs 1 = z1
        generalize vs 2 = z2
        generalize vs 3 = z3
        generalize vs 5 = z5
        clear hG g0 g4 g6 hbk hb
        simp only [Act.put, List.setIfInBounds_toArray, List.set_cons_succ, List.set_cons_zero]
        refine wpAny_one (i := 7) (by kernel_rfl) rfl rfl ?_
        refine wp_append_at (.tmp 37) (.tmp 39) 74 rfl 0 79 i0 (.agg #[.int .u64 0, .int .u64 0, .slice none 0 0, .bool false]) 4 48 Try.underlying74 hi hz0 hz1 hz2 rfl (by decide) _ ys.length _ rfl HR6.out.row ⟨bb, 0, none⟩ 1 1 [.int .u64 y1, .int .u64 y2, .slice (some ⟨g5, 0, none⟩) bs.length c5, .bool hid] rfl rfl HNW.out ?_ (by unfold maxLen; omega) (by omega) (Nat.zero_le _) ?_
        · intro u hu
          simp at hu
          rcases hu with rfl | rfl | rfl | rfl <;> rfl
        intro v' w1 hown hgrow hv
        obtain ⟨A2, c2, rfl⟩ := own_form hown
        have HOWN : Hid (w1.ownsRow 0 79 4 (.slice A2 (ys.length + 1) c2) (ys.length + 1) (snRow ys ++ snV ((⟨(gd1, gd2), bs, hid⟩ : Sn), g5, c5))) := by
          unfold Hid snV
          dsimp only
          rw [HY1.out, HY2.out]
          exact hown
        have HP := Lib.hid (RcAt.push (s := (⟨(gd1, gd2), bs, hid⟩ : Sn)) HR6.out HT.out HGN.out HC5.out HOWN.out hgrow hv)
        have HOW2 := Lib.hid (own_push (own := own2) (w := wr) (w0 := W) (g := g5) (v := .slice A9 ys.length c9) (v' := .slice A2 (ys.length + 1) c2) HR5.out.om (by have := HG5.out; omega) B2.out.size hv)
        have HBU := Lib.hid ((Go.Proofs.Ytfinmfmbbgakhaa.ch.But.grow (But.of_below (S := own2) B2.out) hgrow (fun k hk => .inl (HR5.out.om k hk))).setCell ⟨q, 1, none⟩ (.slice A2 (ys.length + 1) c2) (.inl HR5.out.op))
        have f1 : w1.frozen? ⟨q, 1, none⟩ = false := by
          have hp := HR6.out.low q HR6.out.op
          exact (HR6.out.blk.of_block (hgrow.block q hp (fun e => HR6.out.vp q e.symm rfl))).frozen 1
        obtain ⟨b1, hb1⟩ : ∃ z, w1.cell? ⟨q, 1, none⟩ = some z := by
          have hp := HR6.out.low q HR6.out.op
          exact ⟨_, (HR6.out.blk.of_block (hgrow.block q hp (fun e => HR6.out.vp q e.symm rfl))).cell 1⟩
        clear hown hgrow hv HOWN
        go_simp
        refine wpAny_one (i := 8) (by kernel_rfl) rfl rfl ?_
        go_simp
        refine wpAny_one (i := 9) (by kernel_rfl) rfl rfl ?_
        go_simp
        refine wpAny_one (i := 10) (by kernel_rfl) rfl rfl ?_
        go_simp
        refine ⟨by kernel_rfl, ?_⟩
        go_wp2_with fail
        go_roundw
        case rel =>
          refine ⟨k + 1, _, g2, k2, _, _, by rw [← HLN.out]; omega, by go_num, by rw [HTK.out]; exact HP.out, fun j hj => ?_, HBW.out.trans (HBU.out.below HOQ.out HBW.out.size)⟩
          rcases HOW2.out j hj with h | h
          · exact HOQ.out j h
          · exact Nat.le_trans HBW.out.size h
        case measure => simp [intOf]; omega
    · have hki : ¬ (k : Int) < (xs.length : Int) := by omega
      go_wp2_with fail
      go_ret
      refine ⟨q, own2, rfl, ⟨HH0.out, g2, k2, v2, ys, ?_⟩, HBW.out, HOQ.out⟩
      have := HRQ.out
      rw [List.take_of_length_le (by rw [← HLN.out]; omega)] at this
      exact this
end Go.Proofs.Ytfinmfmbbgakhaa.ch

/- The program's chain and the document's side by side, behind a mark; other blocks that neither has. -/
namespace Go.Proofs.Ytfinmfmbbgakhaa.ch
open Go Go.RowKit Go.Proofs.Ytfinmfmbbgakhaa.ib
set_option maxRecDepth 100000

/-- Both chains, all of it behind m, nothing of it in X. -/
def Tw (Is : IsT) (w : World) (m p q : Nat) (d e : CH) (X : Nat → Prop) : Prop :=
  ∃ own own2, Is own w p d ∧ RcIs own2 w q e ∧ (∀ j, own j → m ≤ j ∧ ¬ own2 j ∧ ¬ X j) ∧ (∀ j, own2 j → m ≤ j ∧ ¬ X j) ∧ ∀ j, X j → j < w.heap.size
/-- All below m, and all of X, stays. -/
def Ke (m : Nat) (X : Nat → Prop) (w w' : World) : Prop := But (fun j => m ≤ j ∧ ¬ X j) w w'
theorem Ke.below {m : Nat} {X : Nat → Prop} {w w' : World} (h : Ke m X w w') (hm : m ≤ w.heap.size) : Below m w w' := But.below h (fun _ hi => hi.1) hm
theorem Ke.of_below {m : Nat} {X : Nat → Prop} {w w' : World} (h : Below w.heap.size w w') : Ke m X w w' := But.of_below h
theorem Ke.refl (m : Nat) (X : Nat → Prop) (w : World) : Ke m X w w := But.refl _ _
theorem Ke.trans {m : Nat} {X : Nat → Prop} {a b c : World} (h : Ke m X a b) (k : Ke m X b c) : Ke m X a c := But.trans h k (fun _ hi => .inl hi)
theorem Ke.block {m : Nat} {X : Nat → Prop} {w w' : World} (h : Ke m X w w') {j : Nat} (hj : j < w.heap.size) (hx : X j ∨ j < m) : w'.heap[j]? = w.heap[j]? := But.block h j hj (fun hs => by rcases hx with h | h; exact hs.2 h; omega)
theorem Ke.mono {m : Nat} {X Y : Nat → Prop} {w w' : World} (h : Ke m X w w') (hy : ∀ j, Y j → X j) : Ke m Y w w' := But.mono h fun j hj => ⟨hj.1, fun y => hj.2 (hy j y)⟩

section
variable {Is : IsT} (H : Impl Is) {w w' : World} {m p q : Nat} {d e : CH} {X : Nat → Prop}
include H
theorem Tw.below (h : Tw Is w m p q d e X) (hb : Below w.heap.size w w') : Tw Is w' m p q d e X := by
  obtain ⟨o1, o2, h1, h2, h3, h4, h5⟩ := h
  exact ⟨o1, o2, H.keep h1 (fun j hj => hb.block j (H.low h1 j hj)) hb.size, h2.below hb, h3, h4, fun j hj => Nat.lt_of_lt_of_le (h5 j hj) hb.size⟩
omit H in
theorem tw_left (h : Tw Is w m p q d e X) (hm : m ≤ w.heap.size) {f : Nat} {args : Array Value} {r : CH × Int} (hc : ∀ own, Is own w p d → (∀ j, own j → m ≤ j ∧ ¬ X j) → Calls Try.prog f args w (Aft Is own p r w)) :
    Calls Try.prog f args w fun x w' => x = .returned (.int .i64 r.2) ∧ Tw Is w' m p q r.1 e X ∧ Ke m X w w' := by
  obtain ⟨o1, o2, h1, h2, h3, h4, h5⟩ := h
  refine (hc o1 h1 fun j hj => ⟨(h3 j hj).1, (h3 j hj).2.2⟩).mono ?_
  rintro x w' ⟨hx, o', hi, hb, hg⟩
  refine ⟨hx, ⟨o', o2, hi, h2.keep (fun j hj => hb.block j (h2.low j hj) (fun ho => (h3 j ho).2.1 hj)) hb.size, fun j hj => ?_, h4, fun j hj => Nat.lt_of_lt_of_le (h5 j hj) hb.size⟩, hb.mono (fun j hj => ⟨(h3 j hj).1, (h3 j hj).2.2⟩)⟩
  rcases hg j hj with h | h
  · exact h3 j h
  · exact ⟨by omega, fun ho => by have := h2.low j ho; omega, fun hx => by have := h5 j hx; omega⟩
theorem tw_right (h : Tw Is w m p q d e X) (hm : m ≤ w.heap.size) {f : Nat} {args : Array Value} {r : CH × Int} (hc : ∀ own, RcIs own w q e → Calls Try.prog f args w (Aft RcIs own q r w)) :
    Calls Try.prog f args w fun x w' => x = .returned (.int .i64 r.2) ∧ Tw Is w' m p q d r.1 X ∧ Ke m X w w' := by
  obtain ⟨o1, o2, h1, h2, h3, h4, h5⟩ := h
  refine (hc o2 h2).mono ?_
  rintro x w' ⟨hx, o', hi, hb, hg⟩
  refine ⟨hx, ⟨o1, o', H.keep h1 (fun j hj => hb.block j (H.low h1 j hj) (fun ho => (h3 j hj).2.1 ho)) hb.size, hi, fun j hj => ⟨(h3 j hj).1, fun ho => ?_, (h3 j hj).2.2⟩, fun j hj => ?_, fun j hj => Nat.lt_of_lt_of_le (h5 j hj) hb.size⟩, hb.mono (fun j hj => h4 j hj)⟩
  · rcases hg j ho with h | h
    · exact (h3 j hj).2.1 h
    · have := H.low h1 j hj; omega
  · rcases hg j hj with h | h
    · exact h4 j h
    · exact ⟨by omega, fun hx => by have := h5 j hx; omega⟩
/-- New blocks may come to X: those that lie behind both chains. -/
theorem Tw.more (h : Tw Is w m p q d e X) (hb : Below w.heap.size w w') {Y : Nat → Prop} (hY : ∀ j, Y j → X j ∨ (w.heap.size ≤ j ∧ j < w'.heap.size)) : Tw Is w' m p q d e Y := by
  obtain ⟨o1, o2, h1, h2, h3, h4, h5⟩ := h
  refine ⟨o1, o2, H.keep h1 (fun j hj => hb.block j (H.low h1 j hj)) hb.size, h2.below hb, fun j hj => ⟨(h3 j hj).1, (h3 j hj).2.1, fun hy => ?_⟩, fun j hj => ⟨(h4 j hj).1, fun hy => ?_⟩, fun j hj => ?_⟩
  · rcases hY j hy with h | h
    · exact (h3 j hj).2.2 h
    · have := H.low h1 j hj; omega
  · rcases hY j hy with h | h
    · exact (h4 j hj).2 h
    · have := h2.low j hj; omega
  · rcases hY j hj with h | h
    · exact Nat.lt_of_lt_of_le (h5 j h) hb.size
    · exact h.2
/-- What is turned in X alone. -/
theorem Tw.turn (h : Tw Is w m p q d e X) (hb : But X w w') : Tw Is w' m p q d e X := by
  obtain ⟨o1, o2, h1, h2, h3, h4, h5⟩ := h
  exact ⟨o1, o2, H.keep h1 (fun j hj => hb.block j (H.low h1 j hj) (h3 j hj).2.2) hb.size, h2.keep (fun j hj => hb.block j (h2.low j hj) (h4 j hj).2) hb.size, h3, h4, fun j hj => Nat.lt_of_lt_of_le (h5 j hj) hb.size⟩
omit H in
theorem Tw.fewer (h : Tw Is w m p q d e X) {Y : Nat → Prop} (hY : ∀ j, Y j → X j) : Tw Is w m p q d e Y := by
  obtain ⟨o1, o2, h1, h2, h3, h4, h5⟩ := h
  exact ⟨o1, o2, h1, h2, fun j hj => ⟨(h3 j hj).1, (h3 j hj).2.1, fun hy => (h3 j hj).2.2 (hY j hy)⟩, fun j hj => ⟨(h4 j hj).1, fun hy => (h4 j hj).2 (hY j hy)⟩, fun j hj => h5 j (hY j hj)⟩
theorem tw_okl (h : Tw Is w m p q d e X) : d.ok := by
  obtain ⟨o1, o2, h1, _⟩ := h
  exact H.ok h1
end
end Go.Proofs.Ytfinmfmbbgakhaa.ch

/- A region that draws its order, told by one word on what is listed, the values and the world; guarded operations too. One step an operation, whatever the order. Nothing here speaks of the program. -/
namespace Go.Proofs.Ytfinmfmbbgakhaa
open Go Go.RowKit
set_option maxRecDepth 100000

section
variable {P : Program} {ops : Array Oper} {Q : Exit → Act → World → Prop}

def slotsGB (ops : Array Oper) (ds : List Tmp) (size : Nat) : Bool :=
  decide (ds.length = ops.size) && decide ds.Nodup && ds.all (fun d => decide (d < size)) &&
  (List.range ops.size).all (fun i => match ops[i]? with
    | some o => o.dst == ds[i]? && (match o.op with | .select .. => false | _ => true) &&
      o.after.all (fun e => !Region.binds .any e || decide (e.on < i)) &&
      (match o.guard with | none => true | some g => afterB ops i g.1) &&
      o.op.operands.toList.all (fun x => match x with
        | .tmp t => match ds.idxOf? t with
          | some j => afterB ops i j
          | none => true
        | _ => true)
    | none => false)

structure SlotsG (ops : Array Oper) (ds : List Tmp) (size : Nat) : Prop where
  len : ds.length = ops.size
  nodup : ds.Nodup
  small : ∀ d ∈ ds, d < size
  each : ∀ i, i < ops.size → ∃ o, ops[i]? = some o ∧ o.dst = ds[i]? ∧ (∀ cs b, o.op ≠ .select cs b) ∧ (∀ e ∈ o.after, Region.binds .any e = true → e.on < i) ∧
    (∀ j want, o.guard = some (j, want) → afterB ops i j = true) ∧ (∀ t j, Operand.tmp t ∈ o.op.operands → ds.idxOf? t = some j → afterB ops i j = true)

theorem slotsG_ok {ds : List Tmp} {size : Nat} (h : slotsGB ops ds size = true) : SlotsG ops ds size := by
  unfold slotsGB at h
  simp only [Bool.and_eq_true, decide_eq_true_eq, List.all_eq_true, List.mem_range] at h
  obtain ⟨⟨⟨h2, h3⟩, h4⟩, h5⟩ := h
  refine ⟨h2, h3, h4, fun i hi => ?_⟩
  have h := h5 i hi
  cases ho : ops[i]? with
  | none => simp [ho] at h
  | some o =>
    simp only [ho, Bool.and_eq_true] at h
    obtain ⟨⟨⟨⟨g2, g3⟩, g4⟩, g1⟩, g5⟩ := h
    refine ⟨o, rfl, by simpa using g2, fun cs b hs => by simp [hs] at g3, fun e he hb => ?_, fun j want hg => ?_, fun t j ht hj => ?_⟩
    · have := Array.all_eq_true_iff_forall_mem.1 g4 e he
      simpa [hb] using this
    · simpa [hg] using g1
    · have := List.all_eq_true.1 g5 (.tmp t) (by simpa using ht)
      simpa [hj] using this

/-- What an operation's reader is known to read, a function's name too. -/
structure ReadsF (a : Act) (ds : List Tmp) (vs : Nat → Value) (ρ : Operand → Value) : Prop where
  at_ : ∀ t j, ds.idxOf? t = some j → ρ (.tmp t) = vs j
  out : ∀ t, ds.idxOf? t = none → ρ (.tmp t) = a.eval (.tmp t)
  const : ∀ v, ρ (.const v) = v
  fn : ∀ f, ρ (.func f) = a.eval (.func f)

structure IInv (ops : Array Oper) (a0 : Act) (ds : List Tmp) (I : (Nat → Bool) → (Nat → Value) → World → Prop) (listed : Array Bool) (vs : Nat → Value) (a : Act) (w : World) : Prop where
  size : listed.size = ops.size
  act : a = putSel (fun i => listed.getD i false) vs ds 0 a0
  inv : I (fun i => listed.getD i false) vs w

variable {a0 : Act} {ds : List Tmp} {I : (Nat → Bool) → (Nat → Value) → World → Prop}

theorem idx_get {t : Tmp} {j : Nat} (hj : ds.idxOf? t = some j) : ds[j]? = some t := by
  have := List.of_findIdx?_eq_some (p := (· == t)) (xs := ds) (i := j) (by simpa [List.idxOf?] using hj)
  cases hd : ds[j]? with
  | none => simp [hd] at this
  | some d => simp [hd] at this; rw [this]

theorem inv_go (ok : SlotsG ops ds a0.tmps.size)
    (step : ∀ i o L vs ρ w, ops[i]? = some o → L i = false → (∀ j, afterB ops i j = true → L j = true) → ReadsF a0 ds vs ρ → (∀ j want, o.guard = some (j, want) → vs j = .bool want) → I L vs w →
      stepTo P (fun v w' => I (updB L i) (updV vs i v) w') ((execOp ρ o).run P w))
    (skip : ∀ i o L vs w j want, ops[i]? = some o → L i = false → (∀ j, afterB ops i j = true → L j = true) → o.guard = some (j, want) → vs j ≠ .bool want → I L vs w → I (updB L i) (updV vs i undef) w)
    (fin : ∀ vs w', I (fun j => decide (j < ops.size)) vs w' → Q .normal (putList vs ds a0) w') :
    ∀ (r : Nat) (listed : Array Bool) (vs : Nat → Value) (a : Act) (w : World), IInv ops a0 ds I listed vs a w → toCome ops.size listed = r → wpAny P .any ops Q r listed a w
  | 0, listed, vs, a, w, hI, hr => by
    have hall := toCome_zero hr
    have hn : Region.ready .any ops listed = [] := by
      apply List.eq_nil_iff_forall_not_mem.2
      intro i hi
      obtain ⟨hun, o, ho, _⟩ := mem_ready.1 hi
      have hio : i < ops.size := (Array.getElem?_eq_some_iff.1 ho).1
      have := hall i hio
      rw [getD_false_true (by rw [hI.size]; exact hio)] at hun
      rw [this] at hun
      cases hun
    have ha : a = putList vs ds a0 := by
      rw [hI.act]
      exact putSel_congr _ _ _ _ ds 0 a0 fun j _ hj => ⟨hall j (by rw [← ok.len]; omega), fun _ => rfl⟩
    have hL : (fun i => listed.getD i false) = fun j => decide (j < ops.size) := by
      funext j
      by_cases hj : j < ops.size
      · rw [hall j hj, decide_eq_true hj]
      · rw [decide_eq_false hj]
        simp [Array.getD, hI.size, hj]
    rw [ha]
    have h2 := hI.inv
    rw [hL] at h2
    exact wpAny_done hn (fin vs w h2) 0
  | r + 1, listed, vs, a, w, hI, hr => by
    refine ⟨fun h0 => ?_, fun i hi => ?_⟩
    · exfalso
      have hex : ∃ i, i < ops.size ∧ listed.getD i false = false := by
        apply Classical.byContradiction
        intro hn
        have : toCome ops.size listed = 0 := by
          unfold toCome
          rw [List.countP_eq_zero]
          intro i hi
          have hi' := List.mem_range.1 hi
          cases hb : listed.getD i false
          · exact absurd ⟨i, hi', hb⟩ hn
          · simp
        omega
      have key : ∀ n i, i < n → i < ops.size → listed.getD i false = false → False := by
        intro n
        induction n with
        | zero => intro i h; omega
        | succ n ih =>
          intro i hin him hf
          obtain ⟨o, ho, _, _, hlow, _⟩ := ok.each i him
          have hs : i < listed.size := by rw [hI.size]; exact him
          have : i ∈ Region.ready .any ops listed := by
            rw [mem_ready]
            refine ⟨by rw [getD_false_true hs]; exact hf, o, ho, fun e he hb => ?_⟩
            cases hb' : listed.getD e.on false
            · exact (ih e.on (by have := hlow e he hb; omega) (by have := hlow e he hb; omega) hb').elim
            · rfl
          rw [h0] at this
          cases this
      obtain ⟨i, him, hf⟩ := hex
      exact key (i + 1) i (by omega) him hf
    · obtain ⟨hun, o, ho, hall⟩ := mem_ready.1 hi
      have him : i < ops.size := (Array.getElem?_eq_some_iff.1 ho).1
      have hs : i < listed.size := by rw [hI.size]; exact him
      have hf : listed.getD i false = false := by rw [← getD_false_true hs]; exact hun
      obtain ⟨o', ho', hdst, hsel, hlow, hgrd, hopn⟩ := ok.each i him
      obtain rfl : o = o' := Option.some.inj (ho.symm.trans ho')
      have hdi : ∃ d, ds[i]? = some d := ⟨ds[i]'(by rw [ok.len]; exact him), List.getElem?_eq_getElem _⟩
      obtain ⟨d, hd⟩ := hdi
      have haft : ∀ j, afterB ops i j = true → listed.getD j false = true := fun j hj => by
        obtain ⟨e, he, hb, rfl⟩ := afterB_iff ho hj
        exact hall e he hb
      have hread : ∀ t j, ds[j]? = some t → listed.getD j false = true → a.eval (.tmp t) = vs j := fun t j hdj hl => by
        rw [hI.act]
        have := putSel_in (fun i => listed.getD i false) vs t ds 0 j a0 ok.nodup hdj (by simpa using hl) (ok.small t (List.mem_of_getElem? hdj))
        simpa using this
      have hnext : ∀ v w', I (updB (fun i => listed.getD i false) i) (updV vs i v) w' → wpAny P .any ops Q r (listed.setIfInBounds i true) (a.put o.dst v) w' := by
        intro v w' h
        refine inv_go ok step skip fin r (listed.setIfInBounds i true) (updV vs i v) (a.put o.dst v) w' ⟨by simp [hI.size], ?_, ?_⟩ ?_
        · rw [hdst, hd, hI.act]
          have := putSel_set (fun i => listed.getD i false) vs i v ds 0 a0 d ok.nodup (Nat.zero_le _) (by simpa using hd) hf
          rw [this, updB_listed hs]
        · rw [← updB_listed hs]
          exact h
        · have := toCome_set him hs hf
          omega
      have hyield : ∀ j want, o.guard = some (j, want) → yielded ops a.tmps j = (match vs j with | .bool b => some b | _ => none) := by
        intro j want hg
        have hj := hgrd j want hg
        obtain ⟨e, he, hb, he2⟩ := afterB_iff ho hj
        have hji : j < i := by rw [← he2]; exact hlow e he hb
        obtain ⟨oj, hoj, hdj, _⟩ := ok.each j (by omega)
        have hdj2 : ds[j]? = some (ds[j]'(by rw [ok.len]; omega)) := List.getElem?_eq_getElem _
        generalize ds[j]'(by rw [ok.len]; omega) = t at hdj2
        have hr := hread t j hdj2 (haft j hj)
        unfold yielded
        rw [hoj]
        simp only [Option.bind_some, hdj, hdj2]
        have he : a.eval (.tmp t) = a.tmps.getD t undef := rfl
        rw [he] at hr
        cases hx : a.tmps[t]? with
        | none =>
          have : a.tmps.getD t undef = undef := by simp [Array.getD_eq_getD_getElem?, hx]
          rw [← hr, this]
          rfl
        | some x =>
          have : a.tmps.getD t undef = x := by simp [Array.getD_eq_getD_getElem?, hx]
          rw [← hr, this]
          cases x <;> rfl
      unfold wpOp
      simp only [ho]
      by_cases hw : Region.wanted o (yielded ops a.tmps) = true
      · rw [if_pos hw]
        left
        have hρ : execOp a.eval o = execOp (valOf a0 ds vs) o := by
          refine execOp_congr o hsel fun x hx => ?_
          cases x with
          | tmp t =>
            cases hj : ds.idxOf? t with
            | none =>
              rw [valOf_none hj, hI.act]
              exact putSel_out _ _ t ds 0 a0 (by rw [List.idxOf?_eq_none_iff] at hj; exact hj)
            | some j =>
              rw [valOf_some hj]
              exact hread t j (idx_get hj) (haft j (hopn t j hx hj))
          | const v => simp only [valOf]; rfl
          | global g => simp only [valOf]; rfl
          | func f => simp only [valOf]; rfl
        have hst := step i o (fun i => listed.getD i false) vs (valOf a0 ds vs) w ho hf haft ⟨fun _ _ h => valOf_some h, fun _ h => valOf_none h, fun _ => rfl, fun _ => rfl⟩ (fun j want hg => by
          have hy := hyield j want hg
          unfold Region.wanted at hw
          rw [hg] at hw
          simp only [hy] at hw
          cases hv : vs j <;> rw [hv] at hw <;> simp at hw
          rw [hw]) hI.inv
        rw [← hρ] at hst
        exact wp_of_stepTo hst fun v w' h => hnext v w' h
      · rw [if_neg hw]
        cases hg : o.guard with
        | none => exact absurd (by simp [Region.wanted, hg]) hw
        | some g =>
          obtain ⟨j, want⟩ := g
          refine hnext undef w (skip i o _ vs w j want ho hf haft hg (fun hv => hw ?_) hI.inv)
          have hy := hyield j want hg
          unfold Region.wanted
          rw [hg]
          simp only [hy, hv]
          simp

/-- THE RULE. -/
theorem wp_region_inv {id : Nat} {a : Act} {w : World} (hm : P.follows .mixedOrders = true) (ds : List Tmp) (hok : slotsGB ops ds a.tmps.size = true) (I : (Nat → Bool) → (Nat → Value) → World → Prop)
    (start : I (fun _ => false) (fun _ => undef) w.drew)
    (step : ∀ i o L vs ρ w, ops[i]? = some o → L i = false → (∀ j, afterB ops i j = true → L j = true) → ReadsF a ds vs ρ → (∀ j want, o.guard = some (j, want) → vs j = .bool want) → I L vs w →
      stepTo P (fun v w' => I (updB L i) (updV vs i v) w') ((execOp ρ o).run P w))
    (skip : ∀ i o L vs w j want, ops[i]? = some o → L i = false → (∀ j, afterB ops i j = true → L j = true) → o.guard = some (j, want) → vs j ≠ .bool want → I L vs w → I (updB L i) (updV vs i undef) w)
    (fin : ∀ vs w', I (fun j => decide (j < ops.size)) vs w' → Q .normal (putList vs ds a) w') :
    (Code.region id ops true).wp P Q a w := by
  have ok := slotsG_ok hok
  refine wp_region_any hm ?_
  have h0 : toCome ops.size (Array.replicate ops.size false) = ops.size := by
    have := List.countP_eq_length (l := List.range ops.size) (p := fun i => !(Array.replicate ops.size false).getD i false) |>.2 fun i _ => by rw [rep_false]; rfl
    unfold toCome
    rw [this, List.length_range]
  have hf : (fun i => (Array.replicate ops.size false).getD i false) = fun _ => false := by
    funext i
    exact rep_false _ i
  refine inv_go ok step skip fin ops.size (Array.replicate ops.size false) (fun _ => undef) a _ ⟨by simp, ?_, ?_⟩ h0
  · rw [hf]
    exact (putSel_none ds 0 a).symm
  · rw [hf]
    exact start
end

theorem putSel_defers (L : Nat → Bool) (vs : Nat → Value) : ∀ (ds : List Tmp) (k : Nat) (a : Act), (putSel L vs ds k a).defers = a.defers
  | [], _, _ => rfl
  | d :: ds, k, a => by
    simp only [putSel]
    rw [putSel_defers L vs ds]
    split <;> rfl

/-- The end of a body behind such a region: one slot is what is answered; the list of slots stays folded. -/
theorem bodyPost_slot {P : Program} {fn : Func} {R : Ending → World → Prop} {a : Act} {ds : List Tmp} {vs : Nat → Value} {w : World} {t : Tmp} {v : Value} (j : Nat) (hres : fn.results = #[.tmp t])
    (hB : (decide ds.Nodup && decide (ds[j]? = some t)) = true) (hs : decide (t < a.tmps.size) = true) (hd : a.defers = []) (hv : vs j = v) (hR : R (.returned v) w) : bodyPost P fn R .ret (putList vs ds a) w := by
  simp only [Bool.and_eq_true, decide_eq_true_eq] at hB hs
  refine bodyPost_ret (v := v) ?_ ((putSel_defers _ _ _ _ _).trans hd) hR
  rw [results_tmp hres]
  congr 1
  have := putSel_in (fun _ => true) vs t ds 0 j a hB.1 hB.2 rfl hs
  rw [Nat.zero_add, hv] at this
  exact this
end Go.Proofs.Ytfinmfmbbgakhaa

/- What do of the statements does: one act, to both chains. -/
namespace Go.Proofs.Ytfinmfmbbgakhaa.ch
open Go Go.RowKit Go.Proofs.Ytfinmfmbbgakhaa.ib
set_option maxRecDepth 100000

/-- An act. -/
structure ActC where
  what : Int
  n : Int
  c : UInt8
  g : Gd
  A : Option Addr
  cap : Nat
  zs : List (Int × UInt8)
def ActC.cs (x : ActC) : Array Value := #[.int .i64 x.what, .int .i64 x.n, .int .u8 (x.c.toNat : Int), .int .u64 (x.g.1 : Int), .int .u64 (x.g.2 : Int), .slice x.A x.zs.length x.cap]
def CH.act (d : CH) (x : ActC) : CH × Int :=
  if x.what = 0 ∨ x.what = 1 ∨ x.what = 2 then d.write x.n (dat x.c)
  else if x.what = 3 ∨ x.what = 4 then d.snap x.g
  else if x.what = 5 then d.roll x.n
  else if x.what = 6 then d.hide x.g
  else d.add x.g (chOf x.zs)
/-- Both chains, and that no block of X was turned. -/
def TwK (Is : IsT) (m p q : Nat) (X : Nat → Prop) (w0 : World) (d e : CH) (W : World) : Prop := Tw Is W m p q d e X ∧ Ke m X w0 W
/-- .. the first call done, or not; the second. -/
def DoS (Is : IsT) (m p q : Nat) (X : Nat → Prop) (w0 : World) (d e d' e' : CH) (a b : Bool) (W : World) : Prop := TwK Is m p q X w0 (if a then d' else d) (if b then e' else e) W

section
variable {Is : IsT} (H : Impl Is) {m p q : Nat} {X : Nat → Prop} {w0 W W' : World} {d e d' e' : CH}
include H
theorem TwK.below (h : TwK Is m p q X w0 d e W) (hb : Below W.heap.size W W') : TwK Is m p q X w0 d e W' := ⟨h.1.below H hb, h.2.trans (Ke.of_below hb)⟩
omit H in
theorem doS_l (h : DoS Is m p q X w0 d e d' e' false false W) (hm : m ≤ w0.heap.size) {f : Nat} {args : Array Value} {er : Int} (hc : ∀ own, Is own W p d → (∀ j, own j → m ≤ j ∧ ¬ X j) → Calls Try.prog f args W (Aft Is own p (d', er) W)) :
    Calls Try.prog f args W fun x W' => x = .returned (.int .i64 er) ∧ DoS Is m p q X w0 d e d' e' true false W' := by
  refine (tw_left h.1 (Nat.le_trans hm h.2.size) (r := (d', er)) hc).mono ?_
  rintro x W' ⟨h1, h2, h3⟩
  exact ⟨h1, h2, h.2.trans h3⟩
theorem doS_r (h : DoS Is m p q X w0 d e d' e' true false W) (hm : m ≤ w0.heap.size) {f : Nat} {args : Array Value} {er : Int} (hc : ∀ own, RcIs own W q e → Calls Try.prog f args W (Aft RcIs own q (e', er) W)) :
    Calls Try.prog f args W fun x W' => x = .returned (.int .i64 er) ∧ DoS Is m p q X w0 d e d' e' true true W' := by
  refine (tw_right H h.1 (Nat.le_trans hm h.2.size) (r := (e', er)) hc).mono ?_
  rintro x W' ⟨h1, h2, h3⟩
  exact ⟨h1, h2, h.2.trans h3⟩
end
/-- What an act leaves, and answers. -/
def DoP (Is : IsT) (m p q : Nat) (X : Nat → Prop) (w : World) (d' e' : CH) (e : Ending) (w' : World) : Prop := e = .returned (.bool true) ∧ TwK Is m p q X w d' e' w'
theorem do_end {Is : IsT} {m p q g0 : Nat} {X : Nat → Prop} {w w0 W : World} {d e : CH} (h0 : Below w.heap.size w w0) (h : TwK Is m p q (fun j => X j ∨ j = g0) w0 d e W) : TwK Is m p q X w d e W :=
  ⟨h.1.fewer fun j hj => .inl hj, (Ke.of_below h0).trans (h.2.mono fun j hj => .inl hj)⟩
theorem act_box {Is : IsT} (H : Impl Is) {m p q : Nat} {X : Nat → Prop} {w : World} {d e : CH} (h : Tw Is w m p q d e X) (cs : Array Value) (t : TypeId) :
    TwK Is m p q (fun j => X j ∨ j = w.heap.size) (w.alloc (.cells cs t)) d e (w.alloc (.cells cs t)) :=
  ⟨h.more H ((Below.refl _ w).alloc (Nat.le_refl _) _) fun j hj => by rcases hj with h | rfl; exact .inl h; exact .inr ⟨Nat.le_refl _, by simp⟩, Ke.refl _ _ _⟩
end Go.Proofs.Ytfinmfmbbgakhaa.ch

