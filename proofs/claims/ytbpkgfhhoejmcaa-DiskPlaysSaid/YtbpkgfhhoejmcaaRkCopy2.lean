/- What Copy of the document's disk does: the walk. -/
import Derived.Test.YtbpkgfhhoejmcaaRkCopy
namespace Go.Proofs.Ytbpkgfhhoejmcaa.dk
open Go Go.RowKit

theorem size64 : (Try.prog.info? 49).map (·.size) = some 8 := by kernel_rfl

def RkCopyPost (most : Nat) (d : DD) (w : World) (e : Ending) (w' : World) : Prop :=
  ∃ q own, e = .returned (.pointer (some ⟨q, 0, none⟩)) ∧ RkIs most w' own q d ∧ Below w.heap.size w w' ∧ ∀ k, own k → w.heap.size ≤ k

section
variable {w : World} {own : Nat → Prop} {p gb cb gn cn : Nat} {v : Value} {d : DD}

set_option maxRecDepth 100000 in
set_option maxHeartbeats 1600000 in
theorem rcopy_any {most : Nat} (h : RkIs most w own p d) (hmost : most ≤ 100000) :
    Calls Try.prog 13 #[.pointer (some ⟨p, 0, none⟩)] w (RkCopyPost most d w) := by
  obtain ⟨h0, gb, cb, gn, cn, v, h1⟩ := h
  have H0 := Lib.hid h0
  have H1 := Lib.hid h1
  have hml : d.more.length ≤ 100000 := Nat.le_trans h0.more1 hmost
  have HML := Lib.hid hml
  obtain ⟨c0, c1, c2, c3, c4, c5, c6, c7⟩ := blk8 h1.blk
  obtain ⟨V, cv, hA⟩ := own_form h1.more
  have hplt := h1.blk.lt
  subst hA
  clear h0 h1 hmost hml
  go_enter Try.func13, Try.ntmps13
  go_wp2_with (refine wpList_skip rfl (exec_store_new w 49 _ #[.int .i64 (d.n : Int), .int .i64 d.room, .slice (some ⟨gb, 0, none⟩) d.n cb, .slice (some ⟨gn, 0, none⟩) d.n cn, .int .i64 (d.used : Int), .slice V d.more.length cv, .int .i64 d.fuse, .bool d.on] (.tmp 3) (.tmp 6) rfl rfl rfl (by rw [size64]; rfl) rfl (by rfl)) ?_)
  have HP1 : Hid (Blk (w.alloc (.cells #[.int .i64 (d.n : Int), .int .i64 d.room, .slice none 0 0, .slice none 0 0, .int .i64 (d.used : Int), .slice none 0 0, .int .i64 d.fuse, .bool d.on] 49)) w.heap.size 49 #[.int .i64 (d.n : Int), .int .i64 d.room, .slice none 0 0, .slice none 0 0, .int .i64 (d.used : Int), .slice none 0 0, .int .i64 d.fuse, .bool d.on]) := Blk.new _ _ _
  have HB1 : Hid (Below w.heap.size w (w.alloc (.cells #[.int .i64 (d.n : Int), .int .i64 d.room, .slice none 0 0, .slice none 0 0, .int .i64 (d.used : Int), .slice none 0 0, .int .i64 d.fuse, .bool d.on] 49))) := (Below.refl _ _).alloc (Nat.le_refl _) _
  generalize w.alloc (.cells #[.int .i64 (d.n : Int), .int .i64 d.room, .slice none 0 0, .slice none 0 0, .int .i64 (d.used : Int), .slice none 0 0, .int .i64 d.fuse, .bool d.on] 49) = X1 at *
  clear c0 c1 c2 c3 c4 c5 c6 c7
  have HN : Hid (1 ≤ d.n ∧ d.n ≤ 1024) := ⟨H0.out.n0, H0.out.n1⟩
  have HL : Hid (d.now.length = d.n) := d.now_length
  obtain ⟨q, hq⟩ : ∃ q, q = w.heap.size := ⟨_, rfl⟩
  rw [← hq] at HP1 ⊢
  have HQ := Lib.hid hq
  clear hq
  have HS1 : Hid (RkAt X1 own p gb cb gn cn (.slice V d.more.length cv) d) := H1.out.keep HB1.out.size (fun k hk => HB1.out.block k (H1.out.low k hk))
  obtain ⟨q0, q1, q2, q3, q4, q5, q6, q7⟩ := blk8 HP1.out
  obtain ⟨s0, s1, s2, s3, s4, s5, s6, s7⟩ := blk8 HS1.out.blk
  obtain ⟨g5, c5, w5, hrun, hg5, hg5l, hr5, hbn⟩ := clone_strs X1.drew gb cb d.n d.base (HS1.out.base.of_block rfl) rfl HN.out.1 HN.out.2
  have HG5 := Lib.hid hg5
  have HG5L := Lib.hid hg5l
  have HR5 := Lib.hid hr5
  clear hg5 hg5l hr5
  have HR1 := Lib.hid hrun
  have HBn1 : Hid (Below X1.heap.size X1 w5) := ⟨hbn.os, hbn.tape, hbn.output, hbn.size, hbn.block⟩
  have hq1 := HP1.out.lt
  have hp1 := HS1.out.blk.lt
  clear hrun hbn
  refine wp_region_still_w 6 (by kernel_rfl) (by kernel_rfl) ?_
  simp only [List.take_succ_cons, List.take_zero, List.drop_succ_cons, List.drop_zero]
  iterate 6 still_step
  refine wpStill_nil ?_
  refine wpList_value rfl (exec_append2 (.tmp 11) (.tmp 15) rfl rfl rfl rfl HR1.out) ?_
  clear q0 q1 q2 q3 q4 q5 q6 q7 s0 s1 s2 s3 s4 s5 s6 s7
  have HPw1 : Hid (Blk w5 q 49 #[.int .i64 (d.n : Int), .int .i64 d.room, .slice none 0 0, .slice none 0 0, .int .i64 (d.used : Int), .slice none 0 0, .int .i64 d.fuse, .bool d.on]) := HP1.out.of_block (HBn1.out.block q hq1)
  obtain ⟨q0, q1, q2, q3, q4, q5, q6, q7⟩ := blk8 HPw1.out
  have fq := HPw1.out.frozen 2
  have hqn := HPw1.out.lt
  go_wp2_with fail
  have HP2 : Hid (Blk (w5.setCell ⟨q, 2, none⟩ (.slice (some ⟨g5, 0, none⟩) d.n c5)) q 49 #[.int .i64 (d.n : Int), .int .i64 d.room, .slice (some ⟨g5, 0, none⟩) d.n c5, .slice none 0 0, .int .i64 (d.used : Int), .slice none 0 0, .int .i64 d.fuse, .bool d.on]) := HPw1.out.set_ 2 _
  have HB2 : Hid (Below w.heap.size w (w5.setCell ⟨q, 2, none⟩ (.slice (some ⟨g5, 0, none⟩) d.n c5))) := (HB1.out.trans (HBn1.out.mono HB1.out.size)).setCell (by rw [HQ.out]; exact Nat.le_refl _) _
  have HZ2 : Hid ((w5.setCell ⟨q, 2, none⟩ (.slice (some ⟨g5, 0, none⟩) d.n c5)).heap.size = w5.heap.size) := by unfold Hid; rw [size_set]
  have HQ5 : Hid (q < g5) := Nat.lt_of_lt_of_le hq1 HG5.out
  have HE2 : Hid (StrsB (w5.setCell ⟨q, 2, none⟩ (.slice (some ⟨g5, 0, none⟩) d.n c5)) g5 d.base) := HR5.out.of_block (set_other _ _ _ _ _ (Nat.ne_of_gt HQ5.out))
  generalize w5.setCell ⟨q, 2, none⟩ (.slice (some ⟨g5, 0, none⟩) d.n c5) = X2 at *
  clear q0 q1 q2 q3 q4 q5 q6 q7 fq hqn hq1 hp1 HS1
  have HS2 : Hid (RkAt X2 own p gb cb gn cn (.slice V d.more.length cv) d) := H1.out.keep HB2.out.size (fun k hk => HB2.out.block k (H1.out.low k hk))
  obtain ⟨q0, q1, q2, q3, q4, q5, q6, q7⟩ := blk8 HP2.out
  obtain ⟨s0, s1, s2, s3, s4, s5, s6, s7⟩ := blk8 HS2.out.blk
  obtain ⟨g6, c6, w6, hrun, hg6, hg6l, hr6, hbn⟩ := clone_strs X2.drew gn cn d.n d.now (HS2.out.now.of_block rfl) HL.out HN.out.1 HN.out.2
  have HG6 := Lib.hid hg6
  have HG6L := Lib.hid hg6l
  have HR6 := Lib.hid hr6
  clear hg6 hg6l hr6
  have HR2 := Lib.hid hrun
  have HBn2 : Hid (Below X2.heap.size X2 w6) := ⟨hbn.os, hbn.tape, hbn.output, hbn.size, hbn.block⟩
  have hq2 := HP2.out.lt
  have hp2 := HS2.out.blk.lt
  clear hrun hbn
  refine wp_region_still_w 6 (by kernel_rfl) (by kernel_rfl) ?_
  simp only [List.take_succ_cons, List.take_zero, List.drop_succ_cons, List.drop_zero]
  iterate 6 still_step
  refine wpStill_nil ?_
  refine wpList_value rfl (exec_append2 (.tmp 19) (.tmp 23) rfl rfl rfl rfl HR2.out) ?_
  clear q0 q1 q2 q3 q4 q5 q6 q7 s0 s1 s2 s3 s4 s5 s6 s7
  have HPw2 : Hid (Blk w6 q 49 #[.int .i64 (d.n : Int), .int .i64 d.room, .slice (some ⟨g5, 0, none⟩) d.n c5, .slice none 0 0, .int .i64 (d.used : Int), .slice none 0 0, .int .i64 d.fuse, .bool d.on]) := HP2.out.of_block (HBn2.out.block q hq2)
  obtain ⟨q0, q1, q2, q3, q4, q5, q6, q7⟩ := blk8 HPw2.out
  have fq := HPw2.out.frozen 3
  have hqn := HPw2.out.lt
  go_wp2_with fail
  have HP3 : Hid (Blk (w6.setCell ⟨q, 3, none⟩ (.slice (some ⟨g6, 0, none⟩) d.n c6)) q 49 #[.int .i64 (d.n : Int), .int .i64 d.room, .slice (some ⟨g5, 0, none⟩) d.n c5, .slice (some ⟨g6, 0, none⟩) d.n c6, .int .i64 (d.used : Int), .slice none 0 0, .int .i64 d.fuse, .bool d.on]) := HPw2.out.set_ 3 _
  have HB3 : Hid (Below w.heap.size w (w6.setCell ⟨q, 3, none⟩ (.slice (some ⟨g6, 0, none⟩) d.n c6))) := (HB2.out.trans (HBn2.out.mono HB2.out.size)).setCell (by rw [HQ.out]; exact Nat.le_refl _) _
  have HZ3 : Hid ((w6.setCell ⟨q, 3, none⟩ (.slice (some ⟨g6, 0, none⟩) d.n c6)).heap.size = w6.heap.size) := by unfold Hid; rw [size_set]
  have HQ6 : Hid (g5 < g6) := Nat.lt_of_lt_of_le HE2.out.lt HG6.out
  have hq6 := HQ5.out
  have hq7 := HQ6.out
  have HE3 : Hid (StrsB (w6.setCell ⟨q, 3, none⟩ (.slice (some ⟨g6, 0, none⟩) d.n c6)) g5 d.base) := (HE2.out.of_block (HBn2.out.block _ HE2.out.lt)).of_block (set_other _ _ _ _ _ (Nat.ne_of_gt HQ5.out))
  have HF3 : Hid (StrsB (w6.setCell ⟨q, 3, none⟩ (.slice (some ⟨g6, 0, none⟩) d.n c6)) g6 d.now) := HR6.out.of_block (set_other _ _ _ _ _ (by omega))
  clear hq6 hq7
  generalize w6.setCell ⟨q, 3, none⟩ (.slice (some ⟨g6, 0, none⟩) d.n c6) = X3 at *
  clear q0 q1 q2 q3 q4 q5 q6 q7 fq hqn hq2 hp2 HS2
  have HS3 : Hid (RkAt X3 own p gb cb gn cn (.slice V d.more.length cv) d) := H1.out.keep HB3.out.size (fun k hk => HB3.out.block k (H1.out.low k hk))
  obtain ⟨q0, q1, q2, q3, q4, q5, q6, q7⟩ := blk8 HP3.out
  obtain ⟨s0, s1, s2, s3, s4, s5, s6, s7⟩ := blk8 HS3.out.blk
  obtain ⟨v7, w7, hrun, hr7, hbn⟩ := clone_writes X3.drew (.slice V d.more.length cv) d.more (own_of_block HS3.out.more (fun _ _ => rfl)) HML.out
  obtain ⟨A7, c7, rfl⟩ := own_form hr7
  have HR7 := Lib.hid hr7
  clear hr7
  have HR3 := Lib.hid hrun
  have HBn3 : Hid (Below X3.heap.size X3 w7) := ⟨hbn.os, hbn.tape, hbn.output, hbn.size, hbn.block⟩
  have hq3 := HP3.out.lt
  have hp3 := HS3.out.blk.lt
  clear hrun hbn
  refine wp_region_still_w 6 (by kernel_rfl) (by kernel_rfl) ?_
  simp only [List.take_succ_cons, List.take_zero, List.drop_succ_cons, List.drop_zero]
  iterate 6 still_step
  refine wpStill_nil ?_
  refine wpList_value rfl (exec_append2 (.tmp 27) (.tmp 31) rfl rfl rfl rfl HR3.out) ?_
  clear q0 q1 q2 q3 q4 q5 q6 q7 s0 s1 s2 s3 s4 s5 s6 s7
  have HPw3 : Hid (Blk w7 q 49 #[.int .i64 (d.n : Int), .int .i64 d.room, .slice (some ⟨g5, 0, none⟩) d.n c5, .slice (some ⟨g6, 0, none⟩) d.n c6, .int .i64 (d.used : Int), .slice none 0 0, .int .i64 d.fuse, .bool d.on]) := HP3.out.of_block (HBn3.out.block q hq3)
  obtain ⟨q0, q1, q2, q3, q4, q5, q6, q7⟩ := blk8 HPw3.out
  have fq := HPw3.out.frozen 5
  have hqn := HPw3.out.lt
  go_wp2_with fail
  have HP4 : Hid (Blk (w7.setCell ⟨q, 5, none⟩ (.slice A7 d.more.length c7)) q 49 #[.int .i64 (d.n : Int), .int .i64 d.room, .slice (some ⟨g5, 0, none⟩) d.n c5, .slice (some ⟨g6, 0, none⟩) d.n c6, .int .i64 (d.used : Int), .slice A7 d.more.length c7, .int .i64 d.fuse, .bool d.on]) := HPw3.out.set_ 5 _
  have HB4 : Hid (Below w.heap.size w (w7.setCell ⟨q, 5, none⟩ (.slice A7 d.more.length c7))) := (HB3.out.trans (HBn3.out.mono HB3.out.size)).setCell (by rw [HQ.out]; exact Nat.le_refl _) _
  have HZ4 : Hid ((w7.setCell ⟨q, 5, none⟩ (.slice A7 d.more.length c7)).heap.size = w7.heap.size) := by unfold Hid; rw [size_set]
  have HE4 : Hid (StrsB (w7.setCell ⟨q, 5, none⟩ (.slice A7 d.more.length c7)) g5 d.base) := (HE3.out.of_block (HBn3.out.block _ HE3.out.lt)).of_block (set_other _ _ _ _ _ (Nat.ne_of_gt HQ5.out))
  have HF4 : Hid (StrsB (w7.setCell ⟨q, 5, none⟩ (.slice A7 d.more.length c7)) g6 d.now) := (HF3.out.of_block (HBn3.out.block _ HF3.out.lt)).of_block (set_other _ _ _ _ _ (by have := HQ5.out; have := HQ6.out; omega))
  have HM4 : Hid ((w7.setCell ⟨q, 5, none⟩ (.slice A7 d.more.length c7)).ownsRow X3.heap.size 73 2 (.slice A7 d.more.length c7) d.more.length (wRow d.more)) := own_of_block HR7.out (fun j hj => set_other _ _ _ _ _ (by have h := (HR7.out.lt j hj).1; have : X3.heap.size ≤ j := h; omega))
  generalize w7.setCell ⟨q, 5, none⟩ (.slice A7 d.more.length c7) = X4 at *
  clear q0 q1 q2 q3 q4 q5 q6 q7 fq hqn hq3 hp3 HS3
  go_wp2_with fail
  go_ret
  have l5 := HE4.out.lt
  have l6 := HF4.out.lt
  have lq := HP4.out.lt
  have q5 := HQ5.out
  have q6 := HQ6.out
  have qq := HQ.out
  refine ⟨q, fun k => w.heap.size ≤ k ∧ k < X4.heap.size, rfl, ⟨H0.out, g5, c5, g6, c6, .slice A7 d.more.length c7, ?_⟩, HB4.out, fun k hk => hk.1⟩
  refine ⟨HP4.out, HE4.out, HF4.out, ?_, ⟨by omega, by omega⟩, ⟨by omega, by omega⟩, ⟨by omega, by omega⟩, fun j hj => ?_, by omega, fun k hk => hk.2⟩
  · obtain ⟨h1, h2⟩ := HM4.out
    refine ⟨h1, ?_⟩
    rcases h2 with h2 | ⟨g, cap, cur, e1, _, e3⟩
    · exact .inl h2
    · exact .inr ⟨g, cap, cur, e1, Nat.zero_le _, e3⟩
  · have h := HM4.out.lt j hj
    have hs := HB3.out.size
    exact ⟨Nat.le_trans hs h.1, h.2⟩
end
end Go.Proofs.Ytbpkgfhhoejmcaa.dk
