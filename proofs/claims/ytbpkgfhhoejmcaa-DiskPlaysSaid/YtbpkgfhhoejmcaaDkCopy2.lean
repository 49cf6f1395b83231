/- What Copy of package disk does: the walk. -/
import Derived.Test.YtbpkgfhhoejmcaaDkCopy
namespace Go.Proofs.Ytbpkgfhhoejmcaa.dk
open Go Go.RowKit

theorem size61 : (Try.prog.info? 45).map (·.size) = some 6 := by kernel_rfl

def DkCopyPost (most : Nat) (d : DD) (w : World) (e : Ending) (w' : World) : Prop :=
  ∃ q own, e = .returned (.pointer (some ⟨q, 0, none⟩)) ∧ DkIs most w' own q d ∧ Below w.heap.size w w' ∧ ∀ k, own k → w.heap.size ≤ k

theorem unOf_at {s : Sects} : ∀ {l : List (Nat × Bt)}, (∀ v, some v ∈ s → v.length = 32) → (∀ x ∈ l, x.2.length = 32) → ∀ x ∈ unOf s l, x.2.1.length = 32 ∧ x.2.2.1.length = 32
  | [], _, _, x, hx => by simp [unOf] at hx
  | (k, v) :: r, hs, hl, x, hx => by
    simp only [unOf, List.mem_cons] at hx
    rcases hx with rfl | hx
    · refine ⟨hl (k, v) (by simp), ?_⟩
      show ((look s (k : Int)).getD zz).length = 32
      cases hq : look s (k : Int) with
      | none => exact zz_length
      | some u => exact hs u (look_mem hq)
    · refine unOf_at (s := put s k v) (fun u hu => ?_) (fun y hy => hl y (by simp [hy])) x hx
      rcases mem_set hu with h' | h'
      · exact hs u h'
      · injection h' with h'; subst h'; exact hl (k, v) (by simp)

section
variable {w : World} {own : Nat → Prop} {p : Nat} {d : DD}

set_option maxRecDepth 100000 in
set_option maxHeartbeats 1600000 in
theorem copy_any {most : Nat} (h : DkIs most w own p d) (hmost : most ≤ 100000) :
    Calls Try.prog 7 #[.pointer (some ⟨p, 0, none⟩)] w (DkCopyPost most d w) := by
  obtain ⟨h0, m, v, h1⟩ := h
  have H0 := Lib.hid h0
  have H1 := Lib.hid h1
  have hml : d.more.length ≤ 100000 := Nat.le_trans h0.more1 hmost
  have HML := Lib.hid hml
  have HON : Hid (∀ u ∈ wrRow (unOf d.base d.more), u.oneCell' = true) := by
    intro u hu
    simp only [wrRow, List.mem_flatMap] at hu
    obtain ⟨x, _, hu⟩ := hu
    exact wrCells_one x u hu
  obtain ⟨c0, c1, c2, c3, c4, c5⟩ := blk6 h1.1
  obtain ⟨V, cv, hA⟩ := own_form h1.2.2.1
  have hplt := h1.1.lt
  obtain ⟨es, clock, hm, hmk⟩ := h1.2.1.twin (w' := w) (n := 0)
  have HM := Lib.hid hm
  have HMK := Lib.hid hmk
  subst hA
  clear h0 h1 hmost hml hm hmk
  go_enter Try.func7, Try.ntmps7
  go_wp2_with (refine wpList_skip rfl (exec_store_new w 45 _ #[.int .i64 (d.n : Int), .int .i64 d.room, .map (some m), .slice V d.more.length cv, .bool d.on, .int .i64 d.fuse] (.tmp 3) (.tmp 8) rfl rfl rfl (by rw [size61]; rfl) rfl (by rfl)) ?_)
  have HP1 : Hid (Blk (w.alloc (.cells #[.int .i64 (d.n : Int), .int .i64 d.room, .map (some m), .slice V d.more.length cv, .bool d.on, .int .i64 d.fuse] 45)) w.heap.size 45 #[.int .i64 (d.n : Int), .int .i64 d.room, .map (some m), .slice V d.more.length cv, .bool d.on, .int .i64 d.fuse]) := Blk.new _ _ _
  have HB1 : Hid (Below w.heap.size w (w.alloc (.cells #[.int .i64 (d.n : Int), .int .i64 d.room, .map (some m), .slice V d.more.length cv, .bool d.on, .int .i64 d.fuse] 45))) := (Below.refl _ _).alloc (Nat.le_refl _) _
  generalize w.alloc (.cells #[.int .i64 (d.n : Int), .int .i64 d.room, .map (some m), .slice V d.more.length cv, .bool d.on, .int .i64 d.fuse] 45) = X1 at *
  clear c0 c1 c2 c3 c4 c5
  obtain ⟨q, hq⟩ : ∃ q, q = w.heap.size := ⟨_, rfl⟩
  rw [← hq] at HP1 ⊢
  have HQ := Lib.hid hq
  clear hq
  refine (mclone_any m es clock X1 ((HB1.out.block m (Array.getElem?_eq_some_iff.1 HM.out).1).trans HM.out)).mono ?_
  rintro e W2 ⟨rfl, rfl⟩
  have HP2 : Hid (Blk (X1.alloc (.map es clock)) q 45 #[.int .i64 (d.n : Int), .int .i64 d.room, .map (some m), .slice V d.more.length cv, .bool d.on, .int .i64 d.fuse]) := HP1.out.of_block (Below.heap_alloc _ _ _ HP1.out.lt)
  have HB2 : Hid (Below w.heap.size w (X1.alloc (.map es clock))) := HB1.out.alloc HB1.out.size _
  have HM2 : Hid (MapIs (X1.alloc (.map es clock)) X1.heap.size d.now) := HMK.out _ _ (heap_alloc_new _ _)
  have HQM : Hid (q < X1.heap.size) := HP1.out.lt
  obtain ⟨m2, hm2⟩ : ∃ x, x = X1.heap.size := ⟨_, rfl⟩
  rw [← hm2] at HM2 HQM ⊢
  have HML2 : Hid (m2 < (X1.alloc (.map es clock)).heap.size) := HM2.out.lt
  clear hm2
  generalize X1.alloc (.map es clock) = X2 at *
  obtain ⟨q0, q1, q2, q3, q4, q5⟩ := blk6 HP2.out
  have fq := HP2.out.frozen 2
  have hql := HP2.out.lt
  obtain ⟨s0, s1, s2, s3, s4, s5⟩ := blk6 (H1.out.keep HB2.out.size (fun k hk => HB2.out.block k (H1.out.2.2.2.2.2.2 k hk))).1
  have hpl : p < X2.heap.size := Nat.lt_of_lt_of_le hplt HB2.out.size
  have hpq : p < q := by rw [HQ.out]; exact hplt
  go_wp2_with fail
  have HP3 : Hid (Blk (X2.setCell ⟨q, 2, none⟩ (.map (some m2))) q 45 #[.int .i64 (d.n : Int), .int .i64 d.room, .map (some m2), .slice V d.more.length cv, .bool d.on, .int .i64 d.fuse]) := HP2.out.set_ 2 _
  have HB3 : Hid (Below w.heap.size w (X2.setCell ⟨q, 2, none⟩ (.map (some m2)))) := HB2.out.setCell (by rw [HQ.out]; exact Nat.le_refl _) _
  have HM3 : Hid (MapIs (X2.setCell ⟨q, 2, none⟩ (.map (some m2))) m2 d.now) := HM2.out.of_block (set_other _ _ _ _ _ (Nat.ne_of_gt HQM.out))
  generalize X2.setCell ⟨q, 2, none⟩ (.map (some m2)) = X3 at *
  clear q0 q1 q2 q3 q4 q5 fq hql s0 s1 s2 s3 s4 s5 hpl
  have hown3 : X3.ownsRow 0 61 66 (.slice V d.more.length cv) d.more.length (wrRow (unOf d.base d.more)) := (H1.out.keep HB3.out.size (fun k hk => HB3.out.block k (H1.out.2.2.2.2.2.2 k hk))).2.2.1
  refine (sclone_any X3 _ _ _ hown3 HON.out HML.out).mono ?_
  rintro e W4 ⟨v4, rfl, ho4, hb4⟩
  obtain ⟨A4, c4, rfl⟩ := own_form ho4
  have HO4 := Lib.hid ho4
  have HB4 := Lib.hid hb4
  clear hown3 ho4 hb4
  have HP4 : Hid (Blk W4 q 45 #[.int .i64 (d.n : Int), .int .i64 d.room, .map (some m2), .slice V d.more.length cv, .bool d.on, .int .i64 d.fuse]) := HP3.out.of_block (HB4.out.block q HP3.out.lt)
  obtain ⟨q0, q1, q2, q3, q4, q5⟩ := blk6 HP4.out
  have fq := HP4.out.frozen 3
  have hql := HP4.out.lt
  go_wp2_with fail
  go_ret
  have hq3 := HP3.out.lt
  have hm3 := HM3.out.lt
  have hx3 := HB3.out.size
  have qm := HQM.out
  have qq := HQ.out
  have h4 := HB4.out.size
  refine ⟨q, fun k => w.heap.size ≤ k ∧ k < W4.heap.size, rfl, ⟨H0.out, m2, .slice A4 d.more.length c4, ?_⟩, ?_, fun k hk => hk.1⟩
  · refine ⟨HP4.out.set_ 3 _, (HM3.out.of_block (HB4.out.block m2 hm3)).of_block (set_other _ _ _ _ _ (Nat.ne_of_gt qm)), ?_, ⟨by omega, by omega⟩, ⟨by omega, by omega⟩, fun j hj => ?_, fun k hk => by rw [size_set]; exact hk.2⟩
    · have h5 : (W4.setCell ⟨q, 3, none⟩ (.slice A4 d.more.length c4)).ownsRow X3.heap.size 61 66 (.slice A4 d.more.length c4) d.more.length (wrRow (unOf d.base d.more)) := own_of_block HO4.out (fun j hj => set_other _ _ _ _ _ (by have h := (HO4.out.lt j hj).1; omega))
      obtain ⟨h1, h2⟩ := h5
      refine ⟨h1, ?_⟩
      rcases h2 with h2 | ⟨g, cap, cur, e1, _, e3⟩
      · exact .inl h2
      · exact .inr ⟨g, cap, cur, e1, Nat.zero_le _, e3⟩
    · have h := HO4.out.lt j hj
      exact ⟨Nat.le_trans hx3 h.1, h.2⟩
  · exact (HB3.out.trans (HB4.out.mono HB3.out.size)).setCell (by rw [qq]; exact Nat.le_refl _) _
end
end Go.Proofs.Ytbpkgfhhoejmcaa.dk
