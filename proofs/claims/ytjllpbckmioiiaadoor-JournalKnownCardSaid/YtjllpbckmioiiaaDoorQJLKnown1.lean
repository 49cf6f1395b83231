/- DkCopy2, JKnG. -/
import Derived.Test.YtjllpbckmioiiaaDoorQ20
import Derived.Test.YtjllpbckmioiiaaDoorQJLKnown0
/- What Copy of package disk does: the walk. -/
namespace Go.Proofs.YtjllpbckmioiiaaDoor.dk
open Go Go.RowKit
set_option maxRecDepth 100000

theorem size61 : (Tryd.prog.info? 74).map (·.size) = some 6 := by kernel_rfl

def DkCopyPost (most : Nat) (d : DD) (w : World) (e : Ending) (w' : World) : Prop :=
  ∃ q own, e = .returned (.pointer (some ⟨q, 0, none⟩)) ∧ DkIs most w' own q d ∧ Below w.heap.size w w' ∧ ∀ k, own k → w.heap.size ≤ k

theorem unOf_at {s : Sects} : ∀ {l : List (Nat × Bt)}, (∀ v, some v ∈ s → v.length = 32) → (∀ x ∈ l, x.2.length = 32) → ∀ x ∈ unOf s l, x.2.1.length = 32 ∧ x.2.2.1.length = 32
  | [], _, _, x, hx => by simp [unOf] at hx
  | (k, v) :: r, hs, hl, x, hx => by
    simp only [unOf, List.mem_cons] at hx
    rcases hx with rfl | hx
    · refine ⟨hl (k, v) (by simp), ?_⟩
      show ((look s (k : Int)).getD zz).length = 32
      cases hq : look s (k : Int) with
      | none => exact zz_length
      | some u => exact hs u (look_mem hq)
    · refine unOf_at (s := put s k v) (fun u hu => ?_) (fun y hy => hl y (by simp [hy])) x hx
      rcases mem_set hu with h' | h'
      · exact hs u h'
      · injection h' with h'; subst h'; exact hl (k, v) (by simp)

section
variable {w : World} {own : Nat → Prop} {p : Nat} {d : DD}

set_option maxRecDepth 100000 in
set_option maxHeartbeats 1600000 in
theorem copy_any {most : Nat} (h : DkIs most w own p d) (hmost : most ≤ 100000) :
    Calls Tryd.prog 11 #[.pointer (some ⟨p, 0, none⟩)] w (DkCopyPost most d w) := by
  obtain ⟨h0, m, v, h1⟩ := h
  have H0 := Lib.hid h0
  have H1 := Lib.hid h1
  have hml : d.more.length ≤ 100000 := Nat.le_trans h0.more1 hmost
  have HML := Lib.hid hml
  have HON : Hid (∀ u ∈ wrRow (unOf d.base d.more), u.oneCell' = true) := by
    intro u hu
    simp only [wrRow, List.mem_flatMap] at hu
    obtain ⟨x, _, hu⟩ := hu
    exact wrCells_one x u hu
  obtain ⟨c0, c1, c2, c3, c4, c5⟩ := blk6 h1.1
  obtain ⟨V, cv, hA⟩ := own_form h1.2.2.1
  have hplt := h1.1.lt
  obtain ⟨es, clock, hm, hmk⟩ := h1.2.1.twin (w' := w) (n := 0)
  have HM := Lib.hid hm
  have HMK := Lib.hid hmk
  subst hA
  clear h0 h1 hmost hml hm hmk
  go_enter Tryd.func11, Tryd.ntmps11
  go_wp2_with (refine wpList_skip rfl (exec_store_new w 74 _ #[.int .i64 (d.n : Int), .int .i64 d.room, .map (some m), .slice V d.more.length cv, .bool d.on, .int .i64 d.fuse] (.tmp 3) (.tmp 8) rfl rfl rfl (by rw [size61]; rfl) rfl (by rfl)) ?_)
  have HP1 : Hid (Blk (w.alloc (.cells #[.int .i64 (d.n : Int), .int .i64 d.room, .map (some m), .slice V d.more.length cv, .bool d.on, .int .i64 d.fuse] 74)) w.heap.size 74 #[.int .i64 (d.n : Int), .int .i64 d.room, .map (some m), .slice V d.more.length cv, .bool d.on, .int .i64 d.fuse]) := Blk.new _ _ _
  have HB1 : Hid (Below w.heap.size w (w.alloc (.cells #[.int .i64 (d.n : Int), .int .i64 d.room, .map (some m), .slice V d.more.length cv, .bool d.on, .int .i64 d.fuse] 74))) := (Below.refl _ _).alloc (Nat.le_refl _) _
  generalize w.alloc (.cells #[.int .i64 (d.n : Int), .int .i64 d.room, .map (some m), .slice V d.more.length cv, .bool d.on, .int .i64 d.fuse] 74) = X1 at *
  clear c0 c1 c2 c3 c4 c5
  obtain ⟨q, hq⟩ : ∃ q, q = w.heap.size := ⟨_, rfl⟩
  rw [← hq] at HP1 ⊢
  have HQ := Lib.hid hq
  clear hq
  refine (mclone_any m es clock X1 ((HB1.out.block m (Array.getElem?_eq_some_iff.1 HM.out).1).trans HM.out)).mono ?_
  rintro e W2 ⟨rfl, rfl⟩
  have HP2 : Hid (Blk (X1.alloc (.map es clock)) q 74 #[.int .i64 (d.n : Int), .int .i64 d.room, .map (some m), .slice V d.more.length cv, .bool d.on, .int .i64 d.fuse]) := HP1.out.of_block (Below.heap_alloc _ _ _ HP1.out.lt)
  have HB2 : Hid (Below w.heap.size w (X1.alloc (.map es clock))) := HB1.out.alloc HB1.out.size _
  have HM2 : Hid (MapIs (X1.alloc (.map es clock)) X1.heap.size d.now) := HMK.out _ _ (heap_alloc_new _ _)
  have HQM : Hid (q < X1.heap.size) := HP1.out.lt
  obtain ⟨m2, hm2⟩ : ∃ x, x = X1.heap.size := ⟨_, rfl⟩
  rw [← hm2] at HM2 HQM ⊢
  have HML2 : Hid (m2 < (X1.alloc (.map es clock)).heap.size) := HM2.out.lt
  clear hm2
  generalize X1.alloc (.map es clock) = X2 at *
  obtain ⟨q0, q1, q2, q3, q4, q5⟩ := blk6 HP2.out
  have fq := HP2.out.frozen 2
  have hql := HP2.out.lt
  obtain ⟨s0, s1, s2, s3, s4, s5⟩ := blk6 (H1.out.keep HB2.out.size (fun k hk => HB2.out.block k (H1.out.2.2.2.2.2.2 k hk))).1
  have hpl : p < X2.heap.size := Nat.lt_of_lt_of_le hplt HB2.out.size
  have hpq : p < q := by rw [HQ.out]; exact hplt
  go_wp2_with fail
  have HP3 : Hid (Blk (X2.setCell ⟨q, 2, none⟩ (.map (some m2))) q 74 #[.int .i64 (d.n : Int), .int .i64 d.room, .map (some m2), .slice V d.more.length cv, .bool d.on, .int .i64 d.fuse]) := HP2.out.set_ 2 _
  have HB3 : Hid (Below w.heap.size w (X2.setCell ⟨q, 2, none⟩ (.map (some m2)))) := HB2.out.setCell (by rw [HQ.out]; exact Nat.le_refl _) _
  have HM3 : Hid (MapIs (X2.setCell ⟨q, 2, none⟩ (.map (some m2))) m2 d.now) := HM2.out.of_block (set_other _ _ _ _ _ (Nat.ne_of_gt HQM.out))
  generalize X2.setCell ⟨q, 2, none⟩ (.map (some m2)) = X3 at *
  clear q0 q1 q2 q3 q4 q5 fq hql s0 s1 s2 s3 s4 s5 hpl
  have hown3 : X3.ownsRow 0 80 66 (.slice V d.more.length cv) d.more.length (wrRow (unOf d.base d.more)) := (H1.out.keep HB3.out.size (fun k hk => HB3.out.block k (H1.out.2.2.2.2.2.2 k hk))).2.2.1
  refine (sclone_any X3 _ _ _ hown3 HON.out HML.out).mono ?_
  rintro e W4 ⟨v4, rfl, ho4, hb4⟩
  obtain ⟨A4, c4, rfl⟩ := own_form ho4
  have HO4 := Lib.hid ho4
  have HB4 := Lib.hid hb4
  clear hown3 ho4 hb4
  have HP4 : Hid (Blk W4 q 74 #[.int .i64 (d.n : Int), .int .i64 d.room, .map (some m2), .slice V d.more.length cv, .bool d.on, .int .i64 d.fuse]) := HP3.out.of_block (HB4.out.block q HP3.out.lt)
  obtain ⟨q0, q1, q2, q3, q4, q5⟩ := blk6 HP4.out
  have fq := HP4.out.frozen 3
  have hql := HP4.out.lt
  go_wp2_with fail
  go_ret
  have hq3 := HP3.out.lt
  have hm3 := HM3.out.lt
  have hx3 := HB3.out.size
  have qm := HQM.out
  have qq := HQ.out
  have h4 := HB4.out.size
  refine ⟨q, fun k => w.heap.size ≤ k ∧ k < W4.heap.size, rfl, ⟨H0.out, m2, .slice A4 d.more.length c4, ?_⟩, ?_, fun k hk => hk.1⟩
  · refine ⟨HP4.out.set_ 3 _, (HM3.out.of_block (HB4.out.block m2 hm3)).of_block (set_other _ _ _ _ _ (Nat.ne_of_gt qm)), ?_, ⟨by omega, by omega⟩, ⟨by omega, by omega⟩, fun j hj => ?_, fun k hk => by rw [size_set]; exact hk.2⟩
    · have h5 : (W4.setCell ⟨q, 3, none⟩ (.slice A4 d.more.length c4)).ownsRow X3.heap.size 80 66 (.slice A4 d.more.length c4) d.more.length (wrRow (unOf d.base d.more)) := own_of_block HO4.out (fun j hj => set_other _ _ _ _ _ (by have h := (HO4.out.lt j hj).1; omega))
      obtain ⟨h1, h2⟩ := h5
      refine ⟨h1, ?_⟩
      rcases h2 with h2 | ⟨g, cap, cur, e1, _, e3⟩
      · exact .inl h2
      · exact .inr ⟨g, cap, cur, e1, Nat.zero_le _, e3⟩
    · have h := HO4.out.lt j hj
      exact ⟨Nat.le_trans hx3 h.1, h.2⟩
  · exact (HB3.out.trans (HB4.out.mono HB3.out.size)).setCell (by rw [qq]; exact Nat.le_refl _) _
end
end Go.Proofs.YtjllpbckmioiiaaDoor.dk

/- What the drawn statements of JournalKnown yield. -/
namespace Go.Proofs.YtjllpbckmioiiaaDoor.jr
open Go Go.RowKit Go.Proofs.YtjllpbckmioiiaaDoor.dk Go.Proofs.YtjllpbckmioiiaaDoor.wi
set_option maxRecDepth 100000

theorem InG.wide {most : Nat} {w : World} {G G' : Nat → Prop} {p : Nat} {d : DD} (h : InG most w G p d) (hs : ∀ k, G k → G' k) : InG most w G' p d := by
  obtain ⟨own, h1, h2⟩ := h
  exact ⟨own, h1, fun k hk => hs k (h2 k hk)⟩
theorem In.box {most : Nat} {w : World} {B p : Nat} {d : DD} (h : In most w B p d) : InG most w (fun k => B ≤ k ∧ k < w.heap.size) p d := h.inG _ (fun _ a b => ⟨a, b⟩)

theorem InG.fence {most : Nat} {w w' : World} {G : Nat → Prop} {p : Nat} {d : DD} (h : InG most w G p d) (hG : ∀ k, w.heap.size ≤ k → G k) (hb : Below w.heap.size w w') :
    ∃ G' : Nat → Prop, InG most w' G' p d ∧ (∀ k, w'.heap.size ≤ k → G' k) ∧ (∀ k, G' k → G k) ∧ (∀ k, w.heap.size ≤ k → k < w'.heap.size → ¬ G' k) := by
  obtain ⟨own, h1, h2⟩ := h
  refine ⟨fun k => G k ∧ (k < w.heap.size ∨ w'.heap.size ≤ k), ⟨own, h1.below hb, fun k hk => ⟨h2 k hk, .inl (h1.low k hk)⟩⟩, fun k hk => ⟨hG k (Nat.le_trans hb.size hk), .inr hk⟩, fun k h => h.1, fun k h1 h2 h3 => ?_⟩
  rcases h3.2 with h | h <;> omega

theorem wsAt_oneS {W : World} (S : ByteArray) (k : Int) (x : Bt) (hS : str x = S) (hk : i64B k) : WsAt (W.alloc (.cells #[.int .i64 k, .string S] 49)) (some ⟨W.heap.size, 0, none⟩) [(k, x)] := by
  subst hS
  exact wsAt_one k x hk
theorem wsAt_twoS {W : World} (S T : ByteArray) (k j : Int) (x y : Bt) (hS : str x = S) (hT : str y = T) (hk : i64B k) (hj : i64B j) : WsAt (W.alloc (.cells #[.int .i64 k, .string S, .int .i64 j, .string T] 49)) (some ⟨W.heap.size, 0, none⟩) [(k, x), (j, y)] := by
  subst hS hT
  exact wsAt_two k j x y hk hj

theorem toList_bl (s : ByteArray) : s.toList = bl s := by simp [bl, ByteArray.toList_eq]
theorem head5 {S : ByteArray} (h : str (hdB 0 3) = S) : ((S.extract 0 5).toList == [1, 1, 1, 3, 0]) = true := by
  rw [toList_bl, bl_upto, ← h, bl_str]
  decide +kernel
theorem first3 {S : ByteArray} (h : str k73 = S) : ((S.extract 0 3).toList == [0, 0, 0]) = false := by
  rw [toList_bl, bl_upto, ← h, bl_str, beq_eq_false_iff_ne]
  exact kd3_73.2.2

/-! ### Six lists -/
def Sl (B : Nat) (W : World) (v : Value) (n : Nat) (l : List Wr) : Prop := ∃ b, v = .slice (some ⟨b, 0, none⟩) n n ∧ WsAt W (some ⟨b, 0, none⟩) l ∧ B ≤ b ∧ b < W.heap.size
def Bs6 (B : Nat) (W : World) (b : Nat) : Prop := B ≤ b ∧ b < W.heap.size ∧ ∀ i (h : i < badL.length), ∃ A, W.cell? ⟨b, i, none⟩ = some (.slice A badL[i].length badL[i].length) ∧ WsAt W A badL[i] ∧ ∀ g o, A = some ⟨g, o, none⟩ → B ≤ g ∧ g < W.heap.size
def R12 (B : Nat) (SA SB : ByteArray) : Nat → Value → World → Prop
  | 0, v, _ | 3, v, _ | 11, v, _ | 14, v, _ => v = .string SA
  | 1, v, _ => v = .agg #[.int .i64 144, .string SA]
  | 4, v, _ => v = .agg #[.int .i64 150, .string SA]
  | 12, v, _ => v = .agg #[.int .i64 0, .string SA]
  | 15, v, _ => v = .agg #[.int .i64 (-1), .string SA]
  | 9, v, _ => v = .agg #[.int .i64 145, .string (str [97])]
  | 6, v, _ => v = .agg #[.int .i64 145, .string SA]
  | 7, v, _ => v = .agg #[.int .i64 145, .string SB]
  | 2, v, W => Sl B W v 1 [(144, la)]
  | 5, v, W => Sl B W v 1 [(150, la)]
  | 8, v, W => Sl B W v 2 [kA, kB]
  | 10, v, W => Sl B W v 1 [(145, [97])]
  | 13, v, W => Sl B W v 1 [(0, la)]
  | 16, v, W => Sl B W v 1 [(-1, la)]
  | 17, v, W => ∃ b, v = .slice (some ⟨b, 0, none⟩) 6 6 ∧ Bs6 B W b
  | 18, v, _ => v = .int .i64 6
  | 19, v, _ => v = .int .i64 0
  | _, _, _ => True

theorem Sl.below {B : Nat} {W W' : World} {v : Value} {n : Nat} {l : List Wr} (h : Sl B W v n l) (hb : Below W.heap.size W W') : Sl B W' v n l := by
  obtain ⟨b, h1, h2, h3, h4⟩ := h
  exact ⟨b, h1, h2.below hb (Nat.le_refl _), h3, Nat.lt_of_lt_of_le h4 hb.size⟩
theorem Bs6.below {B : Nat} {W W' : World} {b : Nat} (h : Bs6 B W b) (hb : Below W.heap.size W W') : Bs6 B W' b := by
  obtain ⟨h1, h2, h3⟩ := h
  refine ⟨h1, Nat.lt_of_lt_of_le h2 hb.size, fun i hi => ?_⟩
  obtain ⟨A, a1, a2, a3⟩ := h3 i hi
  exact ⟨A, by rw [hb.cell (p := ⟨b, i, none⟩) h2]; exact a1, a2.below hb (Nat.le_refl _), fun g o h => ⟨(a3 g o h).1, Nat.lt_of_lt_of_le (a3 g o h).2 hb.size⟩⟩
theorem Bs6.but {B : Nat} {W W' : World} {b : Nat} {S : Nat → Prop} (h : Bs6 B W b) (hb : But S W W') (hS : ∀ k, B ≤ k → k < W.heap.size → ¬ S k) : Bs6 B W' b := by
  obtain ⟨h1, h2, h3⟩ := h
  refine ⟨h1, Nat.lt_of_lt_of_le h2 hb.size, fun i hi => ?_⟩
  obtain ⟨A, a1, a2, a3⟩ := h3 i hi
  refine ⟨A, ?_, wsAt_but a2 hb (fun g o h => hS g (a3 g o h).1 (a3 g o h).2), fun g o h => ⟨(a3 g o h).1, Nat.lt_of_lt_of_le (a3 g o h).2 hb.size⟩⟩
  rw [World.cell?, hb.block b h2 (hS b h1 h2)]
  exact a1

theorem R12_mono {B : Nat} {SA SB : ByteArray} (i : Nat) (v : Value) (W W' : World) (hi : i < 20) (h : R12 B SA SB i v W) (hb : Below W.heap.size W W') : R12 B SA SB i v W' := by
  match i, hi, h with
  | 0, _, h | 1, _, h | 3, _, h | 4, _, h | 6, _, h | 7, _, h | 9, _, h | 11, _, h | 12, _, h | 14, _, h | 15, _, h | 18, _, h | 19, _, h => exact h
  | 2, _, h | 5, _, h | 8, _, h | 10, _, h | 13, _, h | 16, _, h => exact h.below hb
  | 17, _, ⟨b, h1, h2⟩ => exact ⟨b, h1, h2.below hb⟩
  | j + 20, hi, _ => exact absurd hi (by omega)

theorem bs_six {B : Nat} {W : World} {b0 b1 b2 b3 b4 b5 : Nat} (hB : B ≤ W.heap.size) (h0 : WsAt W (some ⟨b0, 0, none⟩) [(144, la)] ∧ B ≤ b0 ∧ b0 < W.heap.size) (h1 : WsAt W (some ⟨b1, 0, none⟩) [(150, la)] ∧ B ≤ b1 ∧ b1 < W.heap.size) (h2 : WsAt W (some ⟨b2, 0, none⟩) [kA, kB] ∧ B ≤ b2 ∧ b2 < W.heap.size)
    (h3 : WsAt W (some ⟨b3, 0, none⟩) [(145, [97])] ∧ B ≤ b3 ∧ b3 < W.heap.size) (h4 : WsAt W (some ⟨b4, 0, none⟩) [(0, la)] ∧ B ≤ b4 ∧ b4 < W.heap.size) (h5 : WsAt W (some ⟨b5, 0, none⟩) [(-1, la)] ∧ B ≤ b5 ∧ b5 < W.heap.size) :
    Bs6 B (W.alloc (.cells #[.slice (some ⟨b0, 0, none⟩) 1 1, .slice (some ⟨b1, 0, none⟩) 1 1, .slice (some ⟨b2, 0, none⟩) 2 2, .slice (some ⟨b3, 0, none⟩) 1 1, .slice (some ⟨b4, 0, none⟩) 1 1, .slice (some ⟨b5, 0, none⟩) 1 1] 32)) W.heap.size := by
  have hk := Blk.new W 32 #[.slice (some ⟨b0, 0, none⟩) 1 1, .slice (some ⟨b1, 0, none⟩) 1 1, .slice (some ⟨b2, 0, none⟩) 2 2, .slice (some ⟨b3, 0, none⟩) 1 1, .slice (some ⟨b4, 0, none⟩) 1 1, .slice (some ⟨b5, 0, none⟩) 1 1]
  have hb := (Below.refl W.heap.size W).alloc (Nat.le_refl _) (.cells #[.slice (some ⟨b0, 0, none⟩) 1 1, .slice (some ⟨b1, 0, none⟩) 1 1, .slice (some ⟨b2, 0, none⟩) 2 2, .slice (some ⟨b3, 0, none⟩) 1 1, .slice (some ⟨b4, 0, none⟩) 1 1, .slice (some ⟨b5, 0, none⟩) 1 1] 32)
  have key : ∀ (g : Nat) (l : List Wr), (WsAt W (some ⟨g, 0, none⟩) l ∧ B ≤ g ∧ g < W.heap.size) → ∀ W', Below W.heap.size W W' → WsAt W' (some ⟨g, 0, none⟩) l ∧ ∀ g' o, some (⟨g, 0, none⟩ : Addr) = some ⟨g', o, none⟩ → B ≤ g' ∧ g' < W'.heap.size := by
    intro g l h W' hb
    refine ⟨h.1.below hb (Nat.le_refl _), fun g' o e => ?_⟩
    obtain ⟨rfl, _⟩ : g = g' ∧ 0 = o := by simpa using e
    exact ⟨h.2.1, Nat.lt_of_lt_of_le h.2.2 hb.size⟩
  refine ⟨hB, hk.lt, fun i hi => ?_⟩
  match i, hi with
  | 0, _ => exact ⟨_, hk.cell 0, key _ _ h0 _ hb⟩
  | 1, _ => exact ⟨_, hk.cell 1, key _ _ h1 _ hb⟩
  | 2, _ => exact ⟨_, hk.cell 2, key _ _ h2 _ hb⟩
  | 3, _ => exact ⟨_, hk.cell 3, key _ _ h3 _ hb⟩
  | 4, _ => exact ⟨_, hk.cell 4, key _ _ h4 _ hb⟩
  | 5, _ => exact ⟨_, hk.cell 5, key _ _ h5 _ hb⟩
  | i + 6, h => exact absurd h (by simp only [badL, List.length_cons, List.length_nil]; omega)

def ManyRel (w0 : World) (v i : Value) (W : World) : Prop := ∃ k : Nat, k ≤ 61 ∧ i = .int .i64 (k : Int) ∧ OWs W w0.heap.size v (manyL k) ∧ Below w0.heap.size w0 W

theorem OWs.viewc {w : World} {B : Nat} {v : Value} {l : List Wr} (h : OWs w B v l) (hz : ∀ x ∈ l, i64B x.1) : ∃ a c, v = .slice a l.length c ∧ WsAt w a l ∧ l.length ≤ c ∧ c ≤ 9223372036854775807 := by
  obtain ⟨a, c, hv, hw⟩ := h.view hz
  refine ⟨a, c, hv, hw, ?_⟩
  rcases h.2 with ⟨h1, h0⟩ | ⟨g, cap, cur, h1, hg, hh, hcc, hm, _⟩
  · rw [hv] at h1
    simp only [Value.slice.injEq] at h1
    omega
  · rw [hv] at h1
    simp only [Value.slice.injEq] at h1
    unfold maxLen at hm
    omega

/-! ### Where the power goes -/
theorem copy_g {most : Nat} {w : World} {G : Nat → Prop} {p : Nat} {d : DD} (h : InG most w G p d) (hmost : most ≤ 100000) :
    Calls Tryd.prog 11 #[.pointer (some ⟨p, 0, none⟩)] w fun e w' => ∃ q, e = .returned (.pointer (some ⟨q, 0, none⟩)) ∧ In most w' w.heap.size q d ∧ Below w.heap.size w w' := by
  obtain ⟨own, hd, _⟩ := h
  refine (copy_any hd hmost).mono ?_
  rintro e w' ⟨q, own', rfl, h1, h2, h3⟩
  exact ⟨q, rfl, ⟨own', h1, h3⟩, h2⟩

theorem infoBl : (Tryd.prog.info? 4).map (fun i => (i.zero, i.size, i.bytes)) = some (some (.bool false), 1, 1) := by kernel_rfl
theorem make_bl (W : World) : (Instr.makeSlice 25 (.int .i64 9) (.int .i64 9)).run Tryd.prog W = .ok (.slice (some ⟨W.heap.size, 0, none⟩) 9 9) (W.alloc (.cells (madeCells #[.bool false] 9) 4)) := by
  obtain ⟨i0, hi, hz0, hz1, hz2⟩ := info_parts infoBl
  have hmk := run_make (P := Tryd.prog) W 25 4 i0 (.bool false) Tryd.underlying25 hi hz0 .i64 .i64 (9 : Int) (9 : Int) (by omega) (by omega) (by rw [hz2]; omega) (by omega)
  rw [hz1] at hmk
  simpa [Value.cells] using hmk

def keepC (all : Bool) (j : Nat) : Array Value := ((List.replicate j (Value.bool all)) ++ List.replicate (9 - j) (Value.bool false)).toArray
theorem keepC_size (all : Bool) (j : Nat) (h : j ≤ 9) : (keepC all j).size = 9 := by simp [keepC]; omega
theorem keepC_zero (all : Bool) : madeCells #[.bool false] 9 = keepC all 0 := by
  apply Array.ext
  · simp [size_madeCells, keepC]
  · intro j h1 h2
    have h9 : j < 9 := by simpa [keepC] using h2
    have e : (keepC all 0)[j]? = some (.bool false) := by
      unfold keepC
      rw [List.getElem?_toArray, List.replicate_zero, List.nil_append, List.getElem?_replicate, if_pos (by omega)]
    rw [Array.getElem?_eq_getElem h2] at e
    rw [Option.some.inj e]
    simp [madeCells, Nat.mod_one]
theorem keepC_set (all : Bool) (j : Nat) (h : j < 9) : (keepC all j).setIfInBounds j (.bool all) = keepC all (j + 1) := by
  unfold keepC
  rw [List.setIfInBounds_toArray, List.set_append_right _ _ (by simp), List.length_replicate, Nat.sub_self, show 9 - j = (9 - (j + 1)) + 1 by omega, List.replicate_succ, List.set_cons_zero, List.replicate_succ', List.append_assoc]
  rfl
theorem keepC_all (all : Bool) : keepC all 9 = ((List.replicate 9 all).map Value.bool).toArray := by
  cases all <;> rfl

def FuseRel (w0 : World) (i : Value) (W : World) : Prop := ∃ k : Nat, 1 ≤ k ∧ k ≤ 10 ∧ i = .int .i64 (k : Int) ∧ Below w0.heap.size w0 W
def AllRel2 (w0 : World) (i : Value) (W : World) : Prop := ∃ m : Nat, m ≤ 2 ∧ i = .int .i64 (m : Int) ∧ Below w0.heap.size w0 W
def KeepRel (w0 : World) (all : Bool) (i : Value) (W : World) : Prop := ∃ j : Nat, j ≤ 9 ∧ i = .int .i64 (j : Int) ∧ Blk W w0.heap.size 4 (keepC all j) ∧ Below w0.heap.size w0 W

theorem arm_n (d : DD) (f : Int) : (d.arm f).n = d.n := rfl
theorem arm_more (d : DD) (f : Int) : (d.arm f).more = d.more := rfl

theorem there_cases (k : Nat) (all : Bool) : ((5 : Int) < (k : Int) ∧ there k all = true) ∨ (¬ (5 : Int) < (k : Int) ∧ ((k : Int) == 5) = true ∧ all = true ∧ there k all = true) ∨
    (¬ (5 : Int) < (k : Int) ∧ ((k : Int) == 5) = true ∧ all = false ∧ there k all = false) ∨ (¬ (5 : Int) < (k : Int) ∧ ((k : Int) == 5) = false ∧ there k all = false) := by
  unfold there
  by_cases h : 5 < k
  · exact .inl ⟨by omega, by simp [h]⟩
  · by_cases h5 : k = 5
    · subst h5
      cases all
      · exact .inr (.inr (.inl ⟨by omega, rfl, rfl, rfl⟩))
      · exact .inr (.inl ⟨by omega, rfl, rfl, rfl⟩)
    · exact .inr (.inr (.inr ⟨by omega, by rw [beq_eq_false_iff_ne]; omega, by simp [h, h5]⟩))

/-! ### Two Commits in one statement -/
def R5V (SA SB : ByteArray) (p : Nat) : Nat → Value → Prop
  | 0, v | 6, v => v = .pointer (some ⟨p, 0, none⟩)
  | 1, v => v = .agg #[.int .i64 145, .string SA]
  | 7, v => v = .agg #[.int .i64 145, .string SB]
  | 3, v | 11, v => v = .int .i64 0
  | 4, v | 5, v | 12, v | 13, v => v = .bool false
  | 8, v => v = .string SB
  | 9, v => v = .agg #[.int .i64 146, .string SB]
  | _, _ => True

structure R5I (SA SB : ByteArray) (G : Nat → Prop) (W0 : World) (p : Nat) (L : Nat → Bool) (vs : Nat → Value) (W : World) : Prop where
  but : But G W0 W
  dsk : InG 400 W G p (if L 11 = true then kd3 else if L 3 = true then kd2 else kd1)
  o4 : L 4 = true → L 3 = true
  o5 : L 5 = true → L 3 = true
  o10 : L 10 = true → L 3 = true
  o11 : L 11 = true → L 10 = true
  s2 : L 2 = true → ∃ b, vs 2 = .slice (some ⟨b, 0, none⟩) 1 1 ∧ (L 3 = false → WsAt W (some ⟨b, 0, none⟩) [kA])
  s10 : L 10 = true → ∃ b, vs 10 = .slice (some ⟨b, 0, none⟩) 2 2 ∧ (L 11 = false → WsAt W (some ⟨b, 0, none⟩) [kB, kB6])
  val : ∀ i, L i = true → R5V SA SB p i (vs i)

section
variable {SA SB : ByteArray} {G : Nat → Prop} {W0 : World} {p : Nat} {L : Nat → Bool} {vs : Nat → Value} {W W' : World}

theorem r5_val (h : ∀ i, L i = true → R5V SA SB p i (vs i)) (i : Nat) (v : Value) (hv : R5V SA SB p i v) : ∀ j, updB L i j = true → R5V SA SB p j (updV vs i v j) := by
  intro j hj
  by_cases e : j = i
  · subst e
    simpa [updV] using hv
  · simp only [updB, if_neg e] at hj
    simpa [updV, e] using h j hj

theorem R5I.next (h : R5I SA SB G W0 p L vs W) (i : Nat) (v : Value) (hi : i ≠ 2 ∧ i ≠ 3 ∧ i ≠ 10 ∧ i ≠ 11) (h3 : i = 4 ∨ i = 5 → L 3 = true) (hb : Below W.heap.size W W') (hv : R5V SA SB p i v) : R5I SA SB G W0 p (updB L i) (updV vs i v) W' := by
  obtain ⟨i2, i3, i10, i11⟩ := hi
  have e2 : updB L i 2 = L 2 := by simp [updB, Ne.symm i2]
  have e3 : updB L i 3 = L 3 := by simp [updB, Ne.symm i3]
  have e10 : updB L i 10 = L 10 := by simp [updB, Ne.symm i10]
  have e11 : updB L i 11 = L 11 := by simp [updB, Ne.symm i11]
  have v2 : updV vs i v 2 = vs 2 := by simp [updV, Ne.symm i2]
  have v10 : updV vs i v 10 = vs 10 := by simp [updV, Ne.symm i10]
  refine ⟨h.but.trans (S' := G) (But.of_below hb) (fun _ e => .inl e), ?_, ?_, ?_, ?_, ?_, ?_, ?_, r5_val h.val i v hv⟩
  · rw [e3, e11]; exact h.dsk.below hb
  · rw [e3]
    intro h4
    by_cases e : i = 4
    · exact h3 (.inl e)
    · exact h.o4 (by simpa [updB, Ne.symm e] using h4)
  · rw [e3]
    intro h4
    by_cases e : i = 5
    · exact h3 (.inr e)
    · exact h.o5 (by simpa [updB, Ne.symm e] using h4)
  · rw [e3, e10]; exact h.o10
  · rw [e10, e11]; exact h.o11
  · rw [e2, e3, v2]
    intro h2
    obtain ⟨b, b1, b2⟩ := h.s2 h2
    exact ⟨b, b1, fun x => (b2 x).below hb (Nat.le_refl _)⟩
  · rw [e10, e11, v10]
    intro h2
    obtain ⟨b, b1, b2⟩ := h.s10 h2
    exact ⟨b, b1, fun x => (b2 x).below hb (Nat.le_refl _)⟩

theorem R5I.next2 (h : R5I SA SB G W0 p L vs W) (b : Nat) (hb : Below W.heap.size W W') (hw : WsAt W' (some ⟨b, 0, none⟩) [kA]) : R5I SA SB G W0 p (updB L 2) (updV vs 2 (.slice (some ⟨b, 0, none⟩) 1 1)) W' := by
  refine ⟨h.but.trans (S' := G) (But.of_below hb) (fun _ e => .inl e), by simpa [updB] using h.dsk.below hb, by simpa [updB] using h.o4, by simpa [updB] using h.o5, by simpa [updB] using h.o10, by simpa [updB] using h.o11, fun _ => ⟨b, by simp [updV], fun _ => hw⟩, fun h2 => ?_, r5_val h.val 2 _ trivial⟩
  have h2' : L 10 = true := by simpa [updB] using h2
  obtain ⟨b, b1, b2⟩ := h.s10 h2'
  exact ⟨b, by simpa [updV] using b1, fun x => (b2 (by simpa [updB] using x)).below hb (Nat.le_refl _)⟩

theorem R5I.next10 (h : R5I SA SB G W0 p L vs W) (h3 : L 3 = true) (b : Nat) (hb : Below W.heap.size W W') (hw : WsAt W' (some ⟨b, 0, none⟩) [kB, kB6]) : R5I SA SB G W0 p (updB L 10) (updV vs 10 (.slice (some ⟨b, 0, none⟩) 2 2)) W' := by
  refine ⟨h.but.trans (S' := G) (But.of_below hb) (fun _ e => .inl e), by simpa [updB] using h.dsk.below hb, by simpa [updB] using h.o4, by simpa [updB] using h.o5, fun _ => by simpa [updB] using h3, fun _ => by simp [updB], fun h2 => ?_, fun _ => ⟨b, by simp [updV], fun _ => hw⟩, r5_val h.val 10 _ trivial⟩
  have h2' : L 2 = true := by simpa [updB] using h2
  obtain ⟨b, b1, b2⟩ := h.s2 h2'
  exact ⟨b, by simpa [updV] using b1, fun x => (b2 (by simpa [updB] using x)).below hb (Nat.le_refl _)⟩

theorem R5I.next3 (h : R5I SA SB G W0 p L vs W) (h3 : L 3 = false) (hb : But G W W') (hd : InG 400 W' G p kd2) : R5I SA SB G W0 p (updB L 3) (updV vs 3 (.int .i64 0)) W' := by
  have h10 : L 10 = false := by
    cases hx : L 10 with
    | false => rfl
    | true => rw [h.o10 hx] at h3; cases h3
  have h11 : L 11 = false := by
    cases hx : L 11 with
    | false => rfl
    | true => rw [h.o11 hx] at h10; cases h10
  refine ⟨h.but.trans hb (fun _ e => .inl e), ?_, fun _ => by simp [updB], fun _ => by simp [updB], fun _ => by simp [updB], fun x => ?_, fun h2 => ?_, fun x => ?_, r5_val h.val 3 _ rfl⟩
  · simpa [updB, h11] using hd
  · simp [updB, h11] at x
  · have h2' : L 2 = true := by simpa [updB] using h2
    obtain ⟨b, b1, _⟩ := h.s2 h2'
    exact ⟨b, by simpa [updV] using b1, fun x => by simp [updB] at x⟩
  · simp [updB, h10] at x

theorem R5I.next11 (h : R5I SA SB G W0 p L vs W) (h10 : L 10 = true) (hb : But G W W') (hd : InG 400 W' G p kd3) : R5I SA SB G W0 p (updB L 11) (updV vs 11 (.int .i64 0)) W' := by
  have h3 := h.o10 h10
  refine ⟨h.but.trans hb (fun _ e => .inl e), by simpa [updB] using hd, by simpa [updB] using h.o4, by simpa [updB] using h.o5, by simpa [updB] using h.o10, fun _ => by simpa [updB] using h10, fun h2 => ?_, fun x => ?_, r5_val h.val 11 _ rfl⟩
  · have h2' : L 2 = true := by simpa [updB] using h2
    obtain ⟨b, b1, _⟩ := h.s2 h2'
    exact ⟨b, by simpa [updV] using b1, fun x => by simp [updB, h3] at x⟩
  · obtain ⟨b, b1, _⟩ := h.s10 h10
    exact ⟨b, by simpa [updV] using b1, fun x => by simp [updB] at x⟩

theorem R5I.fin (h : R5I SA SB G W0 p L vs W) (h11 : L 11 = true) : InG 400 W G p kd3 := by
  have := h.dsk
  rwa [if_pos h11] at this
end
end Go.Proofs.YtjllpbckmioiiaaDoor.jr

