/- MgTok, MgSnap, MgSns. -/
import Derived.Test.YtklmgdiaianlbaaQ4
import Derived.Test.YtklmgdiaianlbaaQ7
set_option linter.unusedVariables false
set_option linter.unusedSimpArgs false
/- A token, a snapshot that the program reads. -/
namespace Go.Proofs.Ytklmgdiaianlbaa.mt.pg
open Go Go.RowKit Go.Proofs.Ytklmgdiaianlbaa.ib Go.Proofs.Ytklmgdiaianlbaa.wi Go.Proofs.Ytklmgdiaianlbaa.im Go.Proofs.Ytklmgdiaianlbaa.mt
set_option maxRecDepth 100000

/-- The reader's environment: how many blocks, where the reader is. -/
structure Env (w : World) (kb rb c b : Nat) : Prop where
  k : Blk w kb 3 #[.int .i64 (b : Int)]
  r : Blk w rb 70 #[ptr c]
theorem Env.rd {w w' : World} {kb rb c b : Nat} {s : St} (h : Env w kb rb c b) (hp : ∃ y, Blk w c 101 y) (hr : Rd w c s w') : Env w' kb rb c b := ⟨hr.blk h.k hp (by decide), hr.blk h.r hp (by decide)⟩
theorem Env.below {w w' : World} {kb rb c b : Nat} (h : Env w kb rb c b) (hb : Below w.heap.size w w') : Env w' kb rb c b := ⟨h.k.below hb, h.r.below hb⟩
theorem Rd.env {w0 w : World} {kb rb c b : Nat} {s0 s : St} (h : Rd w0 c s w) (hp : PS w0 c s0) (he : Env w0 kb rb c b) : Env w kb rb c b := he.rd hp.blk h
theorem oi_of {w : World} {B g : Nat} {zs : List Int} (h : Blk w g 3 (ncells zs)) (hg : B ≤ g) (hl : zs.length ≤ 1000) : OInts w B (.slice (some ⟨g, 0, none⟩) zs.length zs.length) zs := by
  refine ⟨by simp, .inr ⟨g, zs.length, ncells zs, rfl, hg, h, Nat.le_refl _, by unfold maxLen; omega, by rw [ncells_size, Nat.mul_one], ?_⟩⟩
  rw [Nat.mul_one]
  unfold ncells
  rw [List.take_of_length_le (by simp)]

abbrev plF (kb rb : Nat) : Value := .func (.func 74) #[] #[ptr kb, ptr rb]
def tkZ : Array Value := #[.int .u64 0, .int .u64 0, .int .u64 0, .int .u64 0, .int .i64 0, .int .i64 0, .slice none 0 0]
def endTo (b c : Nat) (s : St) (w : World) (e : Ending) (w' : World) : Prop := ∃ g, e = .returned (.agg (tkC (toS b s).1 (some ⟨g, 0, none⟩) b)) ∧ w.heap.size ≤ g ∧ Blk w' g 3 (ncells (toS b s).1.img) ∧ Rd w c (toS b s).2 w'
set_option maxHeartbeats 6400000 in
theorem token_any {w : World} {kb rb c b : Nat} {s : St} (hb : b ≤ 100) (h : PS w c s) (he : Env w kb rb c b) : Calls Try.prog 81 #[ptr c, plF kb rb] w (endTo b c s w) := by
  have HP0 := Lib.hid h
  have HE0 := Lib.hid he
  have hb1 := (Below.refl w.heap.size w).alloc (Nat.le_refl _) (.cells tkZ 28)
  have hr1 : Rd w c s (w.alloc (.cells tkZ 28)) := ⟨But.of_below hb1, h.below hb1⟩
  have ha1 := Blk.new w 28 tkZ
  obtain ⟨W1, hW1⟩ : ∃ z, w.alloc (.cells tkZ 28) = z := ⟨_, rfl⟩
  rw [hW1] at hr1 ha1 hb1
  have hb2 := (Below.refl W1.heap.size W1).alloc (Nat.le_refl _) (.cells tkZ 28)
  have hr2 := hr1.new hb2
  have ha2 := Blk.new W1 28 tkZ
  obtain ⟨W2, hW2⟩ : ∃ z, W1.alloc (.cells tkZ 28) = z := ⟨_, rfl⟩
  rw [hW2] at hr2 ha2 hb2
  have HR2 := Lib.hid hr2
  have HA2 := Lib.hid (ha1.below hb2)
  have HT2 := Lib.hid ha2
  have HGT : Hid (w.heap.size < W1.heap.size) := ha1.lt
  obtain ⟨gt, hgt⟩ : ∃ g, W1.heap.size = g := ⟨_, rfl⟩
  rw [hgt] at HT2 HGT
  clear h he hb1 hr1 ha1 hb2 hr2 ha2
  unfold tkZ at hW1 hW2
  go_enter Try.func81, Try.ntmps81
  go_upto_region 2 with fail
  try rw [hW1]
  try rw [hW2]
  try rw [hgt]
  clear hW1 hW2 hgt
  go_wp2_with fail
  refine (guid_any HR2.out.ps).mono ?_
  rintro e W3 ⟨rfl, hq⟩
  have HR3 := Lib.hid (HR2.out.trans hq)
  have HA3 := Lib.hid (hq.blk HA2.out HR2.out.ps.blk (by decide))
  have HT3 := Lib.hid (hq.blk HT2.out HR2.out.ps.blk (by decide))
  clear hq HR2 HA2 HT2
  obtain ⟨x, hx⟩ : ∃ x, (gdS s).1 = x := ⟨_, rfl⟩
  rw [hx]
  have HX := Lib.hid hx
  obtain ⟨s1, hs1⟩ : ∃ x, (gdS s).2 = x := ⟨_, rfl⟩
  rw [hs1] at HR3
  have HS1 := Lib.hid hs1
  clear hx hs1
  unfold gv
  have q0 := HT3.out.cell 0
  have q1 := HT3.out.cell 1
  simp only [tkZ, List.getElem?_toArray, List.getElem?_cons_zero, List.getElem?_cons_succ] at q0 q1
  have f0 := HT3.out.frozen 0
  have f1 := HT3.out.frozen 1
  have hlt := HT3.out.lt
  have hgn : Hid (w.heap.size ≤ gt) := Nat.le_of_lt HGT.out
  have ht4 := HT3.out.set_ 0 (.int .u64 (x.1 : Int))
  have hr4 := HR3.out.set HT3.out hgn.out (by decide) (by decide) 0 (.int .u64 (x.1 : Int))
  have ht5 := ht4.set_ 1 (.int .u64 (x.2 : Int))
  have hr5 := hr4.set ht4 hgn.out (by decide) (by decide) 1 (.int .u64 (x.2 : Int))
  have HA5 := Lib.hid ((HA3.out.of_block (set_oth W3 gt 0 (.int .u64 (x.1 : Int)) w.heap.size (by have := HGT.out; omega))).of_block (set_oth (W3.setCell ⟨gt, 0, none⟩ (.int .u64 (x.1 : Int))) gt 1 (.int .u64 (x.2 : Int)) w.heap.size (by have := HGT.out; omega)))
  have HT5 := Lib.hid ht5
  have HR5 := Lib.hid hr5
  obtain ⟨W5, hW5⟩ : ∃ z, (W3.setCell ⟨gt, 0, none⟩ (.int .u64 (x.1 : Int))).setCell ⟨gt, 1, none⟩ (.int .u64 (x.2 : Int)) = z := ⟨_, rfl⟩
  rw [hW5] at HA5 HT5 HR5
  clear ht4 hr4 ht5 hr5 HR3 HT3 HA3
  go_upto_region 3 with fail
  try rw [hW5]
  clear hW5 q0 q1 f0 f1 hlt
  go_wp2_with fail
  refine (guid_any HR5.out.ps).mono ?_
  rintro e W6 ⟨rfl, hq⟩
  have HR6 := Lib.hid (HR5.out.trans hq)
  have HA6 := Lib.hid (hq.blk HA5.out HR5.out.ps.blk (by decide))
  have HT6 := Lib.hid (hq.blk HT5.out HR5.out.ps.blk (by decide))
  clear hq HR5 HA5 HT5
  obtain ⟨y, hy⟩ : ∃ x, (gdS s1).1 = x := ⟨_, rfl⟩
  rw [hy]
  have HY := Lib.hid hy
  obtain ⟨s2, hs2⟩ : ∃ x, (gdS s1).2 = x := ⟨_, rfl⟩
  rw [hs2] at HR6
  have HS2 := Lib.hid hs2
  clear hy hs2
  unfold gv
  have q2 := HT6.out.cell 2
  have q3 := HT6.out.cell 3
  simp [tkZ] at q2 q3
  have f2 := HT6.out.frozen 2
  have f3 := HT6.out.frozen 3
  have hlt := HT6.out.lt
  have ht7 := HT6.out.set_ 2 (.int .u64 (y.1 : Int))
  have hr7 := HR6.out.set HT6.out hgn.out (by decide) (by decide) 2 (.int .u64 (y.1 : Int))
  have ht8 := ht7.set_ 3 (.int .u64 (y.2 : Int))
  have hr8 := hr7.set ht7 hgn.out (by decide) (by decide) 3 (.int .u64 (y.2 : Int))
  have HA8 := Lib.hid ((HA6.out.of_block (set_oth W6 gt 2 (.int .u64 (y.1 : Int)) w.heap.size (by have := HGT.out; omega))).of_block (set_oth (W6.setCell ⟨gt, 2, none⟩ (.int .u64 (y.1 : Int))) gt 3 (.int .u64 (y.2 : Int)) w.heap.size (by have := HGT.out; omega)))
  have HT8 := Lib.hid ht8
  have HR8 := Lib.hid hr8
  obtain ⟨W8, hW8⟩ : ∃ z, (W6.setCell ⟨gt, 2, none⟩ (.int .u64 (y.1 : Int))).setCell ⟨gt, 3, none⟩ (.int .u64 (y.2 : Int)) = z := ⟨_, rfl⟩
  rw [hW8] at HA8 HT8 HR8
  clear ht7 hr7 ht8 hr8 HR6 HT6 HA6
  go_upto_region 4 with fail
  try rw [hW8]
  clear hW8 q2 q3 f2 f3 hlt
  go_wp2_with fail
  refine (upTo_any HR8.out.ps 8 8 rfl (by omega)).mono ?_
  rintro e W9 ⟨rfl, hq⟩
  have HR9 := Lib.hid (HR8.out.trans hq)
  have HA9 := Lib.hid (hq.blk HA8.out HR8.out.ps.blk (by decide))
  have HT9 := Lib.hid (hq.blk HT8.out HR8.out.ps.blk (by decide))
  clear hq HR8 HA8 HT8
  obtain ⟨nx, hnx⟩ : ∃ x, (upS 8 s2).1 = x := ⟨_, rfl⟩
  rw [hnx]
  have HNX := Lib.hid hnx
  obtain ⟨s3, hs3⟩ : ∃ x, (upS 8 s2).2 = x := ⟨_, rfl⟩
  rw [hs3] at HR9
  have HS3 := Lib.hid hs3
  clear hnx hs3
  have q4 := HT9.out.cell 4
  simp [tkZ] at q4
  have f4 := HT9.out.frozen 4
  have hlt := HT9.out.lt
  have HT10 := Lib.hid (HT9.out.set_ 4 (.int .i64 (nx : Int)))
  have HR10 := Lib.hid (HR9.out.set HT9.out hgn.out (by decide) (by decide) 4 (.int .i64 (nx : Int)))
  have HA10 := Lib.hid (HA9.out.of_block (set_oth W9 gt 4 (.int .i64 (nx : Int)) w.heap.size (by have := HGT.out; omega)))
  obtain ⟨W10, hW10⟩ : ∃ z, W9.setCell ⟨gt, 4, none⟩ (.int .i64 (nx : Int)) = z := ⟨_, rfl⟩
  rw [hW10] at HA10 HT10 HR10
  clear HR9 HT9 HA9
  go_upto_region 5 with fail
  try rw [hW10]
  clear hW10 q4 f4 hlt
  go_wp2_with fail
  refine (upTo_any HR10.out.ps 8 8 rfl (by omega)).mono ?_
  rintro e W11 ⟨rfl, hq⟩
  have HR11 := Lib.hid (HR10.out.trans hq)
  have HA11 := Lib.hid (hq.blk HA10.out HR10.out.ps.blk (by decide))
  have HT11 := Lib.hid (hq.blk HT10.out HR10.out.ps.blk (by decide))
  clear hq HR10 HA10 HT10
  obtain ⟨al, hal⟩ : ∃ x, (upS 8 s3).1 = x := ⟨_, rfl⟩
  rw [hal]
  have HAL := Lib.hid hal
  obtain ⟨s4, hs4⟩ : ∃ x, (upS 8 s3).2 = x := ⟨_, rfl⟩
  rw [hs4] at HR11
  have HS4 := Lib.hid hs4
  clear hal hs4
  have q5 := HT11.out.cell 5
  simp [tkZ] at q5
  have f5 := HT11.out.frozen 5
  have hlt := HT11.out.lt
  have HT12 := Lib.hid (HT11.out.set_ 5 (.int .i64 (al : Int)))
  have HR12 := Lib.hid (HR11.out.set HT11.out hgn.out (by decide) (by decide) 5 (.int .i64 (al : Int)))
  have HA12 := Lib.hid (HA11.out.of_block (set_oth W11 gt 5 (.int .i64 (al : Int)) w.heap.size (by have := HGT.out; omega)))
  obtain ⟨W12, hW12⟩ : ∃ z, W11.setCell ⟨gt, 5, none⟩ (.int .i64 (al : Int)) = z := ⟨_, rfl⟩
  rw [hW12] at HA12 HT12 HR12
  clear HR11 HT11 HA11
  go_upto_region 6 with fail
  try rw [hW12]
  clear hW12 q5 f5 hlt
  have HE12 := Lib.hid (HR12.out.env HP0.out HE0.out)
  go_wp2_with fail
  refine (places_any hb HR12.out.ps HE12.out.k HE12.out.r).mono ?_
  rintro e W13 ⟨g, rfl, hg, hgB, hq⟩
  have HR13 := Lib.hid (HR12.out.trans hq)
  have HA13 := Lib.hid (hq.blk HA12.out HR12.out.ps.blk (by decide))
  have HT13 := Lib.hid (hq.blk HT12.out HR12.out.ps.blk (by decide))
  have HGL : Hid (gt < g) := Nat.lt_of_lt_of_le HT12.out.lt hg
  have HI13 := Lib.hid hgB
  clear hq HR12 HA12 HT12 hg hgB
  have q6 := HT13.out.cell 6
  simp [tkZ] at q6
  have f6 := HT13.out.frozen 6
  have hlt := HT13.out.lt
  have ht14 := HT13.out.set_ 6 (.slice (some ⟨g, 0, none⟩) b b)
  simp only [tkZ, List.setIfInBounds_toArray, List.set_cons_succ, List.set_cons_zero] at ht14
  have HT14 := Lib.hid ht14
  have HR14 := Lib.hid (HR13.out.set HT13.out hgn.out (by decide) (by decide) 6 (.slice (some ⟨g, 0, none⟩) b b))
  have HA14 := Lib.hid (HA13.out.of_block (set_oth W13 gt 6 (.slice (some ⟨g, 0, none⟩) b b) w.heap.size (by have := HGT.out; omega)))
  have HI14 := Lib.hid (HI13.out.of_block (set_oth W13 gt 6 (.slice (some ⟨g, 0, none⟩) b b) g (by have := HGL.out; omega)))
  obtain ⟨W14, hW14⟩ : ∃ z, W13.setCell ⟨gt, 6, none⟩ (.slice (some ⟨g, 0, none⟩) b b) = z := ⟨_, rfl⟩
  rw [hW14] at HA14 HT14 HR14 HI14
  clear HR13 HT13 HA13 HI13 ht14
  go_upto_region 7 with fail
  try rw [hW14]
  clear hW14 q6 f6 hlt
  have t0 := HT14.out.cell 0
  have t1 := HT14.out.cell 1
  have t2 := HT14.out.cell 2
  have t3 := HT14.out.cell 3
  have t4 := HT14.out.cell 4
  have t5 := HT14.out.cell 5
  have t6 := HT14.out.cell 6
  have a0 := HA14.out.cell 0
  have a1 := HA14.out.cell 1
  have a2 := HA14.out.cell 2
  have a3 := HA14.out.cell 3
  have a4 := HA14.out.cell 4
  have a5 := HA14.out.cell 5
  have a6 := HA14.out.cell 6
  simp only [tkZ, List.getElem?_toArray, List.getElem?_cons_zero, List.getElem?_cons_succ] at t0 t1 t2 t3 t4 t5 t6 a0 a1 a2 a3 a4 a5 a6
  have f0 := HA14.out.frozen 0
  have f1 := HA14.out.frozen 1
  have f2 := HA14.out.frozen 2
  have f3 := HA14.out.frozen 3
  have f4 := HA14.out.frozen 4
  have f5 := HA14.out.frozen 5
  have f6 := HA14.out.frozen 6
  have hlt := HT14.out.lt
  have hla := HA14.out.lt
  have u1 := HA14.out.set_ 0 (.int .u64 (x.1 : Int))
  have r1 := HR14.out.set HA14.out (Nat.le_refl _) (by decide) (by decide) 0 (.int .u64 (x.1 : Int))
  have u2 := u1.set_ 1 (.int .u64 (x.2 : Int))
  have r2 := r1.set u1 (Nat.le_refl _) (by decide) (by decide) 1 (.int .u64 (x.2 : Int))
  have u3 := u2.set_ 2 (.int .u64 (y.1 : Int))
  have r3 := r2.set u2 (Nat.le_refl _) (by decide) (by decide) 2 (.int .u64 (y.1 : Int))
  have u4 := u3.set_ 3 (.int .u64 (y.2 : Int))
  have r4 := r3.set u3 (Nat.le_refl _) (by decide) (by decide) 3 (.int .u64 (y.2 : Int))
  have u5 := u4.set_ 4 (.int .i64 (nx : Int))
  have r5 := r4.set u4 (Nat.le_refl _) (by decide) (by decide) 4 (.int .i64 (nx : Int))
  have u6 := u5.set_ 5 (.int .i64 (al : Int))
  have r6 := r5.set u5 (Nat.le_refl _) (by decide) (by decide) 5 (.int .i64 (al : Int))
  have u7 := u6.set_ 6 (.slice (some ⟨g, 0, none⟩) b b)
  have r7 := r6.set u6 (Nat.le_refl _) (by decide) (by decide) 6 (.slice (some ⟨g, 0, none⟩) b b)
  simp only [tkZ, List.setIfInBounds_toArray, List.set_cons_succ, List.set_cons_zero] at u7
  have HU7 := Lib.hid u7
  have HR7 := Lib.hid r7
  have oth : ∀ (k : Nat) (v : Value) (W : World), Blk W g 3 (ncells (plS b s4).1) → Blk (W.setCell ⟨w.heap.size, k, none⟩ v) g 3 (ncells (plS b s4).1) := fun k v W h => h.of_block (set_oth W w.heap.size k v g (by have := HGL.out; have := HGT.out; omega))
  have HI15 := Lib.hid (oth 6 (.slice (some ⟨g, 0, none⟩) b b) _ (oth 5 (.int .i64 (al : Int)) _ (oth 4 (.int .i64 (nx : Int)) _ (oth 3 (.int .u64 (y.2 : Int)) _ (oth 2 (.int .u64 (y.1 : Int)) _ (oth 1 (.int .u64 (x.2 : Int)) _ (oth 0 (.int .u64 (x.1 : Int)) _ HI14.out)))))))
  obtain ⟨W15, hW15⟩ : ∃ z, ((((((W14.setCell ⟨w.heap.size, 0, none⟩ (.int .u64 (x.1 : Int))).setCell ⟨w.heap.size, 1, none⟩ (.int .u64 (x.2 : Int))).setCell ⟨w.heap.size, 2, none⟩ (.int .u64 (y.1 : Int))).setCell ⟨w.heap.size, 3, none⟩ (.int .u64 (y.2 : Int))).setCell ⟨w.heap.size, 4, none⟩ (.int .i64 (nx : Int))).setCell ⟨w.heap.size, 5, none⟩ (.int .i64 (al : Int))).setCell ⟨w.heap.size, 6, none⟩ (.slice (some ⟨g, 0, none⟩) b b) = z := ⟨_, rfl⟩
  rw [hW15] at HU7 HR7 HI15
  clear u1 u2 u3 u4 u5 u6 u7 r1 r2 r3 r4 r5 r6 r7 oth HA14 HT14 HR14 HI14
  go_wp2_with fail
  try rw [hW15]
  have q0 := HU7.out.cell 0
  have q1 := HU7.out.cell 1
  have q2 := HU7.out.cell 2
  have q3 := HU7.out.cell 3
  have q4 := HU7.out.cell 4
  have q5 := HU7.out.cell 5
  have q6 := HU7.out.cell 6
  simp only [List.getElem?_toArray, List.getElem?_cons_zero, List.getElem?_cons_succ] at q0 q1 q2 q3 q4 q5 q6
  have HEQ : Hid (tkC (toS b s).1 (some ⟨g, 0, none⟩) b = #[.int .u64 (x.1 : Int), .int .u64 (x.2 : Int), .int .u64 (y.1 : Int), .int .u64 (y.2 : Int), .int .i64 (nx : Int), .int .i64 (al : Int), .slice (some ⟨g, 0, none⟩) b b] ∧ (toS b s).1.img = (plS b s4).1 ∧ (toS b s).2 = (plS b s4).2) := by
    unfold Hid toS tkC
    dsimp only
    rw [HX.out, HS1.out, HY.out, HS2.out, HNX.out, HS3.out, HAL.out, HS4.out, plS_len]
    exact ⟨rfl, rfl, rfl⟩
  refine bodyPost_ret (v := .agg #[.int .u64 (x.1 : Int), .int .u64 (x.2 : Int), .int .u64 (y.1 : Int), .int .u64 (y.2 : Int), .int .i64 (nx : Int), .int .i64 (al : Int), .slice (some ⟨g, 0, none⟩) b b]) (by simp [results, Try.results81, go_sem, q0, q1, q2, q3, q4, q5, q6]) rfl ?_
  refine ⟨g, by rw [HEQ.out.1], by have := HGL.out; have := HGT.out; omega, ?_, ?_⟩
  · rw [HEQ.out.2.1]
    exact HI15.out
  · rw [HEQ.out.2.2]
    exact HR7.out
end Go.Proofs.Ytklmgdiaianlbaa.mt.pg

/- A snapshot that the program reads. -/
namespace Go.Proofs.Ytklmgdiaianlbaa.mt.pg
open Go Go.RowKit Go.Proofs.Ytklmgdiaianlbaa.ib Go.Proofs.Ytklmgdiaianlbaa.wi Go.Proofs.Ytklmgdiaianlbaa.im Go.Proofs.Ytklmgdiaianlbaa.mt
set_option maxRecDepth 100000

def snZ : Array Value := #[.int .u64 0, .int .u64 0, .slice none 0 0, .bool false]
/-- The environment, and the variable that holds the reader of places. -/
structure EnvP (w : World) (kb rb pb c b : Nat) : Prop where
  e : Env w kb rb c b
  p : Blk w pb 79 #[plF kb rb]
theorem EnvP.rd {w w' : World} {kb rb pb c b : Nat} {s : St} (h : EnvP w kb rb pb c b) (hp : ∃ y, Blk w c 101 y) (hr : Rd w c s w') : EnvP w' kb rb pb c b := ⟨h.e.rd hp hr, hr.blk h.p hp (by decide)⟩
theorem EnvP.below {w w' : World} {kb rb pb c b : Nat} (h : EnvP w kb rb pb c b) (hb : Below w.heap.size w w') : EnvP w' kb rb pb c b := ⟨h.e.below hb, h.p.below hb⟩
def endSn (b c : Nat) (s : St) (w : World) (e : Ending) (w' : World) : Prop := ∃ g, e = .returned (.agg (snC (snS b s).1 (some ⟨g, 0, none⟩) b)) ∧ w.heap.size ≤ g ∧ Blk w' g 3 (ncells (snS b s).1.img) ∧ Rd w c (snS b s).2 w'
set_option maxHeartbeats 6400000 in
theorem snap_any {w : World} {kb rb pb c b : Nat} {s : St} (hb : b ≤ 100) (h : PS w c s) (he : EnvP w kb rb pb c b) : Calls Try.prog 78 #[ptr rb, ptr pb] w (endSn b c s w) := by
  have HP0 := Lib.hid h
  have HE0 := Lib.hid he
  have hb1 := (Below.refl w.heap.size w).alloc (Nat.le_refl _) (.cells snZ 48)
  have hr1 : Rd w c s (w.alloc (.cells snZ 48)) := ⟨But.of_below hb1, h.below hb1⟩
  have ha1 := Blk.new w 48 snZ
  obtain ⟨W1, hW1⟩ : ∃ z, w.alloc (.cells snZ 48) = z := ⟨_, rfl⟩
  rw [hW1] at hr1 ha1 hb1
  have hb2 := (Below.refl W1.heap.size W1).alloc (Nat.le_refl _) (.cells snZ 48)
  have hr2 := hr1.new hb2
  have ha2 := Blk.new W1 48 snZ
  have he2 := (he.below hb1).below hb2
  obtain ⟨W2, hW2⟩ : ∃ z, W1.alloc (.cells snZ 48) = z := ⟨_, rfl⟩
  rw [hW2] at hr2 ha2 hb2 he2
  have HR2 := Lib.hid hr2
  have HA2 := Lib.hid (ha1.below hb2)
  have HT2 := Lib.hid ha2
  have HGT : Hid (w.heap.size < W1.heap.size) := ha1.lt
  obtain ⟨gt, hgt⟩ : ∃ g, W1.heap.size = g := ⟨_, rfl⟩
  rw [hgt] at HT2 HGT
  have r0 := he2.e.r.cell 0
  simp only [List.getElem?_toArray, List.getElem?_cons_zero, List.getElem?_cons_succ] at r0
  have hlr := he2.e.r.lt
  clear h he hb1 hr1 ha1 hb2 hr2 ha2 he2
  unfold snZ at hW1 hW2
  go_enter Try.func78, Try.ntmps78
  go_upto_region 2 with fail
  try rw [hW1]
  try rw [hW2]
  try rw [hgt]
  clear hW1 hW2 hgt
  go_wp2_with fail
  refine (guid_any HR2.out.ps).mono ?_
  rintro e W3 ⟨rfl, hq⟩
  have HR3 := Lib.hid (HR2.out.trans hq)
  have HA3 := Lib.hid (hq.blk HA2.out HR2.out.ps.blk (by decide))
  have HT3 := Lib.hid (hq.blk HT2.out HR2.out.ps.blk (by decide))
  clear hq HR2 HA2 HT2 r0 hlr
  obtain ⟨x, hx⟩ : ∃ x, (gdS s).1 = x := ⟨_, rfl⟩
  rw [hx]
  have HX := Lib.hid hx
  obtain ⟨s1, hs1⟩ : ∃ x, (gdS s).2 = x := ⟨_, rfl⟩
  rw [hs1] at HR3
  have HS1 := Lib.hid hs1
  clear hx hs1
  unfold gv
  have q0 := HT3.out.cell 0
  have q1 := HT3.out.cell 1
  simp only [snZ, List.getElem?_toArray, List.getElem?_cons_zero, List.getElem?_cons_succ] at q0 q1
  have f0 := HT3.out.frozen 0
  have f1 := HT3.out.frozen 1
  have hlt := HT3.out.lt
  have hgn : Hid (w.heap.size ≤ gt) := Nat.le_of_lt HGT.out
  have ht4 := HT3.out.set_ 0 (.int .u64 (x.1 : Int))
  have hr4 := HR3.out.set HT3.out hgn.out (by decide) (by decide) 0 (.int .u64 (x.1 : Int))
  have ht5 := ht4.set_ 1 (.int .u64 (x.2 : Int))
  have hr5 := hr4.set ht4 hgn.out (by decide) (by decide) 1 (.int .u64 (x.2 : Int))
  have HA5 := Lib.hid ((HA3.out.of_block (set_oth W3 gt 0 (.int .u64 (x.1 : Int)) w.heap.size (by have := HGT.out; omega))).of_block (set_oth (W3.setCell ⟨gt, 0, none⟩ (.int .u64 (x.1 : Int))) gt 1 (.int .u64 (x.2 : Int)) w.heap.size (by have := HGT.out; omega)))
  have HT5 := Lib.hid ht5
  have HR5 := Lib.hid hr5
  obtain ⟨W5, hW5⟩ : ∃ z, (W3.setCell ⟨gt, 0, none⟩ (.int .u64 (x.1 : Int))).setCell ⟨gt, 1, none⟩ (.int .u64 (x.2 : Int)) = z := ⟨_, rfl⟩
  rw [hW5] at HA5 HT5 HR5
  clear ht4 hr4 ht5 hr5 HR3 HT3 HA3
  go_upto_region 3 with fail
  try rw [hW5]
  clear hW5 q0 q1 f0 f1 hlt
  have he5 := HE0.out.rd HP0.out.blk HR5.out
  have r0 := he5.e.r.cell 0
  simp only [List.getElem?_toArray, List.getElem?_cons_zero, List.getElem?_cons_succ] at r0
  have hlr := he5.e.r.lt
  clear he5
  go_wp2_with fail
  refine (pnum_any HR5.out.ps).mono ?_
  rintro e W6 ⟨rfl, hq⟩
  have HR6 := Lib.hid (HR5.out.trans hq)
  have HA6 := Lib.hid (hq.blk HA5.out HR5.out.ps.blk (by decide))
  have HT6 := Lib.hid (hq.blk HT5.out HR5.out.ps.blk (by decide))
  clear hq HR5 HA5 HT5 r0 hlr
  obtain ⟨y, hy⟩ : ∃ x, (numS s1).1 = x := ⟨_, rfl⟩
  rw [hy]
  have HY := Lib.hid hy
  obtain ⟨s2, hs2⟩ : ∃ x, (numS s1).2 = x := ⟨_, rfl⟩
  rw [hs2] at HR6
  have HS2 := Lib.hid hs2
  clear hy hs2
  obtain ⟨hd, hhd⟩ : ∃ q, decide (y = 1) = q := ⟨_, rfl⟩
  have hyq : ((y : Int) == 1) = hd := by
    rw [← hhd, Bool.eq_iff_iff]
    simp
    omega
  have HHD := Lib.hid hhd
  clear hhd
  have q3 := HT6.out.cell 3
  simp [snZ] at q3
  have f3 := HT6.out.frozen 3
  have hlt := HT6.out.lt
  have HT7 := Lib.hid (HT6.out.set_ 3 (.bool hd))
  have HR7 := Lib.hid (HR6.out.set HT6.out hgn.out (by decide) (by decide) 3 (.bool hd))
  have HA7 := Lib.hid (HA6.out.of_block (set_oth W6 gt 3 (.bool hd) w.heap.size (by have := HGT.out; omega)))
  obtain ⟨W7, hW7⟩ : ∃ z, W6.setCell ⟨gt, 3, none⟩ (.bool hd) = z := ⟨_, rfl⟩
  rw [hW7] at HA7 HT7 HR7
  clear HR6 HT6 HA6
  go_upto_region 4 with fail
  try rw [hW7]
  clear hW7 q3 f3 hlt hyq
  have HE7 := Lib.hid (HE0.out.rd HP0.out.blk HR7.out)
  have p0 := HE7.out.p.cell 0
  simp only [List.getElem?_toArray, List.getElem?_cons_zero, List.getElem?_cons_succ] at p0
  have hlp := HE7.out.p.lt
  go_wp2_with fail
  refine (places_any hb HR7.out.ps HE7.out.e.k HE7.out.e.r).mono ?_
  rintro e W13 ⟨g, rfl, hg, hgB, hq⟩
  have HR13 := Lib.hid (HR7.out.trans hq)
  have HA13 := Lib.hid (hq.blk HA7.out HR7.out.ps.blk (by decide))
  have HT13 := Lib.hid (hq.blk HT7.out HR7.out.ps.blk (by decide))
  have HGL : Hid (gt < g) := Nat.lt_of_lt_of_le HT7.out.lt hg
  have HI13 := Lib.hid hgB
  clear hq HR7 HA7 HT7 hg hgB p0 hlp
  have q2 := HT13.out.cell 2
  simp [snZ] at q2
  have f2 := HT13.out.frozen 2
  have hlt := HT13.out.lt
  have ht14 := HT13.out.set_ 2 (.slice (some ⟨g, 0, none⟩) b b)
  simp only [snZ, List.setIfInBounds_toArray, List.set_cons_succ, List.set_cons_zero] at ht14
  have HT14 := Lib.hid ht14
  have HR14 := Lib.hid (HR13.out.set HT13.out hgn.out (by decide) (by decide) 2 (.slice (some ⟨g, 0, none⟩) b b))
  have HA14 := Lib.hid (HA13.out.of_block (set_oth W13 gt 2 (.slice (some ⟨g, 0, none⟩) b b) w.heap.size (by have := HGT.out; omega)))
  have HI14 := Lib.hid (HI13.out.of_block (set_oth W13 gt 2 (.slice (some ⟨g, 0, none⟩) b b) g (by have := HGL.out; omega)))
  obtain ⟨W14, hW14⟩ : ∃ z, W13.setCell ⟨gt, 2, none⟩ (.slice (some ⟨g, 0, none⟩) b b) = z := ⟨_, rfl⟩
  rw [hW14] at HA14 HT14 HR14 HI14
  clear HR13 HT13 HA13 HI13 ht14
  go_upto_region 5 with fail
  try rw [hW14]
  clear hW14 q2 f2 hlt
  have t0 := HT14.out.cell 0
  have t1 := HT14.out.cell 1
  have t2 := HT14.out.cell 2
  have t3 := HT14.out.cell 3
  have a0 := HA14.out.cell 0
  have a1 := HA14.out.cell 1
  have a2 := HA14.out.cell 2
  have a3 := HA14.out.cell 3
  simp only [snZ, List.getElem?_toArray, List.getElem?_cons_zero, List.getElem?_cons_succ] at t0 t1 t2 t3 a0 a1 a2 a3
  have f0 := HA14.out.frozen 0
  have f1 := HA14.out.frozen 1
  have f2 := HA14.out.frozen 2
  have f3 := HA14.out.frozen 3
  have hlt := HT14.out.lt
  have hla := HA14.out.lt
  have u1 := HA14.out.set_ 0 (.int .u64 (x.1 : Int))
  have r1 := HR14.out.set HA14.out (Nat.le_refl _) (by decide) (by decide) 0 (.int .u64 (x.1 : Int))
  have u2 := u1.set_ 1 (.int .u64 (x.2 : Int))
  have r2 := r1.set u1 (Nat.le_refl _) (by decide) (by decide) 1 (.int .u64 (x.2 : Int))
  have u3 := u2.set_ 2 (.slice (some ⟨g, 0, none⟩) b b)
  have r3 := r2.set u2 (Nat.le_refl _) (by decide) (by decide) 2 (.slice (some ⟨g, 0, none⟩) b b)
  have u4 := u3.set_ 3 (.bool hd)
  have r4 := r3.set u3 (Nat.le_refl _) (by decide) (by decide) 3 (.bool hd)
  simp only [snZ, List.setIfInBounds_toArray, List.set_cons_succ, List.set_cons_zero] at u4
  have HU7 := Lib.hid u4
  have HR15 := Lib.hid r4
  have oth : ∀ (k : Nat) (v : Value) (W : World), Blk W g 3 (ncells (plS b s2).1) → Blk (W.setCell ⟨w.heap.size, k, none⟩ v) g 3 (ncells (plS b s2).1) := fun k v W h => h.of_block (set_oth W w.heap.size k v g (by have := HGL.out; have := HGT.out; omega))
  have HI15 := Lib.hid (oth 3 (.bool hd) _ (oth 2 (.slice (some ⟨g, 0, none⟩) b b) _ (oth 1 (.int .u64 (x.2 : Int)) _ (oth 0 (.int .u64 (x.1 : Int)) _ HI14.out))))
  obtain ⟨W15, hW15⟩ : ∃ z, (((W14.setCell ⟨w.heap.size, 0, none⟩ (.int .u64 (x.1 : Int))).setCell ⟨w.heap.size, 1, none⟩ (.int .u64 (x.2 : Int))).setCell ⟨w.heap.size, 2, none⟩ (.slice (some ⟨g, 0, none⟩) b b)).setCell ⟨w.heap.size, 3, none⟩ (.bool hd) = z := ⟨_, rfl⟩
  rw [hW15] at HU7 HR15 HI15
  clear u1 u2 u3 u4 r1 r2 r3 r4 oth HA14 HT14 HR14 HI14
  go_wp2_with fail
  try rw [hW15]
  have q0 := HU7.out.cell 0
  have q1 := HU7.out.cell 1
  have q2 := HU7.out.cell 2
  have q3 := HU7.out.cell 3
  simp only [List.getElem?_toArray, List.getElem?_cons_zero, List.getElem?_cons_succ] at q0 q1 q2 q3
  have HEQ : Hid (snC (snS b s).1 (some ⟨g, 0, none⟩) b = #[.int .u64 (x.1 : Int), .int .u64 (x.2 : Int), .slice (some ⟨g, 0, none⟩) b b, .bool hd] ∧ (snS b s).1.img = (plS b s2).1 ∧ (snS b s).2 = (plS b s2).2) := by
    unfold Hid snS snC
    dsimp only
    rw [HX.out, HS1.out, HY.out, HS2.out, HHD.out, plS_len]
    exact ⟨rfl, rfl, rfl⟩
  refine bodyPost_ret (v := .agg #[.int .u64 (x.1 : Int), .int .u64 (x.2 : Int), .slice (some ⟨g, 0, none⟩) b b, .bool hd]) (by simp [results, Try.results78, go_sem, q0, q1, q2, q3]) rfl ?_
  refine ⟨g, by rw [HEQ.out.1], by have := HGL.out; have := HGT.out; omega, ?_, ?_⟩
  · rw [HEQ.out.2.1]
    exact HI15.out
  · rw [HEQ.out.2.2]
    exact HR15.out
end Go.Proofs.Ytklmgdiaianlbaa.mt.pg

/- Snapshots that the program reads one by one into a list of its own. -/
namespace Go.Proofs.Ytklmgdiaianlbaa.mt.pg
open Go Go.RowKit Go.Proofs.Ytklmgdiaianlbaa.ib Go.Proofs.Ytklmgdiaianlbaa.wi Go.Proofs.Ytklmgdiaianlbaa.im Go.Proofs.Ytklmgdiaianlbaa.mt
set_option maxRecDepth 100000

def sp0 : OSn := (⟨(0, 0), [], false⟩, .slice none 0 0)
theorem spRow_set : ∀ (l : List OSn) (k : Nat) (_ : k < l.length) (x : OSn) (a b c d : Value), spV x = [a, b, c, d] → ((((spRow l).set (k * 4) a).set (k * 4 + 1) b).set (k * 4 + 2) c).set (k * 4 + 3) d = spRow (l.set k x)
  | y :: l, 0, _, x, a, b, c, d, h => by
    show (((((spV y ++ spRow l).set (0 * 4) a).set (0 * 4 + 1) b).set (0 * 4 + 2) c).set (0 * 4 + 3) d) = spV x ++ spRow l
    rw [h]
    rfl
  | y :: l, k + 1, hk, x, a, b, c, d, h => by
    have ih := spRow_set l k (by simpa using hk) x a b c d h
    have e : ∀ (j : Nat) (R : List Value) (u : Value), (spV y ++ R).set ((k + 1) * 4 + j) u = spV y ++ R.set (k * 4 + j) u := fun j R u => by
      rw [show (k + 1) * 4 + j = (k * 4 + j) + 4 by omega]
      rfl
    show (((((spV y ++ spRow l).set ((k + 1) * 4) a).set ((k + 1) * 4 + 1) b).set ((k + 1) * 4 + 2) c).set ((k + 1) * 4 + 3) d) = spV y ++ spRow (l.set k x)
    rw [show (k + 1) * 4 = (k + 1) * 4 + 0 from rfl, e 0, Nat.add_zero, e 1, e 2, e 3, ← ih]
theorem spRow_z (n i : Nat) (h : i < n) (j : Nat) (hj : j < 4) : (spRow (List.replicate n sp0))[i * 4 + j]? = (spV sp0)[j]? := by
  rw [spRow_get _ i (by simpa using h) j hj, List.getElem_replicate]
theorem snaps_new (n : Nat) : madeCells #[.int .u64 0, .int .u64 0, .slice none 0 0, .bool false] (n * 4) = (spRow (List.replicate n sp0)).toArray := by
  apply Array.ext
  · rw [size_madeCells, List.size_toArray, spRow_len, List.length_replicate]
  · intro j h1 h2
    have hj : j < n * 4 := by simpa [spRow_len] using h2
    have hm : j % 4 < 4 := Nat.mod_lt _ (by omega)
    have e := spRow_z n (j / 4) (by omega) (j % 4) hm
    rw [show j / 4 * 4 + j % 4 = j by omega] at e
    have e2 : (spRow (List.replicate n sp0)).toArray[j]? = (spV sp0)[j % 4]? := by simpa using e
    rw [Array.getElem?_eq_getElem h2] at e2
    obtain ⟨q, hq⟩ : ∃ q, j % 4 = q := ⟨_, rfl⟩
    rw [hq] at e2 hm
    match q, hm with
    | 0, _ => rw [Option.some.inj e2]; simp [madeCells, hq, sp0]
    | 1, _ => rw [Option.some.inj e2]; simp [madeCells, hq, sp0]
    | 2, _ => rw [Option.some.inj e2]; simp [madeCells, hq, sp0]
    | 3, _ => rw [Option.some.inj e2]; simp [madeCells, hq, sp0]
theorem make_snaps (n : Nat) (h : n ≤ 1000) (W : World) : (Instr.makeSlice 23 (.int .i64 (n : Int)) (.int .i64 (n : Int))).run Try.prog W = .ok (.slice (some ⟨W.heap.size, 0, none⟩) n n) (W.alloc (.cells (spRow (List.replicate n sp0)).toArray 48)) := by
  obtain ⟨i0, hi, hz0, hz1, hz2⟩ := info_parts infoSp
  have hmk := run_make (P := Try.prog) W 23 48 i0 (.agg #[.int .u64 0, .int .u64 0, .slice none 0 0, .bool false]) Try.underlying23 hi hz0 .i64 .i64 (n : Int) (n : Int) (by omega) (Int.le_refl _) (by rw [hz2]; omega) (by omega)
  rw [hz1] at hmk
  rw [← snaps_new]
  simpa [Value.cells] using hmk

theorem sfill_set {l : List OSn} {n k : Nat} (hl : l.length = k) (hk : k < n) (z : OSn) : (l ++ List.replicate (n - k) sp0).set k z = (l ++ [z]) ++ List.replicate (n - (k + 1)) sp0 := by
  rw [List.set_append_right _ _ (by omega), hl, Nat.sub_self, show n - k = (n - (k + 1)) + 1 by omega, List.replicate_succ, List.set_cons_zero, List.append_assoc]
  rfl
/-- The list so far, in block g; its places lie in blocks of their own. -/
structure Sn (b c n g : Nat) (s : St) (w : World) (k : Nat) (xs : List OSn) (wr : World) : Prop where
  len : xs.length = k
  is : xs.map (·.1) = (snsS b k s).1
  row : Blk wr g 48 (spRow (xs ++ List.replicate (n - k) sp0)).toArray
  img : ∀ x ∈ xs, OInts wr w.heap.size x.2 x.1.img
  rd : Rd w c (snsS b k s).2 wr
def SnRel (b c n g : Nat) (s : St) (w : World) (i : Value) (wr : World) : Prop := ∃ (k : Nat) (xs : List OSn), k ≤ n ∧ i = .int .i64 (k : Int) ∧ Sn b c n g s w k xs wr
def endSns (b c n : Nat) (s : St) (w : World) (e : Ending) (w' : World) : Prop := ∃ g xs, e = .returned (.slice (some ⟨g, 0, none⟩) n n) ∧ w.heap.size ≤ g ∧ Sn b c n g s w n xs w'
set_option maxHeartbeats 6400000 in
theorem sns_any {w : World} {kb rb pb c b : Nat} {s : St} (n : Nat) (hn : n ≤ 100) (hb : b ≤ 100) (h : PS w c s) (he : EnvP w kb rb pb c b) :
    Calls Try.prog 77 #[.int .i64 (n : Int), .func (.func 78) #[] #[ptr rb, ptr pb]] w (endSns b c n s w) := by
  have hmk : ∀ W, (Instr.makeSlice 23 (.int .i64 (n : Int)) (.int .i64 (n : Int))).run Try.prog W = .ok (.slice (some ⟨W.heap.size, 0, none⟩) n n) (W.alloc (.cells (spRow (List.replicate n sp0)).toArray 48)) := fun W => make_snaps n (by omega) W
  have HP := Lib.hid h
  have HE := Lib.hid he
  clear h he
  have hb0 := (Below.refl w.heap.size w).alloc (Nat.le_refl _) (.cells (spRow (List.replicate n sp0)).toArray 48)
  have HS0 : Hid (Sn b c n w.heap.size s w 0 [] (w.alloc (.cells (spRow (List.replicate n sp0)).toArray 48))) := ⟨rfl, rfl, Blk.new w 48 _, fun x hx => absurd hx (by simp), But.of_below hb0, HP.out.below hb0⟩
  clear hb0
  go_enter Try.func77, Try.ntmps77
  go_wp2_with fail
  obtain ⟨W0, hW0⟩ : ∃ z, w.alloc (.cells (spRow (List.replicate n sp0)).toArray 48) = z := ⟨_, rfl⟩
  rw [hW0] at HS0
  try rw [hW0]
  clear hW0 hmk
  obtain ⟨g, hg⟩ : ∃ g, w.heap.size = g := ⟨_, rfl⟩
  have HGE := Lib.hid (Nat.le_of_eq hg)
  have hS0 := HS0.out
  rw [hg] at hS0
  have HS1 := Lib.hid hS0
  try rw [hg]
  clear hg hS0 HS0
  go_loopw [6, 11] (fun _ i wr => SnRel b c n g s w i wr) (fun _ i _ => n - (intOf i).toNat)
  case atStart => exact ⟨0, [], Nat.zero_le _, rfl, HS1.out⟩
  case round =>
    obtain ⟨k, xs, hk, rfl, hS⟩ := hrel
    have HSK := Lib.hid hS
    clear hS
    by_cases hlt : k < n
    · have hki : (k : Int) < (n : Int) := by omega
      have HEK := Lib.hid (HE.out.rd HP.out.blk HSK.out.rd)
      go_wp2_with fail
      refine (snap_any hb HSK.out.rd.ps HEK.out).mono ?_
      rintro e W ⟨gi, rfl, hgi, hgB, hq⟩
      have HQ := Lib.hid hq
      have HLT := Lib.hid (snS_ok b (snsS b k s).2)
      have HGW := Lib.hid (hq.blk HSK.out.row HSK.out.rd.ps.blk (by decide))
      have HIM : Hid (∀ x ∈ xs, OInts W w.heap.size x.2 x.1.img) := fun x hx => oi_kp (HSK.out.img x hx) (hq.kp HSK.out.rd.ps) (by decide)
      have HRW := Lib.hid (HSK.out.rd.trans hq)
      have HOI : Hid (OInts W w.heap.size (.slice (some ⟨gi, 0, none⟩) b b) (snS b (snsS b k s).2).1.img) := by
        have h1 := oi_of (B := w.heap.size) hgB (by have := HSK.out.rd.but.size; omega) (by rw [HLT.out.2.1]; omega)
        rwa [HLT.out.2.1] at h1
      have HSN := Lib.hid (snsS_snoc b k s)
      have HLI := HLT.out.2.1
      obtain ⟨x, hx⟩ : ∃ x, (snS b (snsS b k s).2).1 = x := ⟨_, rfl⟩
      rw [hx] at HLI HOI
      rw [hx]
      have HX := Lib.hid hx
      unfold snC
      rw [HLI]
      have HLIB := Lib.hid HLI
      have hxl : xs.length = k := HSK.out.len
      have HXL := Lib.hid hxl
      have hrl : (spRow (xs ++ List.replicate (n - k) sp0)).length = n * 4 := by rw [spRow_len, List.length_append, List.length_replicate]; omega
      have key : ∀ j, j < 4 → ∃ u, W.cell? ⟨g, k * 4 + j, none⟩ = some u := fun j hj => by
        rw [HGW.out.cell (k * 4 + j)]
        have : k * 4 + j < (spRow (xs ++ List.replicate (n - k) sp0)).length := by rw [hrl]; omega
        exact ⟨_, by rw [List.getElem?_toArray, List.getElem?_eq_getElem this]⟩
      obtain ⟨u0, c0⟩ := key 0 (by omega)
      obtain ⟨u1, c1⟩ := key 1 (by omega)
      obtain ⟨u2, c2⟩ := key 2 (by omega)
      obtain ⟨u3, c3⟩ := key 3 (by omega)
      rw [Nat.add_zero] at c0
      have f0 := HGW.out.frozen (k * 4)
      have f1 := HGW.out.frozen (k * 4 + 1)
      have f2 := HGW.out.frozen (k * 4 + 2)
      have f3 := HGW.out.frozen (k * 4 + 3)
      have hlg := HGW.out.lt
      have hk100 : k ≤ 100 := by omega
      have s1 := HGW.out.set_ (k * 4) (.int .u64 (x.g.1 : Int))
      have r1 := HRW.out.set HGW.out HGE.out (by decide) (by decide) (k * 4) (.int .u64 (x.g.1 : Int))
      have s2 := s1.set_ (k * 4 + 1) (.int .u64 (x.g.2 : Int))
      have r2 := r1.set s1 HGE.out (by decide) (by decide) (k * 4 + 1) (.int .u64 (x.g.2 : Int))
      have s3 := s2.set_ (k * 4 + 2) (.slice (some ⟨gi, 0, none⟩) b b)
      have r3 := r2.set s2 HGE.out (by decide) (by decide) (k * 4 + 2) (.slice (some ⟨gi, 0, none⟩) b b)
      have s4 := s3.set_ (k * 4 + 3) (.bool x.hid)
      have r4 := r3.set s3 HGE.out (by decide) (by decide) (k * 4 + 3) (.bool x.hid)
      have kp : Kp 48 W ((((W.setCell ⟨g, k * 4, none⟩ (.int .u64 (x.g.1 : Int))).setCell ⟨g, k * 4 + 1, none⟩ (.int .u64 (x.g.2 : Int))).setCell ⟨g, k * 4 + 2, none⟩ (.slice (some ⟨gi, 0, none⟩) b b)).setCell ⟨g, k * 4 + 3, none⟩ (.bool x.hid)) :=
        (((Kp.of_set (k * 4) _ HGW.out).trans (Kp.of_set (k * 4 + 1) _ s1)).trans (Kp.of_set (k * 4 + 2) _ s2)).trans (Kp.of_set (k * 4 + 3) _ s3)
      simp only [List.setIfInBounds_toArray] at s4
      rw [spRow_set (xs ++ List.replicate (n - k) sp0) k (by rw [List.length_append, List.length_replicate]; omega) (x, .slice (some ⟨gi, 0, none⟩) b b) _ _ _ _ rfl, sfill_set hxl hlt] at s4
      have HNEW : Hid (Sn b c n g s w (k + 1) (xs ++ [(x, .slice (some ⟨gi, 0, none⟩) b b)]) ((((W.setCell ⟨g, k * 4, none⟩ (.int .u64 (x.g.1 : Int))).setCell ⟨g, k * 4 + 1, none⟩ (.int .u64 (x.g.2 : Int))).setCell ⟨g, k * 4 + 2, none⟩ (.slice (some ⟨gi, 0, none⟩) b b)).setCell ⟨g, k * 4 + 3, none⟩ (.bool x.hid))) := by
        refine ⟨by rw [List.length_append, hxl]; rfl, ?_, s4, ?_, ?_⟩
        · rw [HSN.out, HX.out, List.map_append, HSK.out.is]
          rfl
        · intro y hy
          rcases List.mem_append.1 hy with hy | hy
          · exact oi_kp (HIM.out y hy) kp (by decide)
          · obtain rfl : y = (x, .slice (some ⟨gi, 0, none⟩) b b) := by simpa using hy
            exact oi_kp HOI.out kp (by decide)
        · rw [HSN.out]
          exact r4
      clear hq hgB hgi hx key s1 s2 s3 s4 r1 r2 r3 r4 kp hrl hxl HLI HSK HEK HGW HIM HRW HOI
      go_wp2_with fail
      go_roundw
      case rel => exact ⟨k + 1, _, by omega, by go_num, HNEW.out⟩
      case measure => simp [intOf]; omega
    · have hki : ¬ (k : Int) < (n : Int) := by omega
      obtain rfl : k = n := by omega
      go_wp2_with fail
      go_ret
      exact ⟨g, xs, rfl, HGE.out, HSK.out⟩
end Go.Proofs.Ytklmgdiaianlbaa.mt.pg

