/- StWLa, CLaid. -/
import Derived.Test.YtchdamlnbmngbaaDoorQ10
import Derived.Test.YtchdamlnbmngbaaDoorQ11
import Derived.Test.YtchdamlnbmngbaaDoorQ2
import Derived.Test.YtchdamlnbmngbaaDoorQ8
import Derived.Test.YtchdamlnbmngbaaDoorRows
import Derived.Deep.DeepHandedRow
import Derived.Lib.LaidTab
set_option linter.unusedVariables false
set_option linter.unusedSimpArgs false
/- StreamLays' walk. -/
namespace Go.Proofs.YtchdamlnbmngbaaDoor.st
open Go Go.RowKit Go.Sort Go.Proofs.YtchdamlnbmngbaaDoor.ib Go.Proofs.YtchdamlnbmngbaaDoor.wi Go.Proofs.YtchdamlnbmngbaaDoor.mt
open Go.Proofs.YtchdamlnbmngbaaDoor.ch (ChL OChs chVals infoCh)
set_option maxRecDepth 100000

theorem shP_few (p : Pa) : (shP p).chs.length ≤ 30 := by
  show (shL p.chs).length ≤ 30
  rw [shL_len]
  omega
/-- Two parts in blocks. -/
structure LyS (w W : World) (gp gq : Nat) (p : Pa) (A : Option Addr) (c : Nat) (q : Pa) (B : Option Addr) (d : Nat) : Prop where
  m : Blk W gp 30 (paC p A c)
  n : Blk W gq 30 (paC q B d)
  p : PaL W A c p
  q : PaL W B d q
  below : Below w.heap.size w W
theorem LyS.grow {w W W' : World} {gp gq : Nat} {p : Pa} {A : Option Addr} {c : Nat} {q : Pa} {B : Option Addr} {d : Nat} (h : LyS w W gp gq p A c q B d) (hb : Below W.heap.size W W') : LyS w W' gp gq p A c q B d :=
  ⟨h.m.below hb, h.n.below hb, h.p.below hb, h.q.below hb, below_step h.below hb⟩
theorem own_ne {W : World} {B : Nat} {A : Option Addr} {n c g : Nat} {l : List Ch} {cs : Array Value} (h : OChs W B (.slice A n c) l) (hb : Blk W g 30 cs) : ∀ b o, A = some ⟨b, o, none⟩ → b ≠ g := fun b o e => by
  subst e
  exact fun e2 => own_type h hb (by decide) b rfl e2

set_option maxHeartbeats 12800000 in
theorem streamLays_go (A0 B0 : Option Addr) (cA cB : Nat) (p0 q0 : Pa) (w : World) (ht : CTab w) (h : PaL w A0 cA p0) (h' : PaL w B0 cB q0) (hl : p0.chs.length ≤ 9223372036854775807) (hd : ∀ c ∈ p0.chs, c.2.length ≤ 9223372036854775807) (hl' : q0.chs.length ≤ 9223372036854775807) (hd' : ∀ c ∈ q0.chs, c.2.length ≤ 9223372036854775807) :
    Calls Tryd.prog 4 #[.agg (paC p0 A0 cA), .agg (paC q0 B0 cB)] w fun e w' => e = .returned (.bool true) ∧ Below w.heap.size w w' := by
  have c1 := (Below.refl w.heap.size w).alloc (Nat.le_refl _) (.cells (paC p0 A0 cA) 30)
  have k1 := Blk.new w 30 (paC p0 A0 cA)
  obtain ⟨W1, hW1⟩ : ∃ z, w.alloc (.cells (paC p0 A0 cA) 30) = z := ⟨_, rfl⟩
  rw [hW1] at c1 k1
  have c2 := (Below.refl W1.heap.size W1).alloc (Nat.le_refl _) (.cells (paC q0 B0 cB) 30)
  have k2 := Blk.new W1 30 (paC q0 B0 cB)
  obtain ⟨W2, hW2⟩ : ∃ z, W1.alloc (.cells (paC q0 B0 cB) 30) = z := ⟨_, rfl⟩
  rw [hW2] at c2 k2
  have hne : W1.heap.size ≠ w.heap.size := by have := k1.lt; omega
  have hge : w.heap.size ≤ W1.heap.size := c1.size
  have H2 : Hid (LyS w W2 w.heap.size W1.heap.size p0 A0 cA q0 B0 cB) := ⟨k1.below c2, k2, (h.below c1).below c2, (h'.below c1).below c2, below_step c1 c2⟩
  obtain ⟨gp, hgp⟩ : ∃ z, w.heap.size = z := ⟨_, rfl⟩
  obtain ⟨gq, hgq⟩ : ∃ z, W1.heap.size = z := ⟨_, rfl⟩
  have HW1 := Lib.hid hW1
  have HW2 := Lib.hid hW2
  have HGP := Lib.hid hgp
  have HGQ := Lib.hid hgq
  have HG1 : Hid (w.heap.size ≤ gp) := Nat.le_of_eq hgp
  have HG2 : Hid (w.heap.size ≤ gq) := by unfold Hid; omega
  have HNE : Hid (gq ≠ gp) := by unfold Hid; rw [← hgp, ← hgq]; exact hne
  have HLp := Lib.hid hl
  have HDp := Lib.hid hd
  have HLq := Lib.hid hl'
  have HDq := Lib.hid hd'
  have HT := Lib.hid ht
  unfold Hid at H2
  rw [hgp, hgq] at H2
  have H3 := Lib.hid H2
  unfold paC at HW1 hW1 HW2
  have HQ0 := Lib.hid h'
  clear c1 k1 c2 k2 hW2 hgp hgq hne hge h h' hl hd hl' hd' ht H2
  unfold paC
  go_enter Tryd.func4, Tryd.ntmps4
  go_upto_region 1 with fail
  try rw [hW1]
  try rw [HW2.out]
  rw [HGP.out, HGQ.out]
  clear HW1 HW2 HGP HGQ hW1
  have ah := H3.out.m
  have a0 := ah.cell 0
  have fa0 := ah.frozen 0
  have a1 := ah.cell 1
  have fa1 := ah.frozen 1
  have a2 := ah.cell 2
  have fa2 := ah.frozen 2
  have a3 := ah.cell 3
  have fa3 := ah.frozen 3
  have a4 := ah.cell 4
  have fa4 := ah.frozen 4
  have a5 := ah.cell 5
  have fa5 := ah.frozen 5
  have a6 := ah.cell 6
  have fa6 := ah.frozen 6
  have al := ah.lt
  simp only [paC, List.getElem?_toArray, List.getElem?_cons_zero, List.getElem?_cons_succ] at a0 a1 a2 a3 a4 a5 a6
  clear ah
  have HSH := Lib.hid (short_any A0 cA p0 W2 H3.out.p HLp.out HDp.out)
  have HFE := Lib.hid (shP_few p0)
  obtain ⟨p, hp⟩ : ∃ z, shP p0 = z := ⟨_, rfl⟩
  rw [hp] at HSH HFE
  unfold paC at HSH
  clear hp
  go_wp2_with fail
  refine HSH.out.mono ?_
  rintro e W3 ⟨A, c, rfl, hq, ho, c3⟩
  clear a0 fa0 a1 fa1 a2 fa2 a3 fa3 a4 fa4 a5 fa5 a6 fa6 al
  have HY3 := Lib.hid (H3.out.grow c3)
  have hne3 := own_ne ho HY3.out.m
  have HO3 : Hid (OChs (setPa W3 gp p.base p.target p.fr p.all (.slice A p.chs.length c)) w.heap.size (.slice A p.chs.length c) p.chs) :=
    row_of_block (row_base ho H3.out.below.size) (fun j hj => setPa_oth _ _ _ _ _ _ _ _ (own_type ho HY3.out.m (by decide) j hj))
  have hme3 : Blk W3 gp 30 (pC p0.base p0.target p0.fr p0.all (.slice A0 p0.chs.length cA)) := HY3.out.m
  have HM3 : Hid (Blk (setPa W3 gp p.base p.target p.fr p.all (.slice A p.chs.length c)) gp 30 (paC p A c)) := setPa_blk hme3
  have HN3 : Hid (Blk (setPa W3 gp p.base p.target p.fr p.all (.slice A p.chs.length c)) gq 30 (paC q0 B0 cB)) := HY3.out.n.of_block (setPa_oth _ _ _ _ _ _ _ _ HNE.out)
  have HP3 : Hid (PaL (setPa W3 gp p.base p.target p.fr p.all (.slice A p.chs.length c)) A c p) := pal_set hq hne3
  have HB3 : Hid (Below w.heap.size w (setPa W3 gp p.base p.target p.fr p.all (.slice A p.chs.length c))) := setPa_below HY3.out.below HG1.out
  have HQ3 := Lib.hid (HQ0.out.below HB3.out)
  have ah := HY3.out.m
  have a0 := ah.cell 0
  have fa0 := ah.frozen 0
  have a1 := ah.cell 1
  have fa1 := ah.frozen 1
  have a2 := ah.cell 2
  have fa2 := ah.frozen 2
  have a3 := ah.cell 3
  have fa3 := ah.frozen 3
  have a4 := ah.cell 4
  have fa4 := ah.frozen 4
  have a5 := ah.cell 5
  have fa5 := ah.frozen 5
  have a6 := ah.cell 6
  have fa6 := ah.frozen 6
  have al := ah.lt
  simp only [paC, List.getElem?_toArray, List.getElem?_cons_zero, List.getElem?_cons_succ] at a0 a1 a2 a3 a4 a5 a6
  clear ah
  obtain ⟨W4, hW4⟩ : ∃ z, setPa W3 gp p.base p.target p.fr p.all (.slice A p.chs.length c) = z := ⟨_, rfl⟩
  rw [hW4] at HO3 HM3 HN3 HP3 HB3 HQ3
  have HW4 := Lib.hid hW4
  unfold setPa at HW4
  unfold paC
  clear hW4 hq ho c3 hne3 hme3 HSH H3
  go_upto_region 2 with fail
  try rw [HW4.out]
  clear HW4
  clear a0 fa0 a1 fa1 a2 fa2 a3 fa3 a4 fa4 a5 fa5 a6 fa6 al
  clear HY3
  have bh := HN3.out
  have b0 := bh.cell 0
  have fb0 := bh.frozen 0
  have b1 := bh.cell 1
  have fb1 := bh.frozen 1
  have b2 := bh.cell 2
  have fb2 := bh.frozen 2
  have b3 := bh.cell 3
  have fb3 := bh.frozen 3
  have b4 := bh.cell 4
  have fb4 := bh.frozen 4
  have b5 := bh.cell 5
  have fb5 := bh.frozen 5
  have b6 := bh.cell 6
  have fb6 := bh.frozen 6
  have bl := bh.lt
  simp only [paC, List.getElem?_toArray, List.getElem?_cons_zero, List.getElem?_cons_succ] at b0 b1 b2 b3 b4 b5 b6
  clear bh
  have HSH := Lib.hid (short_any B0 cB q0 W4 HQ3.out HLq.out HDq.out)
  have HFF := Lib.hid (shP_few q0)
  obtain ⟨q, hq⟩ : ∃ z, shP q0 = z := ⟨_, rfl⟩
  rw [hq] at HSH HFF
  unfold paC at HSH
  clear hq
  go_wp2_with fail
  refine HSH.out.mono ?_
  rintro e W5 ⟨B, d, rfl, hq, ho, c5⟩
  clear b0 fb0 b1 fb1 b2 fb2 b3 fb3 b4 fb4 b5 fb5 b6 fb6 bl
  have hn5 : Blk W5 gq 30 (paC q0 B0 cB) := HN3.out.below c5
  have hm5 : Blk W5 gp 30 (paC p A c) := HM3.out.below c5
  have hp5 : PaL W5 A c p := HP3.out.below c5
  have ho5 : OChs W5 w.heap.size (.slice A p.chs.length c) p.chs := row_of_block HO3.out (fun j hj => c5.block j (HO3.out.lt j hj).2)
  have hb5 : Below w.heap.size w W5 := below_step HB3.out c5
  have hme : Blk W5 gq 30 (pC q0.base q0.target q0.fr q0.all (.slice B0 q0.chs.length cB)) := hn5
  have H6 : Hid (LyS w (setPa W5 gq q.base q.target q.fr q.all (.slice B q.chs.length d)) gp gq p A c q B d) :=
    ⟨hm5.of_block (setPa_oth _ _ _ _ _ _ _ _ HNE.out.symm), setPa_blk hme, pal_set hp5 (own_ne ho5 hn5), pal_set hq (own_ne ho hn5), setPa_below hb5 HG2.out⟩
  have bh := hn5
  have b0 := bh.cell 0
  have fb0 := bh.frozen 0
  have b1 := bh.cell 1
  have fb1 := bh.frozen 1
  have b2 := bh.cell 2
  have fb2 := bh.frozen 2
  have b3 := bh.cell 3
  have fb3 := bh.frozen 3
  have b4 := bh.cell 4
  have fb4 := bh.frozen 4
  have b5 := bh.cell 5
  have fb5 := bh.frozen 5
  have b6 := bh.cell 6
  have fb6 := bh.frozen 6
  have bl := bh.lt
  simp only [paC, List.getElem?_toArray, List.getElem?_cons_zero, List.getElem?_cons_succ] at b0 b1 b2 b3 b4 b5 b6
  clear bh
  obtain ⟨W6, hW6⟩ : ∃ z, setPa W5 gq q.base q.target q.fr q.all (.slice B q.chs.length d) = z := ⟨_, rfl⟩
  rw [hW6] at H6
  have HW6 := Lib.hid hW6
  unfold setPa at HW6
  unfold paC
  clear hW6 hq ho c5 hn5 hm5 hp5 ho5 hb5 hme HSH HO3 HM3 HN3 HP3 HB3 HQ3
  go_upto_region 3 with fail
  try rw [HW6.out]
  clear HW6
  clear b0 fb0 b1 fb1 b2 fb2 b3 fb3 b4 fb4 b5 fb5 b6 fb6 bl
  have ah := H6.out.m
  have a0 := ah.cell 0
  have a1 := ah.cell 1
  have a2 := ah.cell 2
  have a3 := ah.cell 3
  have a4 := ah.cell 4
  have a5 := ah.cell 5
  have a6 := ah.cell 6
  have al := ah.lt
  simp only [paC, List.getElem?_toArray, List.getElem?_cons_zero, List.getElem?_cons_succ] at a0 a1 a2 a3 a4 a5 a6
  clear ah
  have HT6 := Lib.hid (HT.out.below H6.out.below HT.out.1)
  have HEN := Lib.hid (enc_any A c p W6 H6.out.p (by have := HFE.out; omega) HT6.out)
  obtain ⟨X, hX⟩ : ∃ z, pEnc p = z := ⟨_, rfl⟩
  have HX := Lib.hid hX
  rw [hX] at HEN
  obtain ⟨xs, xe⟩ := X
  unfold endS at HEN
  dsimp only at HEN
  unfold paC at HEN
  obtain ⟨S, hS⟩ : ∃ z, str xs = z := ⟨_, rfl⟩
  rw [hS] at HEN
  have HS := Lib.hid hS
  clear hX hS
  go_wp2_with fail
  refine HEN.out.mono ?_
  rintro e W7 ⟨rfl, c7⟩
  have H7 := Lib.hid (H6.out.grow c7)
  clear c7 H6 HEN HT6
  clear a0 a1 a2 a3 a4 a5 a6 al
  have ah := H7.out.m
  have a0 := ah.cell 0
  have a1 := ah.cell 1
  have a2 := ah.cell 2
  have a3 := ah.cell 3
  have a4 := ah.cell 4
  have a5 := ah.cell 5
  have a6 := ah.cell 6
  have al := ah.lt
  simp only [paC, List.getElem?_toArray, List.getElem?_cons_zero, List.getElem?_cons_succ] at a0 a1 a2 a3 a4 a5 a6
  clear ah
  have HEN := Lib.hid (renc_any A c p W7 H7.out.p (by have := HFE.out; omega))
  rw [HX.out] at HEN
  unfold endS at HEN
  dsimp only at HEN
  unfold paC at HEN
  rw [HS.out] at HEN
  go_wp2_with fail
  refine HEN.out.mono ?_
  rintro e W8 ⟨rfl, c8⟩
  have H8 := Lib.hid (H7.out.grow c8)
  clear c8 H7 HEN HX HS
  clear a0 a1 a2 a3 a4 a5 a6 al
  go_upto_region 5 with fail
  have hpm := H8.out.m
  have hqm := H8.out.n
  have a0 := hpm.cell 0
  have a1 := hpm.cell 1
  have a2 := hpm.cell 2
  have a3 := hpm.cell 3
  have a4 := hpm.cell 4
  have a5 := hpm.cell 5
  have a6 := hpm.cell 6
  have b0 := hqm.cell 0
  have b1 := hqm.cell 1
  have b2 := hqm.cell 2
  have b3 := hqm.cell 3
  have b4 := hqm.cell 4
  have b5 := hqm.cell 5
  have b6 := hqm.cell 6
  simp only [paC, List.getElem?_toArray, List.getElem?_cons_zero, List.getElem?_cons_succ] at a0 a1 a2 a3 a4 a5 a6 b0 b1 b2 b3 b4 b5 b6
  have ra0 : ∀ dd os, (grow (redrawn W8 dd) os).cell? ⟨gp, 0, none⟩ = some (.int .u64 (p.base.1 : Int)) := fun dd os => cell_regrown a0 dd os
  have ra1 : ∀ dd os, (grow (redrawn W8 dd) os).cell? ⟨gp, 1, none⟩ = some (.int .u64 (p.base.2 : Int)) := fun dd os => cell_regrown a1 dd os
  have ra2 : ∀ dd os, (grow (redrawn W8 dd) os).cell? ⟨gp, 2, none⟩ = some (.int .u64 (p.target.1 : Int)) := fun dd os => cell_regrown a2 dd os
  have ra3 : ∀ dd os, (grow (redrawn W8 dd) os).cell? ⟨gp, 3, none⟩ = some (.int .u64 (p.target.2 : Int)) := fun dd os => cell_regrown a3 dd os
  have ra4 : ∀ dd os, (grow (redrawn W8 dd) os).cell? ⟨gp, 4, none⟩ = some (.int .i64 p.fr) := fun dd os => cell_regrown a4 dd os
  have ra5 : ∀ dd os, (grow (redrawn W8 dd) os).cell? ⟨gp, 5, none⟩ = some (.int .i64 p.all) := fun dd os => cell_regrown a5 dd os
  have ra6 : ∀ dd os, (grow (redrawn W8 dd) os).cell? ⟨gp, 6, none⟩ = some (.slice A p.chs.length c) := fun dd os => cell_regrown a6 dd os
  have rb0 : ∀ dd os, (grow (redrawn W8 dd) os).cell? ⟨gq, 0, none⟩ = some (.int .u64 (q.base.1 : Int)) := fun dd os => cell_regrown b0 dd os
  have rb1 : ∀ dd os, (grow (redrawn W8 dd) os).cell? ⟨gq, 1, none⟩ = some (.int .u64 (q.base.2 : Int)) := fun dd os => cell_regrown b1 dd os
  have rb2 : ∀ dd os, (grow (redrawn W8 dd) os).cell? ⟨gq, 2, none⟩ = some (.int .u64 (q.target.1 : Int)) := fun dd os => cell_regrown b2 dd os
  have rb3 : ∀ dd os, (grow (redrawn W8 dd) os).cell? ⟨gq, 3, none⟩ = some (.int .u64 (q.target.2 : Int)) := fun dd os => cell_regrown b3 dd os
  have rb4 : ∀ dd os, (grow (redrawn W8 dd) os).cell? ⟨gq, 4, none⟩ = some (.int .i64 q.fr) := fun dd os => cell_regrown b4 dd os
  have rb5 : ∀ dd os, (grow (redrawn W8 dd) os).cell? ⟨gq, 5, none⟩ = some (.int .i64 q.all) := fun dd os => cell_regrown b5 dd os
  have rb6 : ∀ dd os, (grow (redrawn W8 dd) os).cell? ⟨gq, 6, none⟩ = some (.slice B q.chs.length d) := fun dd os => cell_regrown b6 dd os
  obtain ⟨K, hK⟩ : ∃ z, pCheck p = z := ⟨_, rfl⟩
  obtain ⟨R, hR⟩ : ∃ z, decide (p = q) = z := ⟨_, rfl⟩
  have hfe := HFE.out
  have hff := HFF.out
  have cC : ∀ dd os, Calls Tryd.prog 17 #[.agg #[.int .u64 (p.base.1 : Int), .int .u64 (p.base.2 : Int), .int .u64 (p.target.1 : Int), .int .u64 (p.target.2 : Int), .int .i64 p.fr, .int .i64 p.all, .slice A p.chs.length c]] (grow (redrawn W8 dd) os) fun e w'' => e = .returned (.int .i64 K) ∧ ∃ y : Regrown, w'' = grow (redrawn W8 y.d) y.os := fun dd os => Calls.regrown_of (by rw [← hK]; exact check_any A c p _ (H8.out.p.below (below_regrown W8 dd os)) (by omega))
  have cR : ∀ dd os, Calls Tryd.prog 18 #[.agg #[.int .u64 (p.base.1 : Int), .int .u64 (p.base.2 : Int), .int .u64 (p.target.1 : Int), .int .u64 (p.target.2 : Int), .int .i64 p.fr, .int .i64 p.all, .slice A p.chs.length c]] (grow (redrawn W8 dd) os) fun e w'' => e = .returned (.int .i64 K) ∧ ∃ y : Regrown, w'' = grow (redrawn W8 y.d) y.os := fun dd os => Calls.regrown_of (by rw [← hK]; exact rcheck_any A c p _ (H8.out.p.below (below_regrown W8 dd os)) (by omega))
  have cS : ∀ dd os, Calls Tryd.prog 19 #[.agg #[.int .u64 (p.base.1 : Int), .int .u64 (p.base.2 : Int), .int .u64 (p.target.1 : Int), .int .u64 (p.target.2 : Int), .int .i64 p.fr, .int .i64 p.all, .slice A p.chs.length c], .agg #[.int .u64 (q.base.1 : Int), .int .u64 (q.base.2 : Int), .int .u64 (q.target.1 : Int), .int .u64 (q.target.2 : Int), .int .i64 q.fr, .int .i64 q.all, .slice B q.chs.length d]] (grow (redrawn W8 dd) os) fun e w'' => e = .returned (.bool R) ∧ ∃ y : Regrown, w'' = grow (redrawn W8 y.d) y.os := fun dd os => Calls.regrown_of (by rw [← hR]; exact same_any A B c d p q _ (H8.out.p.below (below_regrown W8 dd os)) (H8.out.q.below (below_regrown W8 dd os)) (by omega) (by omega))
  have cT : ∀ dd os, Calls Tryd.prog 12 #[.agg #[.int .u64 (p.base.1 : Int), .int .u64 (p.base.2 : Int), .int .u64 (p.target.1 : Int), .int .u64 (p.target.2 : Int), .int .i64 p.fr, .int .i64 p.all, .slice A p.chs.length c], .agg #[.int .u64 (q.base.1 : Int), .int .u64 (q.base.2 : Int), .int .u64 (q.target.1 : Int), .int .u64 (q.target.2 : Int), .int .i64 q.fr, .int .i64 q.all, .slice B q.chs.length d]] (grow (redrawn W8 dd) os) fun e w'' => e = .returned (.bool R) ∧ ∃ y : Regrown, w'' = grow (redrawn W8 y.d) y.os := fun dd os => Calls.regrown_of (by rw [← hR]; exact rsame_any A B c d p q _ (H8.out.p.below (below_regrown W8 dd os)) (H8.out.q.below (below_regrown W8 dd os)) (by omega) (by omega))
  have cU : ∀ dd os, Calls Tryd.prog 19 #[.agg #[.int .u64 (p.base.1 : Int), .int .u64 (p.base.2 : Int), .int .u64 (p.target.1 : Int), .int .u64 (p.target.2 : Int), .int .i64 p.fr, .int .i64 p.all, .slice A p.chs.length c], .agg #[.int .u64 (p.base.1 : Int), .int .u64 (p.base.2 : Int), .int .u64 (p.target.1 : Int), .int .u64 (p.target.2 : Int), .int .i64 p.fr, .int .i64 p.all, .slice A p.chs.length c]] (grow (redrawn W8 dd) os) fun e w'' => e = .returned (.bool true) ∧ ∃ y : Regrown, w'' = grow (redrawn W8 y.d) y.os := fun dd os => Calls.regrown_of (by have h := same_any A A c c p p (grow (redrawn W8 dd) os) (H8.out.p.below (below_regrown W8 dd os)) (H8.out.p.below (below_regrown W8 dd os)) (by omega) (by omega); rw [decide_eq_true (rfl : p = p)] at h; exact h)
  have cW : ∀ dd os, Calls Tryd.prog 13 #[] (grow (redrawn W8 dd) os) fun e w'' => e = .returned (.bool true) ∧ ∃ y : Regrown, w'' = grow (redrawn W8 y.d) y.os := fun dd os => Calls.regrown_of (works_any _ ((HT.out.below H8.out.below HT.out.1).below (below_regrown W8 dd os) (HT.out.below H8.out.below HT.out.1).1))
  have eK : (K == K) = true := by simp
  have eX : (xe == xe) = true := by simp
  have eS : (S.toList == S.toList) = true := by simp
  have eR : (R == R) = true := by simp
  have H9 := Lib.hid H8.out.below
  clear hK hR hpm hqm H8 hfe hff a0 a1 a2 a3 a4 a5 a6 b0 b1 b2 b3 b4 b5 b6
  refine wp_region_quiet_below rmixed (by kernel_rfl) ?_
  repeat (any_goals (first | go_big_quiet_step (first | (go_at_call 17; exact cC _ _) | (go_at_call 18; exact cR _ _) | (go_at_call 19; first | with_reducible exact cS _ _ | with_reducible exact cU _ _) | (go_at_call 12; exact cT _ _) | (go_at_call 13; exact cW _ _)) | quiet_step (first | (go_at_call 17; exact cC _ _) | (go_at_call 18; exact cR _ _) | (go_at_call 19; first | with_reducible exact cS _ _ | with_reducible exact cU _ _) | (go_at_call 12; exact cT _ _) | (go_at_call 13; exact cW _ _))))
  refine wpQuiet_nil ?_
  intro _ hw'
  obtain ⟨⟨dq, osq⟩, hw''⟩ := hw'
  subst hw''
  have HB := Lib.hid (below_step H9.out (below_regrown W8 dq osq))
  obtain ⟨W9, hW9⟩ : ∃ z, grow (redrawn W8 dq) osq = z := ⟨_, rfl⟩
  rw [hW9] at HB ⊢
  go_wp2_with fail
  go_ret
  exact ⟨rfl, HB.out⟩
theorem streamLays_walk (A0 : Option Addr) (c0 : Nat) (y0 : Pa) (A1 : Option Addr) (c1 : Nat) (y1 : Pa) (w : World) (hM0 : PaL w A0 c0 y0) (hW0 : paW y0) (hM1 : PaL w A1 c1 y1) (hW1 : paW y1) (ht : CTab w) :
    Calls Tryd.prog 4 #[.agg (paC y0 A0 c0), .agg (paC y1 A1 c1)] w fun e w' => e = .returned (.bool true) ∧ Below w.heap.size w w' :=
  streamLays_go A0 A1 c0 c1 y0 y1 w ht hM0 hM1 hW0.few hW0.thin hW1.few hW1.thin
end Go.Proofs.YtchdamlnbmngbaaDoor.st

/- What the rows list of the variable of package crc, as the walks want it; and a world in which it holds that. -/
namespace Go.Proofs.YtchdamlnbmngbaaDoor
open Go.RowKit
set_option maxRecDepth 100000

def cZs : List Int := tabL.map Int.ofNat

theorem cgType : (Tryd.prog.globals[0]?).map (·.type) = some 108 := by kernel_rfl
theorem cgCells : Tryd.prog.cellsOf 108 = 16 := by kernel_rfl
theorem cgCell : Tryd.prog.cellsOf 96 = 1 := by kernel_rfl

theorem ctab_of_laid {W : World} {name : String} {rest : List (String × DataW Unit)} (h : laidMet Tryd.prog ((name, Lib.tabData .u32 cZs) :: rest) W) (cg : Tryd.prog.globalNamed name = some 0) : CTab W := by
  have hT := Lib.tabIs_of_head cg cgType Tryd.underlying108 Tryd.underlying96 cgCell cgCells h
  have hc : ∀ i, i < 16 → W.cell? ⟨0, i, none⟩ = some (.int .u32 ((tabL.getD i 0 : Nat) : Int)) := by
    intro i hi
    have := hT.cell cg i (by simpa [cZs, tabL] using hi)
    rw [this]
    have : ∀ i : Nat, i < 16 → cZs.getD i 0 = ((tabL.getD i 0 : Nat) : Int) := by decide
    rw [this i hi]
  exact ⟨World.block_lt_of_cell? W _ (hc 0 (by omega)), hc⟩

/-- The settled world, crc's variable holding what its initialiser lays. -/
noncomputable def laidWorld (os : Os) : World :=
  { World.holding Tryd.prog os ⟨#[], #[], []⟩ with heap := (World.holding Tryd.prog os ⟨#[], #[], []⟩).heap.modify 0 fun
      | .cells _ t frozen => .cells (cZs.map fun z => Value.int .u32 z).toArray t frozen
      | o => o }

end Go.Proofs.YtchdamlnbmngbaaDoor

