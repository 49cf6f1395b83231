/- MtSame. -/
import Derived.Test.YtklmgdiaianlbaaQ10
import Derived.Test.YtklmgdiaianlbaaQ16
import Derived.Test.YtklmgdiaianlbaaQ4
import Derived.BigRegion
import Derived.LoopTactic
set_option linter.unusedVariables false
set_option linter.unusedSimpArgs false
/- The document's own Same. -/
namespace Go.Proofs.Ytklmgdiaianlbaa.mt
open Go Go.RowKit Go.Sort Go.Proofs.Ytklmgdiaianlbaa.ib Go.Proofs.Ytklmgdiaianlbaa.wi Go.Proofs.Ytklmgdiaianlbaa.im
set_option maxRecDepth 100000

theorem mt_eq (m m' : Mt) : m = m' ↔ m.live = m'.live ∧ m.snaps = m'.snaps ∧ m.tok = m'.tok := by cases m; cases m'; simp
theorem two_allocs (wr : World) (t : TypeId) (X Y : Array Value) : Blk (((wr.alloc (.cells X t)).alloc (.cells Y t)).drew) wr.heap.size t X ∧ Blk (((wr.alloc (.cells X t)).alloc (.cells Y t)).drew) (wr.heap.size + 1) t Y ∧ Below wr.heap.size wr ((wr.alloc (.cells X t)).alloc (.cells Y t)).drew := by
  have h1 := (Below.refl _ wr).alloc (Nat.le_refl _) (.cells X t)
  have h2 := (Below.refl _ (wr.alloc (.cells X t))).alloc (Nat.le_refl _) (.cells Y t)
  have h3 := Blk.new (wr.alloc (.cells X t)) t Y
  rw [show (wr.alloc (.cells X t)).heap.size = wr.heap.size + 1 from by simp] at h3
  exact ⟨(Blk.new wr t X).below h2.drew, h3, (below_step h1 h2).drew⟩
def snC (x : Sp) (A : Option Addr) (c : Nat) : Array Value := #[.int .u64 (x.g.1 : Int), .int .u64 (x.g.2 : Int), .slice A x.img.length c, .bool x.hid]
def tkC (x : Tk) (A : Option Addr) (c : Nat) : Array Value := #[.int .u64 (x.base.1 : Int), .int .u64 (x.base.2 : Int), .int .u64 (x.target.1 : Int), .int .u64 (x.target.2 : Int), .int .i64 x.next, .int .i64 x.all, .slice A x.img.length c]
theorem sp_eq (x y : Sp) : x = y ↔ x.g = y.g ∧ x.hid = y.hid ∧ x.img = y.img := by cases x; cases y; simp; intro _; exact and_comm
theorem tk_eq (x y : Tk) : x = y ↔ x.base = y.base ∧ x.target = y.target ∧ x.next = y.next ∧ x.all = y.all ∧ x.img = y.img := by cases x; cases y; simp
theorem gd_ne {x y : Gd} (h : x ≠ y) : (¬ x.1 = y.1) ∨ (x.1 = y.1 ∧ ¬ x.2 = y.2) := by
  by_cases e1 : x.1 = y.1
  · exact .inr ⟨e1, fun e2 => h (Prod.ext e1 e2)⟩
  · exact .inl e1
theorem take_next {xs ys : List Sp} {k : Nat} (hx : k < xs.length) (hy : k < ys.length) (h : xs.take k = ys.take k) (e : xs[k] = ys[k]) : xs.take (k + 1) = ys.take (k + 1) := by
  rw [List.take_succ_eq_append_getElem hx, List.take_succ_eq_append_getElem hy, h, e]
theorem take_ne {xs ys : List Sp} {k : Nat} (hx : k < xs.length) (hy : k < ys.length) (e : xs[k] ≠ ys[k]) : xs ≠ ys := by
  intro h
  subst h
  exact e rfl
def SmRel (xs ys : List Sp) (w : World) (i : Value) (wr : World) : Prop := ∃ k : Nat, k ≤ xs.length ∧ i = .int .i64 (k : Int) ∧ xs.take k = ys.take k ∧ Below w.heap.size w wr

set_option maxHeartbeats 6400000 in
theorem rsame_any (v v' : Value) (m m' : Mt) (w : World) (h : MtAt w v m) (h' : MtAt w v' m') (hs : mtS m) (hs' : mtS m') : Calls Try.prog 16 #[v, v'] w (endB (decide (m = m')) w) := by
  obtain ⟨A0, A1, A2, d0, d1, d2, rfl, hm⟩ := h
  obtain ⟨B0, B1, B2, e0, e1, e2, rfl, hm'⟩ := h'
  have HM := Lib.hid hm
  have HN := Lib.hid hm'
  have HS := Lib.hid hs
  have HS' := Lib.hid hs'
  clear hm hm' hs hs'
  have hb1 := (Below.refl w.heap.size w).alloc (Nat.le_refl _) (.cells (mtC A0 A1 A2 d0 d1 d2 m) 30)
  have ha1 := Blk.new w 30 (mtC A0 A1 A2 d0 d1 d2 m)
  obtain ⟨W1, hW1⟩ : ∃ z, w.alloc (.cells (mtC A0 A1 A2 d0 d1 d2 m) 30) = z := ⟨_, rfl⟩
  rw [hW1] at hb1 ha1
  have hbb := (Below.refl _ W1).alloc (Nat.le_refl _) (.cells (mtC B0 B1 B2 e0 e1 e2 m') 30)
  have hb2 := below_step hb1 hbb
  have ha2 := ha1.below hbb
  have hc2 := Blk.new W1 30 (mtC B0 B1 B2 e0 e1 e2 m')
  obtain ⟨W2, hW2⟩ : ∃ z, W1.alloc (.cells (mtC B0 B1 B2 e0 e1 e2 m') 30) = z := ⟨_, rfl⟩
  rw [hW2] at hb2 ha2 hc2
  have HB := Lib.hid hb2
  have HA := Lib.hid ha2
  have HC := Lib.hid hc2
  clear hb1 ha1 hbb hb2 ha2 hc2
  obtain ⟨res, hres⟩ : ∃ r, decide (m = m') = r := ⟨_, rfl⟩
  rw [hres]
  have HRES : Hid (res = true ↔ m.live = m'.live ∧ m.snaps = m'.snaps ∧ m.tok = m'.tok) := by unfold Hid; rw [← hres, decide_eq_true_iff, mt_eq]
  clear hres
  have a0 := HA.out.cell 0
  have a1 := HA.out.cell 1
  have b0 := HC.out.cell 0
  have b1 := HC.out.cell 1
  unfold mtC at hW1 hW2
  simp only [mtC, List.getElem?_toArray, List.getElem?_cons_zero, List.getElem?_cons_succ] at a0 a1 b0 b1
  have hla := HA.out.lt
  have hlc := HC.out.lt
  show Calls Try.prog 16 #[.agg (mtC A0 A1 A2 d0 d1 d2 m), .agg (mtC B0 B1 B2 e0 e1 e2 m')] w _
  unfold mtC
  go_enter Try.func16, Try.ntmps16
  go_wp2_with fail
  try rw [hW2]
  clear hW2 hW1 a0 a1 b0 b1
  refine (rints_any A0 B0 d0 e0 m.live m'.live W2 (HM.out.live.below HB.out).ints (HN.out.live.below HB.out).ints (by have := HS.out.live; omega)).mono ?_
  rintro e W3 ⟨rfl, hb3⟩
  have HB3 := Lib.hid (below_step HB.out hb3)
  have HA3 := Lib.hid (HA.out.below hb3)
  have HC3 := Lib.hid (HC.out.below hb3)
  clear hb3 HA HC HB
  obtain ⟨q, hq⟩ : ∃ q, decide (m.live = m'.live) = q := ⟨_, rfl⟩
  rw [hq]
  cases q with
  | false =>
    have hr : res = false := by
      rw [decide_eq_false_iff_not] at hq
      cases hx : res with
      | false => rfl
      | true => exact absurd (HRES.out.1 hx).1 hq
    have HR := Lib.hid hr
    clear hq hr
    go_wp2_with fail
    go_ret
    exact ⟨by rw [HR.out]; rfl, HB3.out⟩
  | true =>
    have hq2 := of_decide_eq_true hq
    have HQ := Lib.hid hq2
    clear hq hq2
    have a1 := HA3.out.cell 1
    have b1 := HC3.out.cell 1
    simp only [mtC, List.getElem?_toArray, List.getElem?_cons_zero, List.getElem?_cons_succ] at a1 b1
    have hla := HA3.out.lt
    have hlc := HC3.out.lt
    by_cases hl : m.snaps.length = m'.snaps.length
    case' neg =>
      have hli : ((m.snaps.length : Int) != (m'.snaps.length : Int)) = true := by simp; omega
      have hr : res = false := by
        cases hx : res with
        | false => rfl
        | true => exact absurd (congrArg List.length (HRES.out.1 hx).2.1) hl
      have HR := Lib.hid hr
      clear hr hl
      go_wp2_with fail
      go_ret
      exact ⟨by rw [HR.out]; rfl, HB3.out⟩
    have HL := Lib.hid hl
    obtain ⟨n, hn⟩ : ∃ n, m.snaps.length = n := ⟨_, rfl⟩
    have HLN := Lib.hid hn
    have HLN' : Hid (m'.snaps.length = n) := hl.symm.trans hn
    rw [hn] at a1
    rw [← hl, hn] at b1
    clear hl hn
    go_wp2_with fail
    clear a1 b1
    go_loopw [5, 6, 7] (fun i _ _ wr => SmRel m.snaps m'.snaps W3 i wr) (fun i _ _ _ => n - (intOf i).toNat)
    case atStart => exact ⟨0, Nat.zero_le _, rfl, by rw [List.take_zero, List.take_zero], Below.refl _ _⟩
    case round =>
      obtain ⟨k, hk, rfl, htk, hbw⟩ := hrel
      have HTK := Lib.hid htk
      have HBR := Lib.hid (below_step HB3.out hbw)
      have HTB := Lib.hid hbw
      have HAW := Lib.hid (HA3.out.below hbw)
      have HCW := Lib.hid (HC3.out.below hbw)
      rw [HLN.out] at hk
      clear htk hbw
      have a1 := HAW.out.cell 1
      have b1 := HCW.out.cell 1
      simp only [mtC, List.getElem?_toArray, List.getElem?_cons_zero, List.getElem?_cons_succ] at a1 b1
      rw [HLN.out] at a1
      rw [HLN'.out] at b1
      have hla := HAW.out.lt
      have hlc := HCW.out.lt
      by_cases hlt : k < n
      · have hki : (k : Int) < (n : Int) := by omega
        have hkx : k < m.snaps.length := by rw [HLN.out]; exact hlt
        have hky : k < m'.snaps.length := by rw [HLN'.out]; exact hlt
        obtain ⟨xb, xo, XB, xc, hx1, hx2, hx3, hx4, hx5, hx6, hx7, hx8⟩ := (HM.out.below HBR.out).snaps k hkx
        obtain ⟨yb, yo, YB, yc, hy1, hy2, hy3, hy4, hy5, hy6, hy7, hy8⟩ := (HN.out.below HBR.out).snaps k hky
        obtain ⟨x, hx⟩ : ∃ x, m.snaps[k] = x := ⟨_, rfl⟩
        obtain ⟨y, hy⟩ : ∃ y, m'.snaps[k] = y := ⟨_, rfl⟩
        have HXL : Hid (x.img.length ≤ 1000) := by rw [← hx]; exact HS.out.imgs _ (List.getElem_mem hkx)
        rw [hx] at hx3 hx4 hx5 hx6 hx7
        rw [hy] at hy3 hy4 hy5 hy6 hy7
        have HX := Lib.hid hx
        have HY := Lib.hid hy
        have HXI := Lib.hid hx7
        have HYI := Lib.hid hy7
        subst hx1 hy1
        clear hx hy hx7 hy7 hx8 hy8
        go_wp2_with fail
        have hk1000 : k ≤ 1000 := by have := HS.out.snaps; omega
        go_region
        obtain ⟨WD, hWD⟩ : ∃ z, ((wr.alloc (.cells (snC x XB xc) 48)).alloc (.cells (snC y YB yc) 48)).drew = z := ⟨_, rfl⟩
        have htw := two_allocs wr 48 (snC x XB xc) (snC y YB yc)
        rw [hWD] at htw
        have HXB := Lib.hid htw.1
        have HYB := Lib.hid htw.2.1
        have HBD := Lib.hid (below_step HBR.out htw.2.2)
        have HBX := Lib.hid htw.2.2
        unfold snC at hWD
        try rw [hWD]
        obtain ⟨py, hpy⟩ : ∃ z, wr.heap.size + 1 = z := ⟨_, rfl⟩
        rw [hpy] at HYB ⊢
        obtain ⟨px, hpx⟩ : ∃ z, wr.heap.size = z := ⟨_, rfl⟩
        rw [hpx] at HXB ⊢
        clear hWD htw hpx hpy
        rotate_left
        obtain ⟨WD, hWD⟩ : ∃ z, ((wr.alloc (.cells (snC y YB yc) 48)).alloc (.cells (snC x XB xc) 48)).drew = z := ⟨_, rfl⟩
        have htw := two_allocs wr 48 (snC y YB yc) (snC x XB xc)
        rw [hWD] at htw
        have HYB := Lib.hid htw.1
        have HXB := Lib.hid htw.2.1
        have HBD := Lib.hid (below_step HBR.out htw.2.2)
        have HBX := Lib.hid htw.2.2
        unfold snC at hWD
        try rw [hWD]
        obtain ⟨px, hpx⟩ : ∃ z, wr.heap.size + 1 = z := ⟨_, rfl⟩
        rw [hpx] at HXB ⊢
        obtain ⟨py, hpy⟩ : ∃ z, wr.heap.size = z := ⟨_, rfl⟩
        rw [hpy] at HYB ⊢
        clear hWD htw hpx hpy
        all_goals
          have x0 := HXB.out.cell 0
          have x1 := HXB.out.cell 1
          have x2 := HXB.out.cell 2
          have x3 := HXB.out.cell 3
          have y0 := HYB.out.cell 0
          have y1 := HYB.out.cell 1
          have y2 := HYB.out.cell 2
          have y3 := HYB.out.cell 3
          simp only [snC, List.getElem?_toArray, List.getElem?_cons_zero, List.getElem?_cons_succ] at x0 x1 x2 x3 y0 y1 y2 y3
          have hlx := HXB.out.lt
          have hly := HYB.out.lt
          have HSP : Hid (x = y ↔ x.g = y.g ∧ x.hid = y.hid ∧ x.img = y.img) := sp_eq x y
          have HNO : Hid (x ≠ y → res = false) := fun hxy => by
            cases hr : res with
            | false => rfl
            | true => exact absurd (HRES.out.1 hr).2.1 (take_ne hkx hky (by rw [HX.out, HY.out]; exact hxy))
          clear hx3 hx4 hx5 hx6 hy3 hy4 hy5 hy6 hla hlc
          by_cases hg : x.g = y.g
          case' neg =>
            have hr := HNO.out (fun e => hg (HSP.out.1 e).1)
            have HR := Lib.hid hr
            have hgn := gd_ne hg
            clear hr hg
            rcases hgn with hgn | ⟨hgn, hgn2⟩
            · go_wp2_with fail
              go_ret
              exact ⟨by rw [HR.out]; rfl, HBD.out⟩
            · go_wp2_with fail
              go_ret
              exact ⟨by rw [HR.out]; rfl, HBD.out⟩
          rw [← hg] at y0 y1
          have HG := Lib.hid hg
          clear hg
          by_cases hh : x.hid = y.hid
          case' neg =>
            have hr := HNO.out (fun e => hh (HSP.out.1 e).2.1)
            have HR := Lib.hid hr
            have hq : (x.hid == y.hid) = false := by simpa using hh
            clear hr hh
            go_wp2_with fail
            go_ret
            exact ⟨by rw [HR.out]; rfl, HBD.out⟩
          rw [← hh] at y3
          have HH := Lib.hid hh
          have hq : (x.hid == x.hid) = true := by simp
          clear hh
          go_wp2_with fail
          refine (rints_any XB YB xc yc x.img y.img WD (HXI.out.below HBX.out).ints (HYI.out.below HBX.out).ints (by have := HXL.out; omega)).mono ?_
          rintro e W9 ⟨rfl, hb9⟩
          have HB9 := Lib.hid (below_step HBD.out hb9)
          have hb9' := Lib.hid hb9
          clear hb9
          obtain ⟨q, hq9⟩ : ∃ q, decide (x.img = y.img) = q := ⟨_, rfl⟩
          rw [hq9]
          cases q with
          | false =>
            have hr := HNO.out (fun e => by rw [decide_eq_false_iff_not] at hq9; exact hq9 (HSP.out.1 e).2.2)
            have HR := Lib.hid hr
            clear hr hq9
            go_wp2_with fail
            go_ret
            exact ⟨by rw [HR.out]; rfl, HB9.out⟩
          | true =>
            have hxy : x = y := HSP.out.2 ⟨HG.out, HH.out, of_decide_eq_true hq9⟩
            have HXY := Lib.hid hxy
            have HB39 := Lib.hid HB9.out
            have HLOC : Hid (Below W3.heap.size W3 W9) := below_step (below_step HTB.out HBX.out) hb9'.out
            clear hxy hq9
            go_wp2_with fail
            go_roundw
            case rel => exact ⟨k + 1, by omega, by go_num, take_next hkx hky HTK.out (by rw [HX.out, HY.out, HXY.out]), HLOC.out⟩
            case measure => simp [intOf]; omega
      · obtain rfl : k = n := by omega
        have hsn : m.snaps = m'.snaps := by
          have h := HTK.out
          rw [List.take_of_length_le (by have := HLN.out; omega), List.take_of_length_le (by have := HLN'.out; omega)] at h
          exact h
        have a2 := HAW.out.cell 2
        have a3 := HAW.out.cell 3
        have a4 := HAW.out.cell 4
        have a5 := HAW.out.cell 5
        have a6 := HAW.out.cell 6
        have a7 := HAW.out.cell 7
        have a8 := HAW.out.cell 8
        have b2 := HCW.out.cell 2
        have b3 := HCW.out.cell 3
        have b4 := HCW.out.cell 4
        have b5 := HCW.out.cell 5
        have b6 := HCW.out.cell 6
        have b7 := HCW.out.cell 7
        have b8 := HCW.out.cell 8
        simp only [mtC, List.getElem?_toArray, List.getElem?_cons_zero, List.getElem?_cons_succ] at a2 a3 a4 a5 a6 a7 a8 b2 b3 b4 b5 b6 b7 b8
        have HXI := Lib.hid (HM.out.below HBR.out).img
        have HYI := Lib.hid (HN.out.below HBR.out).img
        have HXL := Lib.hid HS.out.img
        have HRE : Hid (res = true ↔ m.tok = m'.tok) := by
          unfold Hid
          rw [HRES.out]
          exact ⟨fun h => h.2.2, fun h => ⟨HQ.out, hsn, h⟩⟩
        clear hsn HRES HTK
        obtain ⟨tx, htx⟩ : ∃ z, m.tok = z := ⟨_, rfl⟩
        obtain ⟨ty, hty⟩ : ∃ z, m'.tok = z := ⟨_, rfl⟩
        rw [htx] at a2 a3 a4 a5 a6 a7 a8 HXI HXL HRE
        rw [hty] at b2 b3 b4 b5 b6 b7 b8 HYI HRE
        have HTK2 : Hid (tx = ty ↔ tx.base = ty.base ∧ tx.target = ty.target ∧ tx.next = ty.next ∧ tx.all = ty.all ∧ tx.img = ty.img) := tk_eq tx ty
        have HNO : Hid (tx ≠ ty → res = false) := fun hxy => by
          cases hr : res with
          | false => rfl
          | true => exact absurd (HRE.out.1 hr) hxy
        clear htx hty
        go_wp2_with fail
        go_region
        obtain ⟨WD, hWD⟩ : ∃ z, ((wr.alloc (.cells (tkC tx A2 d2) 28)).alloc (.cells (tkC ty B2 e2) 28)).drew = z := ⟨_, rfl⟩
        have htw := two_allocs wr 28 (tkC tx A2 d2) (tkC ty B2 e2)
        rw [hWD] at htw
        have HXB := Lib.hid htw.1
        have HYB := Lib.hid htw.2.1
        have HBD := Lib.hid (below_step HBR.out htw.2.2)
        have HBX := Lib.hid htw.2.2
        unfold tkC at hWD
        try rw [hWD]
        obtain ⟨py, hpy⟩ : ∃ z, wr.heap.size + 1 = z := ⟨_, rfl⟩
        rw [hpy] at HYB ⊢
        obtain ⟨px, hpx⟩ : ∃ z, wr.heap.size = z := ⟨_, rfl⟩
        rw [hpx] at HXB ⊢
        clear hWD htw hpx hpy
        rotate_left
        obtain ⟨WD, hWD⟩ : ∃ z, ((wr.alloc (.cells (tkC ty B2 e2) 28)).alloc (.cells (tkC tx A2 d2) 28)).drew = z := ⟨_, rfl⟩
        have htw := two_allocs wr 28 (tkC ty B2 e2) (tkC tx A2 d2)
        rw [hWD] at htw
        have HYB := Lib.hid htw.1
        have HXB := Lib.hid htw.2.1
        have HBD := Lib.hid (below_step HBR.out htw.2.2)
        have HBX := Lib.hid htw.2.2
        unfold tkC at hWD
        try rw [hWD]
        obtain ⟨px, hpx⟩ : ∃ z, wr.heap.size + 1 = z := ⟨_, rfl⟩
        rw [hpx] at HXB ⊢
        obtain ⟨py, hpy⟩ : ∃ z, wr.heap.size = z := ⟨_, rfl⟩
        rw [hpy] at HYB ⊢
        clear hWD htw hpx hpy
        all_goals
          have x0 := HXB.out.cell 0
          have x1 := HXB.out.cell 1
          have x2 := HXB.out.cell 2
          have x3 := HXB.out.cell 3
          have x4 := HXB.out.cell 4
          have x5 := HXB.out.cell 5
          have x6 := HXB.out.cell 6
          have y0 := HYB.out.cell 0
          have y1 := HYB.out.cell 1
          have y2 := HYB.out.cell 2
          have y3 := HYB.out.cell 3
          have y4 := HYB.out.cell 4
          have y5 := HYB.out.cell 5
          have y6 := HYB.out.cell 6
          simp only [tkC, List.getElem?_toArray, List.getElem?_cons_zero, List.getElem?_cons_succ] at x0 x1 x2 x3 x4 x5 x6 y0 y1 y2 y3 y4 y5 y6
          have hlx := HXB.out.lt
          have hly := HYB.out.lt
          clear a1 a2 a3 a4 a5 a6 a7 a8 b1 b2 b3 b4 b5 b6 b7 b8 hla hlc
          by_cases hg : tx.base = ty.base
          case' neg =>
            have hr := HNO.out (fun e => hg (HTK2.out.1 e).1)
            have HR := Lib.hid hr
            have hgn := gd_ne hg
            clear hr hg
            rcases hgn with hgn | ⟨hgn, hgn2⟩
            · go_wp2_with fail
              go_ret
              exact ⟨by rw [HR.out]; rfl, HBD.out⟩
            · go_wp2_with fail
              go_ret
              exact ⟨by rw [HR.out]; rfl, HBD.out⟩
          rw [← hg] at y0 y1
          have HG0 := Lib.hid hg
          clear hg
          by_cases hg : tx.target = ty.target
          case' neg =>
            have hr := HNO.out (fun e => hg (HTK2.out.1 e).2.1)
            have HR := Lib.hid hr
            have hgn := gd_ne hg
            clear hr hg
            rcases hgn with hgn | ⟨hgn, hgn2⟩
            · go_wp2_with fail
              go_ret
              exact ⟨by rw [HR.out]; rfl, HBD.out⟩
            · go_wp2_with fail
              go_ret
              exact ⟨by rw [HR.out]; rfl, HBD.out⟩
          rw [← hg] at y2 y3
          have HG2 := Lib.hid hg
          clear hg
          by_cases hg : tx.next = ty.next
          case' neg =>
            have hr := HNO.out (fun e => hg (HTK2.out.1 e).2.2.1)
            have HR := Lib.hid hr
            clear hr
            go_wp2_with fail
            go_ret
            exact ⟨by rw [HR.out]; rfl, HBD.out⟩
          rw [← hg] at y4
          have HG4 := Lib.hid hg
          clear hg
          by_cases hg : tx.all = ty.all
          case' neg =>
            have hr := HNO.out (fun e => hg (HTK2.out.1 e).2.2.2.1)
            have HR := Lib.hid hr
            clear hr
            go_wp2_with fail
            go_ret
            exact ⟨by rw [HR.out]; rfl, HBD.out⟩
          rw [← hg] at y5
          have HG5 := Lib.hid hg
          clear hg
          go_wp2_with fail
          refine (rints_any A2 B2 d2 e2 tx.img ty.img WD (HXI.out.below HBX.out).ints (HYI.out.below HBX.out).ints (by have := HXL.out; omega)).mono ?_
          rintro e W9 ⟨rfl, hb9⟩
          have HB9 := Lib.hid (below_step HBD.out hb9)
          have hr : decide (tx.img = ty.img) = res := by
            cases hr : res with
            | true => exact decide_eq_true (HTK2.out.1 (HRE.out.1 hr)).2.2.2.2
            | false =>
              rw [decide_eq_false_iff_not]
              intro h
              rw [HRE.out.2 (HTK2.out.2 ⟨HG0.out, HG2.out, HG4.out, HG5.out, h⟩)] at hr
              cases hr
          rw [hr]
          clear hr hb9
          go_wp2_with fail
          go_ret
          exact ⟨rfl, HB9.out⟩
end Go.Proofs.Ytklmgdiaianlbaa.mt

