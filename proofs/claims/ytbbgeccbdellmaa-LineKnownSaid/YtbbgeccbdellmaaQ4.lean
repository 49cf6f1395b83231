/- LnPSt, LnRck, LnAb, LnChk, LnLit. -/
import Derived.Test.YtbbgeccbdellmaaQ1
import Derived.Test.YtbbgeccbdellmaaQ3
set_option linter.unusedVariables false
set_option linter.unusedSimpArgs false
/- The program's answer: what stays. -/
namespace Go.Proofs.Ytbbgeccbdellmaa.ln
open Go Go.RowKit Go.Sort Go.Proofs.Ytbbgeccbdellmaa.ib Go.Proofs.Ytbbgeccbdellmaa.lg
set_option maxRecDepth 100000

set_option maxHeartbeats 3200000 in
theorem stays_any (A : Option Addr) (c : Nat) (l : List Gd) (v : Value) (L : Ln) (w : World) (hA : GdAt w A l) (hv : LnAt w v L) (hl : l.length ≤ 9223372036854775807) (hm : L.gs.length ≤ 9223372036854775807) :
    Calls Try.prog 19 #[.slice A l.length c, v] w (endI ((stays l L : Nat) : Int) w) := by
  have HCOM : Hid (∀ W, Below w.heap.size w W → Calls Try.prog 17 #[.slice A l.length c, v] W (endI ((common l L.gs : Nat) : Int) W)) := fun W hb => common_any A c l v L W (hA.below hb) (hv.below hb) hl hm
  obtain ⟨B, d, rfl, hB⟩ := hv
  have HX1 : Hid (Blk (w.alloc (.cells #[.int .u64 (L.ep : Int), .int .i64 L.bf, .bool L.ls, .slice B L.gs.length d] 25)) w.heap.size 25 #[.int .u64 (L.ep : Int), .int .i64 L.bf, .bool L.ls, .slice B L.gs.length d]) := Blk.new _ _ _
  have HB0 : Hid (Below w.heap.size w (w.alloc (.cells #[.int .u64 (L.ep : Int), .int .i64 L.bf, .bool L.ls, .slice B L.gs.length d] 25))) := (Below.refl _ w).alloc (Nat.le_refl _) _
  have HA := Lib.hid hA
  have HLE : Hid (common l L.gs ≤ l.length ∧ common l L.gs ≤ L.gs.length) := common_le l L.gs
  have HLS : Hid (common l L.gs < L.gs.length → stays l L = common l L.gs) := fun h => stays_less h
  have HST : Hid (common l L.gs = L.gs.length → ∀ n, common l L.gs ≤ n → n ≤ l.length → (∀ i, common l L.gs ≤ i → i < n → L.ep ≤ (l.getD i (0, 0)).1) → (n = l.length ∨ (l.getD n (0, 0)).1 < L.ep) → stays l L = n) := fun hc n h1 h2 h3 h4 => stays_eq hc h1 h2 h3 h4
  clear hA hB
  obtain ⟨s, hs⟩ : ∃ s, common l L.gs = s := ⟨_, rfl⟩
  obtain ⟨r, hr⟩ : ∃ r, stays l L = r := ⟨_, rfl⟩
  rw [hs] at HCOM HLE HLS HST
  rw [hr] at HLS HST ⊢
  clear hs hr
  generalize L.ep = e1 at *
  generalize L.bf = b1 at *
  generalize L.ls = s1 at *
  generalize L.gs.length = n2 at *
  obtain ⟨n1, hn1⟩ : ∃ k, l.length = k := ⟨_, rfl⟩
  have HN1 := Lib.hid hn1
  rw [hn1] at hl HCOM HLE HST ⊢
  clear hn1
  go_enter Try.func19, Try.ntmps19
  go_wp2_with fail
  refine (HCOM.out _ HB0.out).mono ?_
  rintro e W2 ⟨rfl, hb2⟩
  have HX := Lib.hid (HX1.out.below hb2)
  have HB2 := Lib.hid (below_step HB0.out hb2)
  clear hb2 HX1 HB0 HCOM
  obtain ⟨gx, hgx⟩ : ∃ g, w.heap.size = g := ⟨_, rfl⟩
  rw [hgx] at HX
  try rw [hgx]
  clear hgx
  have q3 := HX.out.cell 3
  simp only [List.getElem?_toArray, List.getElem?_cons_zero, List.getElem?_cons_succ] at q3
  have hlg := HX.out.lt
  by_cases hc : s = n2
  · have HST2 := Lib.hid (HST.out hc)
    clear HST HLS
    subst hc
    have hci : ¬ (s : Int) < (s : Int) := by omega
    go_wp2_with fail
    clear q3
    go_loopw [5] (fun i wr => StRel l e1 s W2 i wr) (fun i _ => n1 - (intOf i).toNat)
    case atStart => exact ⟨s, Nat.le_refl _, by rw [HN1.out]; exact HLE.out.1, rfl, fun j h1 h2 => absurd h1 (by omega), Below.refl _ _⟩
    case round =>
      obtain ⟨k, hk0, hk1, rfl, hp, hB⟩ := hrel
      have HP := Lib.hid hp
      have HBW := Lib.hid hB
      rw [HN1.out] at hk1
      clear hp hB
      have q0 := (HX.out.below HBW.out).cell 0
      simp only [List.getElem?_toArray, List.getElem?_cons_zero, List.getElem?_cons_succ] at q0
      have hlg := (HX.out.below HBW.out).lt
      by_cases h1 : k < n1
      · have h1i : (k : Int) < (n1 : Int) := by omega
        have hkl : k < l.length := by rw [HN1.out]; exact h1
        obtain ⟨b1, o1, rfl, l1, f0, f1⟩ := HA.out.below (below_step HB2.out HBW.out) k hkl
        have HGT : Hid (l.getD k (0, 0) = l[k]) := getD_in hkl
        obtain ⟨x, hx⟩ : ∃ x, l[k] = x := ⟨_, rfl⟩
        rw [hx] at f0 f1 HGT
        clear hx
        by_cases he : e1 ≤ x.1
        · have hei : (e1 : Int) ≤ (x.1 : Int) := by omega
          have HS : Hid (∀ j, s ≤ j → j < k + 1 → e1 ≤ (l.getD j (0, 0)).1) := fun j h1 h2 => by
            by_cases hjk : j = k
            · rw [hjk, HGT.out]; exact he
            · exact HP.out j h1 (by omega)
          clear he
          generalize (x.1 : Int) = x1 at *
          generalize (x.2 : Int) = x2 at *
          go_wp2_with fail
          go_quiet (fail)
          have HB3 := Lib.hid (below_drewN HBW.out nq)
          go_wp2_with fail
          go_roundw
          case rel => exact ⟨k + 1, by omega, by rw [HN1.out]; omega, by go_num, HS.out, HB3.out⟩
          case measure => simp [intOf]; omega
        · have hei : ¬ (e1 : Int) ≤ (x.1 : Int) := by omega
          obtain rfl := HST2.out k hk0 (by omega) HP.out (.inr (by rw [HGT.out]; omega))
          clear he
          generalize (x.1 : Int) = x1 at *
          generalize (x.2 : Int) = x2 at *
          go_wp2_with fail
          go_quiet (fail)
          have HB3 := Lib.hid (below_drewN HBW.out nq)
          go_wp2_with fail
          go_ret
          exact ⟨rfl, below_step HB2.out HB3.out⟩
      · have h1i : ¬ (k : Int) < (n1 : Int) := by omega
        obtain rfl := HST2.out k hk0 (by omega) HP.out (.inl (by omega))
        go_wp2_with fail
        go_quiet (fail)
        have HB3 := Lib.hid (below_drewN HBW.out nq)
        go_wp2_with fail
        go_ret
        exact ⟨rfl, below_step HB2.out HB3.out⟩
  · have hci : (s : Int) < (n2 : Int) := by have := HLE.out.2; omega
    obtain rfl := HLS.out (by have := HLE.out.2; omega)
    clear HST HLS
    go_wp2_with fail
    go_ret
    exact ⟨rfl, HB2.out⟩
end Go.Proofs.Ytbbgeccbdellmaa.ln

/- The document's answer: may a line be. -/
namespace Go.Proofs.Ytbbgeccbdellmaa.ln
open Go Go.RowKit Go.Sort Go.Proofs.Ytbbgeccbdellmaa.ib Go.Proofs.Ytbbgeccbdellmaa.lg
set_option maxRecDepth 100000

def RcRel (L : Ln) (gx gy B : Nat) (vx : Array Value) (w : World) (i : Value) (wr : World) : Prop :=
  ∃ k : Nat, k ≤ L.gs.length ∧ i = .int .i64 (k : Int) ∧ (∀ j, j < k → goodG L j = true) ∧ Below B w wr ∧ Blk wr gx 25 vx ∧ Blk wr gy 34 #[.int .u64 ((aheadG L.gs k).1 : Int), .int .u64 ((aheadG L.gs k).2 : Int)]

set_option maxHeartbeats 3200000 in
theorem rcheck_any (v : Value) (L : Ln) (w : World) (hv : LnAt w v L) :
    Calls Try.prog 11 #[v] w (endI (nCheck L) w) := by
  obtain ⟨A, c, rfl, hA⟩ := hv
  obtain ⟨W1, hW1⟩ : ∃ z, w.alloc (.cells #[.int .u64 (L.ep : Int), .int .i64 L.bf, .bool L.ls, .slice A L.gs.length c] 25) = z := ⟨_, rfl⟩
  have hx1 : Blk W1 w.heap.size 25 #[.int .u64 (L.ep : Int), .int .i64 L.bf, .bool L.ls, .slice A L.gs.length c] := by rw [← hW1]; exact Blk.new _ _ _
  have hb1 : Below w.heap.size w W1 := by rw [← hW1]; exact (Below.refl _ w).alloc (Nat.le_refl _) _
  have HA := Lib.hid (hA.below hb1)
  have HB1 := Lib.hid hb1
  clear hA hb1
  obtain ⟨r, hr⟩ : ∃ r, nCheck L = r := ⟨_, rfl⟩
  rw [hr]
  unfold nCheck at hr
  by_cases h3 : 20 < L.gs.length
  · rw [if_pos h3] at hr
    subst hr
    have h3i : (20 : Int) < (L.gs.length : Int) := by omega
    have q3 := hx1.cell 3
    simp only [List.getElem?_toArray, List.getElem?_cons_zero, List.getElem?_cons_succ] at q3
    have hlg := hx1.lt
    go_enter Try.func11, Try.ntmps11
    go_upto_region 1 with fail
    try rw [hW1]
    clear hW1
    go_wp2_with fail
    go_ret
    exact ⟨rfl, HB1.out⟩
  · rw [if_neg h3] at hr
    have h3i : ¬ (20 : Int) < (L.gs.length : Int) := by omega
    have HR := Lib.hid hr
    clear hr
    have q3 := hx1.cell 3
    simp only [List.getElem?_toArray, List.getElem?_cons_zero, List.getElem?_cons_succ] at q3
    have hlg := hx1.lt
    go_enter Try.func11, Try.ntmps11
    go_upto_region 1 with fail
    try rw [hW1]
    clear hW1
    obtain ⟨gx, hgx⟩ : ∃ g, w.heap.size = g := ⟨_, rfl⟩
    rw [hgx] at hx1 q3 hlg
    try rw [hgx]
    have hgw : w.heap.size ≤ gx := by omega
    clear hgx
    have HX := Lib.hid hx1
    clear hx1
    obtain ⟨n, hn⟩ : ∃ k, L.gs.length = k := ⟨_, rfl⟩
    have HN := Lib.hid hn
    go_wp2_with fail
    go_loopw [4] (fun i wr => RcRel L gx W1.heap.size W1.heap.size #[.int .u64 (L.ep : Int), .int .i64 L.bf, .bool L.ls, .slice A L.gs.length c] W1 i wr) (fun i _ => L.gs.length - (intOf i).toNat)
    case atStart => exact ⟨0, Nat.zero_le _, rfl, fun j hj => absurd hj (by omega), below_new (Below.refl _ _) _, HX.out.below (below_new (Below.refl _ _) _), Blk.new _ _ _⟩
    case round =>
      obtain ⟨k, hk, rfl, hg, hB, hX, hY⟩ := hrel
      have HG := Lib.hid hg
      have HBW := Lib.hid hB
      have HXX := Lib.hid hX
      have HYY := Lib.hid hY
      have hgy : gx < W1.heap.size := hlg
      have x0 := hX.cell 0
      have x1 := hX.cell 1
      have x3 := hX.cell 3
      have y0 := hY.cell 0
      have y1 := hY.cell 1
      have hlx := hX.lt
      have hly := hY.lt
      simp only [List.getElem?_toArray, List.getElem?_cons_zero, List.getElem?_cons_succ] at x0 x1 x3 y0 y1
      clear hg hB hX hY q3 hlg
      rw [HN.out] at x3 hk
      by_cases hlt : k < n
      · have hki : (k : Int) < (n : Int) := by omega
        have hkl : k < L.gs.length := by rw [HN.out]; exact hlt
        obtain ⟨b1, o1, rfl, l1, e0, e1⟩ := HA.out.below HBW.out k hkl
        go_upto_region 7 with fail
        have HGA : Hid (goodG L k = (above L.gs[k] (aheadG L.gs k) && decide (L.gs[k].1 ≤ L.ep))) := by unfold Hid goodG; rw [getD_in hkl]
        have HNO : Hid (goodG L k = false → r = 2) := fun e => by rw [← HR.out, allG_no hkl e]; rfl
        have HAS : Hid (aheadG L.gs (k + 1) = L.gs[k]) := by unfold Hid aheadG; rw [if_neg (by omega), Nat.add_sub_cancel, getD_in hkl]
        obtain ⟨x, hx⟩ : ∃ x, L.gs[k] = x := ⟨_, rfl⟩
        rw [hx] at e0 e1 HGA HAS
        obtain ⟨y, hy⟩ : ∃ y, aheadG L.gs k = y := ⟨_, rfl⟩
        rw [hy] at y0 y1 HGA HYY
        clear hx hy
        have HAB : Hid (∀ d os, Calls Try.prog 26 #[.agg #[.int .u64 (x.1 : Int), .int .u64 (x.2 : Int)], .agg #[.int .u64 (y.1 : Int), .int .u64 (y.2 : Int)]] (grow (redrawn wr d) os) fun e w'' => e = .returned (.bool (above x y)) ∧ ∃ p : Regrown, w'' = grow (redrawn wr p.d) p.os) :=
          fun d os => Calls.regrown_of (rabove_any x y _)
        have cx0 : ∀ d os, (grow (redrawn wr d) os).cell? ⟨gx, 0, none⟩ = some (.int .u64 (L.ep : Int)) := fun d os => cell_regrown x0 d os
        have cx3 : ∀ d os, (grow (redrawn wr d) os).cell? ⟨gx, 3, none⟩ = some (.slice (some ⟨b1, o1, none⟩) n c) := fun d os => cell_regrown x3 d os
        have cy0 : ∀ d os, (grow (redrawn wr d) os).cell? ⟨W1.heap.size, 0, none⟩ = some (.int .u64 (y.1 : Int)) := fun d os => cell_regrown y0 d os
        have cy1 : ∀ d os, (grow (redrawn wr d) os).cell? ⟨W1.heap.size, 1, none⟩ = some (.int .u64 (y.2 : Int)) := fun d os => cell_regrown y1 d os
        have ce0 : ∀ d os, (grow (redrawn wr d) os).cell? ⟨b1, o1 + k * 2, none⟩ = some (.int .u64 (x.1 : Int)) := fun d os => cell_regrown e0 d os
        have ce1 : ∀ d os, (grow (redrawn wr d) os).cell? ⟨b1, o1 + k * 2 + 1, none⟩ = some (.int .u64 (x.2 : Int)) := fun d os => cell_regrown e1 d os
        have HE0 := Lib.hid e0
        have HE1 := Lib.hid e1
        clear x0 x1 x3 y0 y1 e0 e1
        by_cases ha : above x y = true
        · rw [ha] at HAB HGA
          have cM := HAB.out
          clear HAB ha
          by_cases hep : x.1 ≤ L.ep
          · have hei : ¬ (L.ep : Int) < (x.1 : Int) := by omega
            have HGG : Hid (∀ j, j < k + 1 → goodG L j = true) := fun j hj => by
              by_cases hjk : j = k
              · rw [hjk, HGA.out, decide_eq_true hep]; rfl
              · exact HG.out j (by omega)
            clear hep
            refine wp_region_quiet_below rmixed (by kernel_rfl) ?_
            repeat (any_goals (first | go_big_quiet_step (exact cM _ _) | quiet_step (exact cM _ _)))
            refine wpQuiet_nil ?_
            intro _ hw'
            obtain ⟨⟨dq, osq⟩, hw''⟩ := hw'
            subst hw''
            have hb2 := below_regrown wr dq osq
            generalize grow (redrawn wr dq) osq = wr2 at *
            have HB2 := Lib.hid (below_step HBW.out hb2)
            have HX2 := Lib.hid (HXX.out.below hb2)
            have HY2 := Lib.hid (HYY.out.below hb2)
            have z0 := (HE0.out)
            have z1 := (HE1.out)
            rw [← hb2.cell (p := ⟨b1, o1 + k * 2, none⟩) l1] at z0
            rw [← hb2.cell (p := ⟨b1, o1 + k * 2 + 1, none⟩) l1] at z1
            have x3 := HX2.out.cell 3
            simp only [List.getElem?_toArray, List.getElem?_cons_zero, List.getElem?_cons_succ, HN.out] at x3
            have hlx2 := HX2.out.lt
            have hly2 := HY2.out.lt
            have hl12 : b1 < wr2.heap.size := Nat.lt_of_lt_of_le l1 hb2.size
            have f0 := HY2.out.frozen 0
            have f1 := HY2.out.frozen 1
            have y0 := HY2.out.cell 0
            have y1 := HY2.out.cell 1
            simp only [List.getElem?_toArray, List.getElem?_cons_zero, List.getElem?_cons_succ] at y0 y1
            clear hb2 cx0 cx3 cy0 cy1 ce0 ce1 cM
            go_wp2_with fail
            go_roundw
            case rel => exact ⟨k + 1, by omega, by go_num, HGG.out, (HB2.out.setCell (Nat.le_refl _) _).setCell (Nat.le_refl _) _, HX2.out.of_block ((set_oth _ _ _ _ _ (by omega)).trans (set_oth _ _ _ _ _ (by omega))), by rw [HAS.out]; exact (HY2.out.set_ 0 _).set_ 1 _⟩
            case measure => simp [intOf]; omega
          · have hei : (L.ep : Int) < (x.1 : Int) := by omega
            obtain rfl := HNO.out (by rw [HGA.out, decide_eq_false hep]; rfl)
            clear hep
            refine wp_region_quiet_below rmixed (by kernel_rfl) ?_
            repeat (any_goals (first | go_big_quiet_step (exact cM _ _) | quiet_step (exact cM _ _)))
            refine wpQuiet_nil ?_
            intro _ hw'
            obtain ⟨⟨dq, osq⟩, hw''⟩ := hw'
            subst hw''
            have HB2 := Lib.hid (below_step HBW.out (below_regrown wr dq osq))
            go_wp2_with fail
            go_ret
            exact ⟨rfl, below_step HB1.out HB2.out⟩
        · have ha2 : above x y = false := by simpa using ha
          rw [ha2] at HAB HGA
          have cM := HAB.out
          obtain rfl := HNO.out (by rw [HGA.out]; rfl)
          clear HAB ha ha2
          refine wp_region_quiet_below rmixed (by kernel_rfl) ?_
          repeat (any_goals (first | go_big_quiet_step (exact cM _ _) | quiet_step (exact cM _ _)))
          refine wpQuiet_nil ?_
          intro _ hw'
          obtain ⟨⟨dq, osq⟩, hw''⟩ := hw'
          subst hw''
          have HB2 := Lib.hid (below_step HBW.out (below_regrown wr dq osq))
          go_wp2_with fail
          go_ret
          exact ⟨rfl, below_step HB1.out HB2.out⟩
      · have hki : ¬ (k : Int) < (n : Int) := by omega
        have HALL : Hid (allG L = true) := allG_yes (fun i hi => HG.out i (by rw [HN.out] at hi; omega))
        have HRB : Hid ((if (decide (0 ≤ L.bf) && decide (L.bf ≤ (n : Int))) = true then 0 else 2) = r) := by
          unfold Hid
          have := HR.out
          rw [HALL.out, Bool.true_and, HN.out] at this
          exact this
        generalize L.bf = b at *
        by_cases h0 : b < 0
        · obtain rfl : r = 2 := by rw [← HRB.out, decide_eq_false (by omega : ¬ 0 ≤ b)]; rfl
          go_wp2_with fail
          go_ret
          exact ⟨rfl, below_step HB1.out HBW.out⟩
        · by_cases hbn : b ≤ (n : Int)
          · have hbi : ¬ (n : Int) < b := by omega
            obtain rfl : r = 0 := by rw [← HRB.out, decide_eq_true (by omega : 0 ≤ b), decide_eq_true hbn]; rfl
            clear hbn
            go_wp2_with fail
            go_ret
            exact ⟨rfl, below_step HB1.out HBW.out⟩
          · have hbi : (n : Int) < b := by omega
            obtain rfl : r = 2 := by rw [← HRB.out, decide_eq_false hbn, Bool.and_false]; rfl
            clear hbn
            go_wp2_with fail
            go_ret
            exact ⟨rfl, below_step HB1.out HBW.out⟩
end Go.Proofs.Ytbbgeccbdellmaa.ln

/- The program's answers: which guid is above which, are lists of guids alike, are lines. -/
namespace Go.Proofs.Ytbbgeccbdellmaa.ln
open Go Go.RowKit Go.Sort Go.Proofs.Ytbbgeccbdellmaa.ib Go.Proofs.Ytbbgeccbdellmaa.lg
set_option maxRecDepth 100000

set_option maxHeartbeats 1600000 in
theorem above_any (a b : Gd) (w : World) : Calls Try.prog 24 #[gv a, gv b] w (endB (above a b) w) := by
  obtain ⟨a1, a2⟩ := a
  obtain ⟨b1, b2⟩ := b
  have HR : Hid (above (a1, a2) (b1, b2) = (decide ((b1 : Int) < (a1 : Int)) || (decide ((a1 : Int) = (b1 : Int)) && decide ((b2 : Int) < (a2 : Int))))) := by
    unfold Hid above
    simp [Int.ofNat_inj]
  show Calls Try.prog 24 #[.agg #[.int .u64 (a1 : Int), .int .u64 (a2 : Int)], .agg #[.int .u64 (b1 : Int), .int .u64 (b2 : Int)]] w _
  obtain ⟨r, hr⟩ : ∃ r, above (a1, a2) (b1, b2) = r := ⟨_, rfl⟩
  rw [hr] at HR ⊢
  generalize (a1 : Int) = x1 at *
  generalize (a2 : Int) = x2 at *
  generalize (b1 : Int) = y1 at *
  generalize (b2 : Int) = y2 at *
  clear hr
  have hB1 := (Below.refl w.heap.size w).alloc (Nat.le_refl _) (.cells #[.int .u64 x1, .int .u64 x2] 34)
  have HB := Lib.hid (hB1.alloc hB1.size (.cells #[.int .u64 y1, .int .u64 y2] 34))
  clear hB1
  by_cases h1 : y1 < x1
  · have HT : Hid (r = true) := by unfold Hid; rw [HR.out]; simp [h1]
    have hq : (x1 != y1) = true := by simp; omega
    clear HR
    go_enter Try.func24, Try.ntmps24
    go_wp2_with fail
    go_ret
    rw [HT.out]
    exact ⟨by simp [h1], HB.out⟩
  · by_cases h2 : x1 = y1
    · subst h2
      have hq : (x1 != x1) = false := by simp
      by_cases h3 : y2 < x2
      · have HT : Hid (r = true) := by unfold Hid; rw [HR.out]; simp [h3]
        clear HR
        go_enter Try.func24, Try.ntmps24
        go_wp2_with fail
        go_ret
        rw [HT.out]
        exact ⟨by simp [h3], HB.out⟩
      · have HT : Hid (r = false) := by unfold Hid; rw [HR.out]; simp [h3]
        clear HR
        go_enter Try.func24, Try.ntmps24
        go_wp2_with fail
        go_ret
        rw [HT.out]
        exact ⟨by simp [h3], HB.out⟩
    · have HT : Hid (r = false) := by unfold Hid; rw [HR.out]; simp [h1, h2]
      have hq : (x1 == y1) = false := by simpa using h2
      have hq2 : (x1 != y1) = true := by simpa using h2
      clear HR
      go_enter Try.func24, Try.ntmps24
      go_wp2_with fail
      go_ret
      rw [HT.out]
      exact ⟨by simp [h1], HB.out⟩

set_option maxHeartbeats 3200000 in
theorem equal_any (A B : Option Addr) (c d : Nat) (l m : List Gd) (w : World) (hA : GdAt w A l) (hB : GdAt w B m) (hl : l.length ≤ 9223372036854775807) (hm : m.length ≤ 9223372036854775807) :
    Calls Try.prog 27 #[.slice A l.length c, .slice B m.length d] w (endB (decide (l = m)) w) := by
  have HA := Lib.hid hA
  have HB := Lib.hid hB
  clear hA hB
  by_cases hlen : l.length = m.length
  · obtain ⟨len, hln⟩ : ∃ k, l.length = k := ⟨_, rfl⟩
    have HLL := Lib.hid hln
    have HLM : Hid (m.length = len) := by unfold Hid; rw [← hln, hlen]
    rw [hln] at hl
    rw [← hlen, hln]
    have hne : ((len : Int) != (len : Int)) = false := by simp
    clear hln hlen hm
    go_enter Try.func27, Try.ntmps27
    go_wp2_with fail
    go_loopw [5, 13] (fun _ i wr => SgRel l m w i wr) (fun _ i _ => len - (intOf i).toNat)
    case atStart => exact ⟨0, Nat.zero_le _, rfl, by rw [List.take_zero, List.take_zero], Below.refl _ _⟩
    case round =>
      obtain ⟨k, hk, rfl, ht, hB⟩ := hrel
      have HT := Lib.hid ht
      have HBW := Lib.hid hB
      rw [HLL.out] at hk
      clear ht hB
      by_cases hlt : k < len
      · have hki : (k : Int) < (len : Int) := by omega
        have hkl : k < l.length := by rw [HLL.out]; exact hlt
        have hkm : k < m.length := by rw [HLM.out]; exact hlt
        obtain ⟨b1, o1, rfl, l1, e0, e1⟩ := HA.out.below HBW.out k hkl
        obtain ⟨b2, o2, rfl, l2, f0, f1⟩ := HB.out.below HBW.out k hkm
        have HNE : Hid (l[k] ≠ m[k] → l ≠ m) := fun h e => h (by subst e; rfl)
        have HTS : Hid (l[k] = m[k] → l.take (k + 1) = m.take (k + 1)) := fun e => gtake_snoc hkl hkm HT.out e
        obtain ⟨x, hx⟩ : ∃ x, l[k] = x := ⟨_, rfl⟩
        obtain ⟨y, hy⟩ : ∃ y, m[k] = y := ⟨_, rfl⟩
        rw [hx] at e0 e1 HNE HTS
        rw [hy] at f0 f1 HNE HTS
        clear hx hy
        by_cases he : x = y
        · have HS := Lib.hid (HTS.out he)
          subst he
          clear HTS HNE
          generalize (x.1 : Int) = x1 at *
          generalize (x.2 : Int) = x2 at *
          go_wp2_with fail
          go_quiet (fail)
          have HB2 := Lib.hid (below_drewN HBW.out nq)
          go_wp2_with fail
          go_roundw
          case rel => exact ⟨k + 1, by rw [HLL.out]; omega, by go_num, HS.out, HB2.out⟩
          case measure => simp [intOf]; omega
        · have HS := Lib.hid (decide_eq_false (HNE.out he))
          have hd := gd_ne he
          clear he HTS HNE
          generalize (x.1 : Int) = x1 at *
          generalize (x.2 : Int) = x2 at *
          generalize (y.1 : Int) = y1 at *
          generalize (y.2 : Int) = y2 at *
          rcases hd with hd | ⟨rfl, hd⟩
          all_goals
            go_wp2_with fail
            go_quiet (fail)
            have HB2 := Lib.hid (below_drewN HBW.out nq)
            go_wp2_with fail
            go_ret
            exact ⟨by rw [HS.out]; rfl, HB2.out⟩
      · have hki : ¬ (k : Int) < (len : Int) := by omega
        have HEQ : Hid (decide (l = m) = true) := by
          unfold Hid
          have := HT.out
          rw [List.take_of_length_le (by rw [HLL.out]; omega), List.take_of_length_le (by rw [HLM.out]; omega)] at this
          simpa using this
        go_wp2_with fail
        go_ret
        exact ⟨by rw [HEQ.out]; rfl, HBW.out⟩
  · have HN : Hid (decide (l = m) = false) := by
      unfold Hid
      simp only [decide_eq_false_iff_not]
      rintro rfl
      exact hlen rfl
    have hli : ((l.length : Int) != (m.length : Int)) = true := by simp; omega
    clear hlen
    go_enter Try.func27, Try.ntmps27
    go_wp2_with fail
    go_ret
    exact ⟨by rw [HN.out]; rfl, Below.refl _ _⟩

set_option maxHeartbeats 3200000 in
theorem same_any (v u : Value) (L M : Ln) (w : World) (hv : LnAt w v L) (hu : LnAt w u M) (hl : L.gs.length ≤ 9223372036854775807) (hm : M.gs.length ≤ 9223372036854775807) :
    Calls Try.prog 12 #[v, u] w (endB (decide (L = M)) w) := by
  obtain ⟨A, c, rfl, hA⟩ := hv
  obtain ⟨B, d, rfl, hB⟩ := hu
  have HG : Hid (∀ W, Below w.heap.size w W → Calls Try.prog 27 #[.slice A L.gs.length c, .slice B M.gs.length d] W (endB (decide (L.gs = M.gs)) W)) := fun W hb => equal_any A B c d _ _ W (hA.below hb) (hB.below hb) hl hm
  have HB2 := Lib.hid (below_new (below_new (Below.refl w.heap.size w) (.cells #[.int .u64 (L.ep : Int), .int .i64 L.bf, .bool L.ls, .slice A L.gs.length c] 25)) (.cells #[.int .u64 (M.ep : Int), .int .i64 M.bf, .bool M.ls, .slice B M.gs.length d] 25))
  clear hA hB hl hm
  by_cases he : L = M
  · subst he
    have HT : Hid (decide (L = L) = true) := decide_eq_true rfl
    rw [decide_eq_true (rfl : L.gs = L.gs)] at HG
    generalize (L.ep : Int) = e1 at *
    generalize L.bf = b1 at *
    generalize L.ls = s at *
    generalize L.gs.length = n1 at *
    have q1 : (e1 == e1) = true := by simp
    have q2 : (b1 == b1) = true := by simp
    have q3 : (s == s) = true := by simp
    rw [HT.out]
    go_enter Try.func12, Try.ntmps12
    go_wp2_with fail
    refine (HG.out _ HB2.out).mono ?_
    rintro e W3 ⟨rfl, hb3⟩
    have HB3 := Lib.hid (below_step HB2.out hb3)
    clear hb3
    go_wp2_with fail
    go_ret
    exact ⟨rfl, HB3.out⟩
  · have HT : Hid (decide (L = M) = false) := decide_eq_false he
    have hd := ln_ne he
    rw [HT.out]
    clear he HT
    obtain ⟨q, hq⟩ : ∃ q, decide (L.gs = M.gs) = q := ⟨_, rfl⟩
    rw [hq] at HG
    have hd : ¬ (L.ep : Int) = (M.ep : Int) ∨ (L.ep : Int) = (M.ep : Int) ∧ (¬ L.bf = M.bf ∨ L.bf = M.bf ∧ ((L.ls == M.ls) = false ∨ L.ls = M.ls ∧ q = false)) := by
      rcases hd with h | ⟨h1, h | ⟨h2, h | ⟨h3, h⟩⟩⟩
      · exact .inl h
      · exact .inr ⟨h1, .inl h⟩
      · exact .inr ⟨h1, .inr ⟨h2, .inl (by simpa using h)⟩⟩
      · exact .inr ⟨h1, .inr ⟨h2, .inr ⟨h3, by rw [← hq]; exact decide_eq_false h⟩⟩⟩
    clear hq
    generalize (L.ep : Int) = e1 at *
    generalize (M.ep : Int) = e2 at *
    generalize L.bf = b1 at *
    generalize M.bf = b2 at *
    generalize L.ls = s1 at *
    generalize M.ls = s2 at *
    generalize L.gs.length = n1 at *
    generalize M.gs.length = n2 at *
    rcases hd with h | ⟨rfl, h | ⟨rfl, h | ⟨rfl, rfl⟩⟩⟩
    · have q1 : (e1 == e2) = false := by simpa using h
      clear h
      go_enter Try.func12, Try.ntmps12
      go_wp2_with fail
      go_ret
      exact ⟨rfl, HB2.out⟩
    · have q1 : (e1 == e1) = true := by simp
      have q2 : (b1 == b2) = false := by simpa using h
      clear h
      go_enter Try.func12, Try.ntmps12
      go_wp2_with fail
      go_ret
      exact ⟨rfl, HB2.out⟩
    · have q1 : (e1 == e1) = true := by simp
      have q2 : (b1 == b1) = true := by simp
      go_enter Try.func12, Try.ntmps12
      go_wp2_with fail
      go_ret
      exact ⟨rfl, HB2.out⟩
    · have q1 : (e1 == e1) = true := by simp
      have q2 : (b1 == b1) = true := by simp
      have q3 : (s1 == s1) = true := by simp
      go_enter Try.func12, Try.ntmps12
      go_wp2_with fail
      refine (HG.out _ HB2.out).mono ?_
      rintro e W3 ⟨rfl, hb3⟩
      have HB3 := Lib.hid (below_step HB2.out hb3)
      clear hb3
      go_wp2_with fail
      go_ret
      exact ⟨rfl, HB3.out⟩
end Go.Proofs.Ytbbgeccbdellmaa.ln

/- The program's answer: may a line be. -/
namespace Go.Proofs.Ytbbgeccbdellmaa.ln
open Go Go.RowKit Go.Sort Go.Proofs.Ytbbgeccbdellmaa.ib Go.Proofs.Ytbbgeccbdellmaa.lg
set_option maxRecDepth 100000

/-- The closure's two variables: the line, and the guid ahead. -/
structure CkAt (w W : World) (vx : Array Value) (a : Gd) : Prop where
  x : Blk W w.heap.size 25 vx
  a : Blk W (w.heap.size + 1) 34 #[.int .u64 (a.1 : Int), .int .u64 (a.2 : Int)]
  b : Below w.heap.size w W
def fNot (w : World) : Value := .func (.func 23) #[] #[.pointer (some ⟨w.heap.size + 1, 0, none⟩), .pointer (some ⟨w.heap.size, 0, none⟩)]
def okG (e : Nat) (x a : Gd) : Bool := above x a && decide (x.1 ≤ e)
theorem CkAt.below {w W W' : World} {vx : Array Value} {a : Gd} (h : CkAt w W vx a) (hb : Below W.heap.size W W') : CkAt w W' vx a := ⟨h.x.below hb, h.a.below hb, below_step h.b hb⟩

set_option maxHeartbeats 1600000 in
theorem not_any (e : Nat) (b : Int) (s : Bool) (sl : Value) (x a : Gd) (w W : World) (h : CkAt w W #[.int .u64 (e : Int), .int .i64 b, .bool s, sl] a) :
    Calls Try.prog 23 #[.agg #[.int .u64 (x.1 : Int), .int .u64 (x.2 : Int)], .pointer (some ⟨w.heap.size + 1, 0, none⟩), .pointer (some ⟨w.heap.size, 0, none⟩)] W fun en W' => en = .returned (.bool (!okG e x a)) ∧ CkAt w W' #[.int .u64 (e : Int), .int .i64 b, .bool s, sl] x := by
  have HC := Lib.hid h
  have a0 := h.a.cell 0
  have a1 := h.a.cell 1
  have x0 := h.x.cell 0
  have fa0 := h.a.frozen 0
  have fa1 := h.a.frozen 1
  have hla := h.a.lt
  have hlx := h.x.lt
  simp only [List.getElem?_toArray, List.getElem?_cons_zero, List.getElem?_cons_succ] at a0 a1 x0
  have hc1 : CkAt w ((W.setCell ⟨w.heap.size + 1, 0, none⟩ (.int .u64 (x.1 : Int))).setCell ⟨w.heap.size + 1, 1, none⟩ (.int .u64 (x.2 : Int))) #[.int .u64 (e : Int), .int .i64 b, .bool s, sl] x := ⟨h.x.of_block ((set_oth _ _ _ _ _ (by omega)).trans (set_oth _ _ _ _ _ (by omega))), (h.a.set_ 0 _).set_ 1 _, (h.b.setCell (show w.heap.size ≤ w.heap.size + 1 by omega) _).setCell (show w.heap.size ≤ w.heap.size + 1 by omega) _⟩
  have hs1 : ((W.setCell ⟨w.heap.size + 1, 0, none⟩ (.int .u64 (x.1 : Int))).setCell ⟨w.heap.size + 1, 1, none⟩ (.int .u64 (x.2 : Int))).heap.size = W.heap.size := by simp
  obtain ⟨hk1, hk2, hb2⟩ := two_new ((W.setCell ⟨w.heap.size + 1, 0, none⟩ (.int .u64 (x.1 : Int))).setCell ⟨w.heap.size + 1, 1, none⟩ (.int .u64 (x.2 : Int))) #[.int .u64 (x.1 : Int), .int .u64 (x.2 : Int)] #[.int .u64 (a.1 : Int), .int .u64 (a.2 : Int)] 34 34
  rw [hs1] at hk1 hk2
  have hc2 := hc1.below hb2
  clear hc1 hb2 hs1
  obtain ⟨W2, hW2⟩ : ∃ z, ((((W.setCell ⟨w.heap.size + 1, 0, none⟩ (.int .u64 (x.1 : Int))).setCell ⟨w.heap.size + 1, 1, none⟩ (.int .u64 (x.2 : Int))).alloc (.cells #[.int .u64 (x.1 : Int), .int .u64 (x.2 : Int)] 34)).alloc (.cells #[.int .u64 (a.1 : Int), .int .u64 (a.2 : Int)] 34)) = z := ⟨_, rfl⟩
  rw [hW2] at hk1 hk2 hc2
  have HK1 := Lib.hid hk1
  have HK2 := Lib.hid hk2
  have HC2 := Lib.hid hc2
  clear h hk1 hk2 hc2
  go_enter Try.func23, Try.ntmps23
  go_upto_region 3 with fail
  try rw [hW2]
  clear hW2 a0 a1 x0 fa0 fa1 hla hlx HC
  obtain ⟨gn, hgn⟩ : ∃ g, W.heap.size = g := ⟨_, rfl⟩
  rw [hgn] at HK1 HK2
  try rw [hgn]
  clear hgn
  have k10 := HK1.out.cell 0
  have k11 := HK1.out.cell 1
  have k20 := HK2.out.cell 0
  have k21 := HK2.out.cell 1
  have hlk1 := HK1.out.lt
  have hlk2 := HK2.out.lt
  simp only [List.getElem?_toArray, List.getElem?_cons_zero, List.getElem?_cons_succ] at k10 k11 k20 k21
  have HAB := Lib.hid (above_any x a W2)
  have HOK : Hid (okG e x a = (above x a && decide (x.1 ≤ e))) := rfl
  cases ha : above x a
  · rw [ha] at HAB HOK
    go_wp2_with fail
    refine HAB.out.mono ?_
    rintro en W3 ⟨rfl, hb3⟩
    have HC3 := Lib.hid (HC2.out.below hb3)
    clear hb3 k10 k11 k20 k21 hlk1 hlk2
    go_wp2_with fail
    go_ret
    exact ⟨by rw [HOK.out]; rfl, HC3.out⟩
  · rw [ha] at HAB HOK
    go_wp2_with fail
    refine HAB.out.mono ?_
    rintro en W3 ⟨rfl, hb3⟩
    have HC3 := Lib.hid (HC2.out.below hb3)
    have HK3 := Lib.hid (HK1.out.below hb3)
    clear hb3 k10 k11 k20 k21 hlk1 hlk2
    have k10 := HK3.out.cell 0
    have x0 := HC3.out.x.cell 0
    have hlk1 := HK3.out.lt
    have hlx := HC3.out.x.lt
    simp only [List.getElem?_toArray, List.getElem?_cons_zero, List.getElem?_cons_succ] at k10 x0
    by_cases hxe : x.1 ≤ e
    · have hxi : ¬ e < x.1 := by omega
      rw [decide_eq_true hxe] at HOK
      clear hxe
      go_wp2_with fail
      go_ret
      exact ⟨by rw [HOK.out]; rfl, HC3.out⟩
    · have hxi : e < x.1 := by omega
      rw [decide_eq_false hxe] at HOK
      clear hxe
      go_wp2_with fail
      go_ret
      exact ⟨by rw [HOK.out]; rfl, HC3.out⟩

/-- As far as k all may be. -/
def IxRel (L : Ln) (w : World) (vx : Array Value) (i : Value) (wr : World) : Prop :=
  ∃ k : Nat, k ≤ L.gs.length ∧ i = .int .i64 (k : Int) ∧ CkAt w wr vx (aheadG L.gs k) ∧ (∀ j, j < k → goodG L j = true)
theorem okG_good {L : Ln} {k : Nat} (h : k < L.gs.length) : goodG L k = okG L.ep L.gs[k] (aheadG L.gs k) := by
  unfold goodG okG
  rw [getD_in h]
theorem aheadG_succ {l : List Gd} {k : Nat} (h : k < l.length) : aheadG l (k + 1) = l[k] := by
  unfold aheadG
  rw [if_neg (by omega), Nat.add_sub_cancel, getD_in h]

set_option maxHeartbeats 1600000 in
theorem index_any (A : Option Addr) (c : Nat) (b : Int) (s : Bool) (sl : Value) (L : Ln) (w W : World) (h : CkAt w W #[.int .u64 (L.ep : Int), .int .i64 b, .bool s, sl] (0, 0)) (hA : GdAt w A L.gs) (hl : L.gs.length ≤ 9223372036854775807) :
    Calls Try.prog 33 #[.slice A L.gs.length c, fNot w] W fun en W' => ∃ n : Int, en = .returned (.int .i64 n) ∧ decide (n ≥ 0) = !allG L ∧ Below w.heap.size w W' := by
  have HC := Lib.hid h
  have HA := Lib.hid hA
  have hln : ∃ n, L.gs.length = n := ⟨_, rfl⟩
  obtain ⟨n, hn⟩ := hln
  have HN := Lib.hid hn
  rw [hn] at hl ⊢
  clear hn h hA
  unfold fNot
  go_enter Try.func33, Try.ntmps33
  go_wp2_with fail
  go_loopw [5, 8] (fun _ i wr => IxRel L w #[.int .u64 (L.ep : Int), .int .i64 b, .bool s, sl] i wr) (fun _ i _ => n - (intOf i).toNat)
  case atStart => exact ⟨0, Nat.zero_le _, rfl, HC.out, fun j hj => absurd hj (by omega)⟩
  case round =>
    obtain ⟨k, hk, rfl, hc, hg⟩ := hrel
    have HCK := Lib.hid hc
    have HG := Lib.hid hg
    rw [HN.out] at hk
    clear hc hg HC
    by_cases hlt : k < n
    · have hki : (k : Int) < (n : Int) := by omega
      have hkl : k < L.gs.length := by rw [HN.out]; exact hlt
      obtain ⟨b1, o1, rfl, l1, e0, e1⟩ := HA.out.below HCK.out.b k hkl
      have HOK := Lib.hid (okG_good hkl)
      have HAS := Lib.hid (aheadG_succ hkl)
      obtain ⟨x, hx⟩ : ∃ x, L.gs[k] = x := ⟨_, rfl⟩
      rw [hx] at e0 e1 HOK HAS
      clear hx
      go_wp2_with fail
      refine (not_any L.ep b s sl x (aheadG L.gs k) w wr HCK.out).mono ?_
      rintro en W3 ⟨rfl, hc3⟩
      have HC3 := Lib.hid hc3
      clear hc3 e0 e1 l1
      cases hok : okG L.ep x (aheadG L.gs k)
      · have HNO : Hid (allG L = false) := allG_no hkl (by rw [HOK.out]; exact hok)
        clear hok
        go_wp2_with fail
        go_ret
        exact ⟨_, rfl, by rw [HNO.out]; simp, HC3.out.b⟩
      · have HGG : Hid (∀ j, j < k + 1 → goodG L j = true) := fun j hj => by
          by_cases hjk : j = k
          · rw [hjk, HOK.out]; exact hok
          · exact HG.out j (by omega)
        clear hok
        go_wp2_with fail
        go_roundw
        case rel => exact ⟨k + 1, by rw [HN.out]; omega, by go_num, by rw [HAS.out]; exact HC3.out, HGG.out⟩
        case measure => simp [intOf]; omega
    · have hki : ¬ (k : Int) < (n : Int) := by omega
      have HALL : Hid (allG L = true) := allG_yes (fun i hi => HG.out i (by rw [HN.out] at hi; omega))
      go_wp2_with fail
      go_ret
      exact ⟨_, rfl, by rw [HALL.out]; rfl, HCK.out.b⟩

theorem contains_any (A : Option Addr) (c : Nat) (b : Int) (s : Bool) (sl : Value) (L : Ln) (w W : World) (h : CkAt w W #[.int .u64 (L.ep : Int), .int .i64 b, .bool s, sl] (0, 0)) (hA : GdAt w A L.gs) (hl : L.gs.length ≤ 9223372036854775807) :
    Calls Try.prog 25 #[.slice A L.gs.length c, fNot w] W fun en W' => en = .returned (.bool (!allG L)) ∧ Below w.heap.size w W' := by
  have HI := Lib.hid (index_any A c b s sl L w W h hA hl)
  clear h hA
  unfold fNot at *
  go_enter Try.func25, Try.ntmps25
  go_wp2_with fail
  refine HI.out.mono ?_
  rintro en W3 ⟨n, rfl, hn, hb⟩
  have HN := Lib.hid hn
  have HB := Lib.hid hb
  clear hn hb
  go_wp2_with fail
  go_ret
  exact ⟨by rw [← HN.out]; rfl, HB.out⟩

set_option maxHeartbeats 3200000 in
theorem check_any (v : Value) (L : Ln) (w : World) (hv : LnAt w v L) (hl : L.gs.length ≤ 9223372036854775807) :
    Calls Try.prog 10 #[v] w (endI (nCheck L) w) := by
  obtain ⟨A, c, rfl, hA⟩ := hv
  obtain ⟨W1, hW1⟩ : ∃ z, w.alloc (.cells #[.int .u64 (L.ep : Int), .int .i64 L.bf, .bool L.ls, .slice A L.gs.length c] 25) = z := ⟨_, rfl⟩
  have hx1 : Blk W1 w.heap.size 25 #[.int .u64 (L.ep : Int), .int .i64 L.bf, .bool L.ls, .slice A L.gs.length c] := by rw [← hW1]; exact Blk.new _ _ _
  have hb1 : Below w.heap.size w W1 := by rw [← hW1]; exact (Below.refl _ w).alloc (Nat.le_refl _) _
  have hs1 : W1.heap.size = w.heap.size + 1 := by rw [← hW1]; simp
  have HA := Lib.hid hA
  have HX := Lib.hid hx1
  have HB1 := Lib.hid hb1
  have HS := Lib.hid hs1
  obtain ⟨x0, x1, x2, x3⟩ := blk_ln hx1
  have hlx := hx1.lt
  have hc2 : CkAt w (W1.alloc (.cells #[.int .u64 0, .int .u64 0] 34)) #[.int .u64 (L.ep : Int), .int .i64 L.bf, .bool L.ls, .slice A L.gs.length c] (0, 0) :=
    ⟨hx1.below ((Below.refl _ _).alloc (Nat.le_refl _) _), by rw [← hs1]; exact Blk.new _ _ _, hb1.alloc hb1.size _⟩
  have HC := Lib.hid hc2
  clear hx1 hb1 hA hc2
  obtain ⟨r, hr⟩ : ∃ r, nCheck L = r := ⟨_, rfl⟩
  rw [hr]
  unfold nCheck at hr
  have HR := Lib.hid hr
  clear hr
  go_enter Try.func10, Try.ntmps10
  go_upto_region 1 with fail
  try rw [hW1]
  clear hW1 hs1
  by_cases h3 : 20 < L.gs.length
  · obtain rfl : r = 3 := by rw [← HR.out, if_pos h3]
    have h3i : (20 : Int) < (L.gs.length : Int) := by omega
    clear h3
    go_wp2_with fail
    go_ret
    exact ⟨rfl, HB1.out⟩
  · have HR2 : Hid ((if (allG L && (decide (0 ≤ L.bf) && decide (L.bf ≤ (L.gs.length : Int)))) = true then (0 : Int) else 2) = r) := by unfold Hid; rw [← HR.out, if_neg h3]
    have h3i : ¬ (20 : Int) < (L.gs.length : Int) := by omega
    clear h3 HR
    by_cases h0 : L.bf < 0
    · obtain rfl : r = 2 := by rw [← HR2.out, decide_eq_false (by omega : ¬ 0 ≤ L.bf)]; simp
      go_wp2_with fail
      go_ret
      exact ⟨rfl, HB1.out⟩
    · by_cases hbn : (L.gs.length : Int) < L.bf
      · obtain rfl : r = 2 := by rw [← HR2.out, decide_eq_false (by omega : ¬ L.bf ≤ (L.gs.length : Int))]; simp
        go_wp2_with fail
        go_ret
        exact ⟨rfl, HB1.out⟩
      · have HR3 : Hid ((if allG L = true then (0 : Int) else 2) = r) := by
          unfold Hid
          have h := HR2.out
          rw [decide_eq_true (by omega : 0 ≤ L.bf), decide_eq_true (by omega : L.bf ≤ (L.gs.length : Int))] at h
          simpa using h
        clear HR2
        go_upto_region 7 with fail
        generalize W1.alloc (.cells #[.int .u64 0, .int .u64 0] 34) = W2 at *
        try rw [HS.out]
        have HCO := Lib.hid (contains_any A c L.bf L.ls (.slice A L.gs.length c) L w W2 HC.out HA.out hl)
        unfold fNot at HCO
        obtain ⟨-, -, -, x3'⟩ := blk_ln HC.out.x
        have hlx' := HC.out.x.lt
        clear x0 x1 x2 x3 hlx HX
        go_wp2_with fail
        refine HCO.out.mono ?_
        rintro en W3 ⟨rfl, hb3⟩
        have HB3 := Lib.hid hb3
        clear hb3
        cases ha : allG L
        · rw [ha] at HR3
          obtain rfl : r = 2 := by rw [← HR3.out]; rfl
          go_wp2_with fail
          go_ret
          exact ⟨rfl, HB3.out⟩
        · rw [ha] at HR3
          obtain rfl : r = 0 := by rw [← HR3.out]; rfl
          go_wp2_with fail
          go_ret
          exact ⟨rfl, HB3.out⟩
end Go.Proofs.Ytbbgeccbdellmaa.ln

/- Guids, lines and lists as the statements make them. -/
namespace Go.Proofs.Ytbbgeccbdellmaa.ln
open Go Go.RowKit Go.Sort Go.Proofs.Ytbbgeccbdellmaa.ib Go.Proofs.Ytbbgeccbdellmaa.lg
set_option maxRecDepth 100000

theorem guid_any (e c : Nat) (w : World) : Calls Try.prog 21 #[.int .u64 (e : Int), .int .u64 (c : Int)] w (endV (.agg #[.int .u64 (e : Int), .int .u64 (c : Int)]) w) := by
  go_enter Try.func21, Try.ntmps21
  go_wp2_with fail
  have q0 : (w.alloc (.cells #[.int .u64 (e : Int), .int .u64 (c : Int)] 34)).cell? ⟨w.heap.size, 0, none⟩ = some (.int .u64 (e : Int)) := (Blk.new w _ _).cell 0
  have q1 : (w.alloc (.cells #[.int .u64 (e : Int), .int .u64 (c : Int)] 34)).cell? ⟨w.heap.size, 1, none⟩ = some (.int .u64 (c : Int)) := (Blk.new w _ _).cell 1
  refine bodyPost_ret (v := .agg #[.int .u64 (e : Int), .int .u64 (c : Int)]) (by simp [results, Try.results21, go_sem, q0, q1]) rfl ?_
  exact ⟨rfl, (Below.refl w.heap.size w).alloc (Nat.le_refl _) _⟩
theorem of_any (e : Nat) (s : Bool) (A : Option Addr) (n c : Nat) (w : World) : Calls Try.prog 22 #[.int .u64 (e : Int), .bool s, .slice A n c] w (endV (.agg #[.int .u64 (e : Int), .int .i64 0, .bool s, .slice A n c]) w) := by
  go_enter Try.func22, Try.ntmps22
  go_wp2_with fail
  obtain ⟨q0, q1, q2, q3⟩ := blk_ln (Blk.new w 25 #[.int .u64 (e : Int), .int .i64 0, .bool s, .slice A n c])
  refine bodyPost_ret (v := .agg #[.int .u64 (e : Int), .int .i64 0, .bool s, .slice A n c]) (by simp [results, Try.results22, go_sem, q0, q1, q2, q3]) rfl ?_
  exact ⟨rfl, (Below.refl w.heap.size w).alloc (Nat.le_refl _) _⟩

/-- A literal of guids. -/
theorem gd_lit {w : World} {g : Nat} {l : List Gd} (h : Blk w g 34 (gdRow l).toArray) (hl : l.length ≤ 100000) : GdL w (some ⟨g, 0, none⟩) l l.length := by
  have ho : OGd w 0 (.slice (some ⟨g, 0, none⟩) l.length l.length) l := OGd.blk h (Nat.zero_le _) hl
  obtain ⟨A, c, hv, hE, _⟩ := OGd.viewL ho
  simp only [Value.slice.injEq, true_and] at hv
  obtain ⟨rfl, rfl⟩ := hv
  exact hE
theorem ogd_gdl {w : World} {B : Nat} {A : Option Addr} {n c : Nat} {l : List Gd} (h : OGd w B (.slice A n c) l) : GdL w A l c := by
  obtain ⟨A', c', e, h2, _⟩ := OGd.viewL h
  simp only [Value.slice.injEq] at e
  obtain ⟨rfl, rfl, rfl⟩ := e
  exact h2
/-- A call's line, with its list as a slice. -/
theorem ln_word {w : World} {B : Nat} {a b s u : Value} {l : List Gd} (h : OGd w B u l) : ∃ A c, (Value.agg #[a, b, s, u]) = .agg #[a, b, s, .slice A l.length c] ∧ OGd w 0 (.slice A l.length c) l := by
  obtain ⟨A, c, rfl, _, _⟩ := OGd.viewL h
  exact ⟨A, c, rfl, ogd_low h (Nat.zero_le _)⟩
/-- A row of guids is kept by what is stored in a block of lines. -/
theorem ogd_put {W : World} {B g : Nat} {v : Value} {l : List Gd} {cs : Array Value} (h : OGd W B v l) (hg : Blk W g 25 cs) (a b c d : Value) : OGd (lnP W g a b c d) B v l :=
  row_of_block h (fun j hj => lnP_oth _ _ _ _ _ _ (own_type h hg (by decide) j hj))
theorem merge_is {v u : Value} {L M R : Ln} {w : World} (hR : lMerge L M = R) (hv : LnL w v L) (hu : LnL w u M) (hz : szL L) (hy : szL M) : Calls Try.prog 15 #[v, u] w (endLn R w) := by
  rw [← hR]
  exact merge_any v u L M w hv hu hz hy
theorem common_is {A : Option Addr} {c : Nat} {l : List Gd} {v : Value} {L : Ln} {n : Nat} {w : World} (hR : common l L.gs = n) (hA : GdL w A l c) (hv : LnL w v L) (hl : l.length ≤ 9223372036854775807) (hm : L.gs.length ≤ 9223372036854775807) :
    Calls Try.prog 17 #[.slice A l.length c, v] w (endI ((n : Nat) : Int) w) := by
  rw [← hR]
  exact common_any A c l v L w hA.gds hv.at hl hm
theorem stays_is {A : Option Addr} {c : Nat} {l : List Gd} {v : Value} {L : Ln} {n : Nat} {w : World} (hR : stays l L = n) (hA : GdL w A l c) (hv : LnL w v L) (hl : l.length ≤ 9223372036854775807) (hm : L.gs.length ≤ 9223372036854775807) :
    Calls Try.prog 19 #[.slice A l.length c, v] w (endI ((n : Nat) : Int) w) := by
  rw [← hR]
  exact stays_any A c l v L w hA.gds hv.at hl hm
end Go.Proofs.Ytbbgeccbdellmaa.ln

