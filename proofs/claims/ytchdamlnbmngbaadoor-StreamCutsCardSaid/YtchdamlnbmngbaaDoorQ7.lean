/- StRCut, StMade. -/
import Derived.Test.YtchdamlnbmngbaaDoorQ6
set_option linter.unusedVariables false
set_option linter.unusedSimpArgs false
/- A part is cut: the document's way. -/
namespace Go.Proofs.YtchdamlnbmngbaaDoor.st
open Go Go.RowKit Go.Sort Go.Proofs.YtchdamlnbmngbaaDoor.ib Go.Proofs.YtchdamlnbmngbaaDoor.wi Go.Proofs.YtchdamlnbmngbaaDoor.mt
open Go.Proofs.YtchdamlnbmngbaaDoor.ch (ChL OChs chVals infoCh)
set_option maxRecDepth 100000

def RcG (gp : Nat) (A5 : Option Addr) (j c5 b oo n cp q : Nat) (x1 : Int) (S : ByteArray) : Nat → Value → World → Prop
  | 0, v, _ => v = .pointer (some ⟨gp, 6, none⟩)
  | 1, v, _ => v = .slice A5 j c5
  | 2, v, _ => v = .slice (some ⟨b, oo, none⟩) n cp
  | 3, v, _ => v = .int .i64 (q : Int)
  | 4, v, _ => v = .pointer (some ⟨b, oo + q * 2, none⟩)
  | 5, v, _ => v = .agg #[.int .i64 x1, .string S]
  | 6, v, W => ∃ g, v = .slice (some ⟨g, 0, none⟩) 1 1 ∧ Blk W g 36 #[.int .i64 x1, .string S]
  | _, _, _ => True
theorem RcG_mono (gp : Nat) (A5 : Option Addr) (j c5 b oo n cp q : Nat) (x1 : Int) (S : ByteArray) (i : Nat) (v : Value) (w w' : World) (hi : i < 7) (h : RcG gp A5 j c5 b oo n cp q x1 S i v w) (hb : Below w.heap.size w w') : RcG gp A5 j c5 b oo n cp q x1 S i v w' := by
  match i, hi, h with
  | 0, _, h | 1, _, h | 2, _, h | 3, _, h | 4, _, h | 5, _, h => exact h
  | 6, _, ⟨g, h1, h2⟩ => exact ⟨g, h1, h2.below hb⟩
  | j + 7, hi, _ => exact absurd hi (by omega)

/-- A part that is being made: its block, the result's, its changes so far. -/
structure CutS (w W : World) (gp g2 : Nat) (g t : Gd) (fr all : Int) (v : Value) (l : List Ch) : Prop where
  m : Blk W gp 30 (pC g t fr all v)
  res : Blk W g2 30 pZ
  row : OChs W w.heap.size v l
  below : Below w.heap.size w W
  ne : gp ≠ g2
  lo : w.heap.size ≤ gp ∧ w.heap.size ≤ g2
section
variable {w W W' : World} {gp g2 : Nat} {g t : Gd} {fr all : Int} {v : Value} {l : List Ch}
theorem CutS.grow (h : CutS w W gp g2 g t fr all v l) (hb : Below W.heap.size W W') : CutS w W' gp g2 g t fr all v l :=
  ⟨h.m.below hb, h.res.below hb, row_of_block h.row (fun j hj => hb.block j (h.row.lt j hj).2), below_step h.below hb, h.ne, h.lo⟩
theorem CutS.own (h : CutS w W gp g2 g t fr all v l) {j : Nat} (hl : l.length = j) : W.ownsRow w.heap.size 36 2 v j (chVals l) := by
  have := h.row
  unfold OChs at this
  rwa [hl] at this
theorem CutS.push {x : Ch} {v' : Value} {j : Nat} (h : CutS w W gp g2 g t fr all v l) (hl : l.length = j) (ho : W'.ownsRow w.heap.size 36 2 v' (j + 1) (chVals l ++ [.int .i64 x.1, .string (str x.2)])) (hg : W.grownBy W' v.ownBlock) :
    CutS w (W'.setCell ⟨gp, 6, none⟩ v') gp g2 g t fr all v' (l ++ [x]) ∧ W'.cell? ⟨gp, 6, none⟩ = some v ∧ W'.frozen? ⟨gp, 6, none⟩ = false := by
  have hk := Kp.of_grown hg h.row
  have hm := hk _ _ _ (by decide) h.m
  have hr := hk _ _ _ (by decide) h.res
  have hb : Below w.heap.size w W' := h.below.grown hg h.below.size (fun j hj => (h.row.lt j hj).1)
  have ho' : OChs W' w.heap.size v' (l ++ [x]) := ochs_snoc (by rw [hl]; exact ho)
  refine ⟨⟨?_, hr.of_block (set_oth _ _ _ _ _ h.ne.symm), row_of_block ho' (fun j hj => set_oth _ _ _ _ _ (own_type ho' hm (by decide) j hj)), hb.setCell (show w.heap.size ≤ gp from h.lo.1) _, h.ne, h.lo⟩, ?_, hm.frozen 6⟩
  · have := hm.set_ 6 v'
    simp only [pC, List.setIfInBounds_toArray, List.set_cons_succ, List.set_cons_zero] at this
    exact this
  · rw [hm.cell 6]
    simp [pC]
end
def RcRel (w : World) (gp g2 : Nat) (g t : Gd) (fr all : Int) (L : List Ch) (k : Nat) (i : Value) (wr : World) : Prop :=
  ∃ (j : Nat) (v : Value), j ≤ L.length ∧ i = .int .i64 ((k : Int) + (j : Int)) ∧ CutS w wr gp g2 g t fr all v (L.take j)

set_option maxHeartbeats 12800000 in
theorem rcut_any (g t : Gd) (A : Option Addr) (cp : Nat) (l : List Ch) (fr : Int) (w : World) (hg : gdB g) (ht : gdB t) (h : ChL w A l) (hl : l.length ≤ 1000) (hfr : b64 fr) :
    Calls Tryd.prog 11 #[gv g, gv t, .slice A l.length cp, .int .i64 fr] w (endP (pCut g t l fr) w) := by
  obtain ⟨i0, hi, hz0, hz1, hz2⟩ := info_parts infoCh
  have hd := trivial
  have HCW := Lib.hid h
  have HGB := Lib.hid hg
  have HTB := Lib.hid ht
  have HFR := Lib.hid hfr
  have b1 := (Below.refl w.heap.size w).alloc (Nat.le_refl _) (.cells #[.int .u64 (g.1 : Int), .int .u64 (g.2 : Int)] 24)
  have k1 := Blk.new w 24 #[.int .u64 (g.1 : Int), .int .u64 (g.2 : Int)]
  obtain ⟨W1, hW1⟩ : ∃ z, w.alloc (.cells #[.int .u64 (g.1 : Int), .int .u64 (g.2 : Int)] 24) = z := ⟨_, rfl⟩
  rw [hW1] at b1 k1
  have b2 := (Below.refl W1.heap.size W1).alloc (Nat.le_refl _) (.cells #[.int .u64 (t.1 : Int), .int .u64 (t.2 : Int)] 24)
  have k2 := Blk.new W1 24 #[.int .u64 (t.1 : Int), .int .u64 (t.2 : Int)]
  obtain ⟨W2, hW2⟩ : ∃ z, W1.alloc (.cells #[.int .u64 (t.1 : Int), .int .u64 (t.2 : Int)] 24) = z := ⟨_, rfl⟩
  rw [hW2] at b2 k2
  have b3 := (Below.refl W2.heap.size W2).alloc (Nat.le_refl _) (.cells pZ 30)
  have k3 := Blk.new W2 30 pZ
  obtain ⟨W3, hW3⟩ : ∃ z, W2.alloc (.cells pZ 30) = z := ⟨_, rfl⟩
  rw [hW3] at b3 k3
  have HB3 := Lib.hid (below_step (below_step b1 b2) b3)
  have HK1 := Lib.hid ((k1.below b2).below b3)
  have HK2 := Lib.hid (k2.below b3)
  have HR := Lib.hid k3
  have HC := Lib.hid (((h.below b1).below b2).below b3)
  have HGE : Hid (w.heap.size ≤ W2.heap.size) := (below_step b1 b2).size
  obtain ⟨g0, hg0⟩ : ∃ q, w.heap.size = q := ⟨_, rfl⟩
  obtain ⟨g1, hg1⟩ : ∃ q, W1.heap.size = q := ⟨_, rfl⟩
  obtain ⟨g2, hg2⟩ : ∃ q, W2.heap.size = q := ⟨_, rfl⟩
  rw [hg0] at HK1
  rw [hg1] at HK2
  rw [hg2] at HR HGE
  have HGE2 := Lib.hid HGE.out
  have HAB : Hid (∀ W, Calls Tryd.prog 42 #[gv t, gv g] W (endB (above t g) W)) := fun W => rabove_any _ _ W
  have HMAY : Hid (∀ W, Below W3.heap.size W3 W → Calls Tryd.prog 43 #[.slice A l.length cp] W (endB (may l) W)) := fun W hb => rmay_any A cp l W (HC.out.below hb) (by omega)
  have HPC : Hid (pCut g t l fr = if cutBad g t l fr = true then (pa0, 2) else (⟨g, t, fr, l.length, (l.drop fr.toNat).take 2⟩, 0)) := rfl
  have HBAD : Hid (above t g = false ∨ may l = false ∨ fr < 0 ∨ max (l.length : Int) 1 ≤ fr → pCut g t l fr = (pa0, 2)) := fun hx => by
    rw [HPC.out, if_pos]
    unfold cutBad
    simp only [Bool.or_eq_true, Bool.not_eq_true', decide_eq_true_eq]
    rcases hx with hx | hx | hx | hx <;> simp only [hx, true_or, or_true]
  have HOK : Hid (above t g = true → may l = true → ¬ fr < 0 → ¬ max (l.length : Int) 1 ≤ fr → pCut g t l fr = (⟨g, t, fr, l.length, (l.drop fr.toNat).take 2⟩, 0)) := fun h1 h2 h3 h4 => by
    rw [HPC.out, if_neg]
    unfold cutBad
    simp only [Bool.or_eq_true, Bool.not_eq_true', decide_eq_true_eq, h1, h2, h3, h4, Bool.true_eq_false, or_false, not_false_eq_true]
  obtain ⟨P, hP⟩ : ∃ P, pCut g t l fr = P := ⟨_, rfl⟩
  rw [hP] at HBAD HOK ⊢
  obtain ⟨R, hR⟩ : ∃ R, above t g = R := ⟨_, rfl⟩
  rw [hR] at HAB HBAD HOK
  obtain ⟨M, hM⟩ : ∃ R, may l = R := ⟨_, rfl⟩
  rw [hM] at HMAY HBAD HOK
  obtain ⟨n, hn⟩ : ∃ n, l.length = n := ⟨_, rfl⟩
  have HN := Lib.hid hn
  rw [hn] at hl HMAY HBAD HOK ⊢
  clear b1 b2 b3 k1 k2 k3 h hg ht hd hP hR hM hn HPC hfr
  have p0 := HK1.out.cell 0
  have p1 := HK1.out.cell 1
  have q0 := HK2.out.cell 0
  have q1 := HK2.out.cell 1
  have hl1 := HK1.out.lt
  have hl2 := HK2.out.lt
  simp only [List.getElem?_toArray, List.getElem?_cons_zero, List.getElem?_cons_succ] at p0 p1 q0 q1
  unfold gv at HAB
  show Calls Tryd.prog 11 #[.agg #[.int .u64 (g.1 : Int), .int .u64 (g.2 : Int)], .agg #[.int .u64 (t.1 : Int), .int .u64 (t.2 : Int)], .slice A n cp, .int .i64 fr] w _
  unfold pZ at hW3
  go_enter Tryd.func11, Tryd.ntmps11
  go_upto_region 1 with fail
  try rw [hW3]
  try rw [hg0]
  try rw [hg1]
  try rw [hg2]
  clear hW1 hW2 hW3 hg0 hg1 hg2
  go_wp2_with fail
  refine (HAB.out W3).mono ?_
  rintro e W4 ⟨rfl, c4⟩
  have HB4 := Lib.hid (below_step HB3.out c4)
  have HS4 := Lib.hid c4
  have HR4 := Lib.hid (HR.out.below c4)
  clear c4 p0 p1 q0 q1 hl1 hl2 HAB
  cases R with
  | false =>
    obtain rfl : P = (pa0, 2) := HBAD.out (.inl rfl)
    clear HBAD HOK HMAY
    have hr := HR4.out
    have a0 := hr.cell 0
    have a1 := hr.cell 1
    have a2 := hr.cell 2
    have a3 := hr.cell 3
    have a4 := hr.cell 4
    have a5 := hr.cell 5
    have a6 := hr.cell 6
    have f0 := hr.frozen 0
    have f1 := hr.frozen 1
    have f2 := hr.frozen 2
    have f3 := hr.frozen 3
    have f4 := hr.frozen 4
    have f5 := hr.frozen 5
    have f6 := hr.frozen 6
    have hrl := hr.lt
    simp only [pZ, List.getElem?_toArray, List.getElem?_cons_zero, List.getElem?_cons_succ] at a0 a1 a2 a3 a4 a5 a6
    clear hr
    go_wp2_with fail
    show bodyPost _ _ _ _ _ (setPa W4 g2 (0, 0) (0, 0) 0 0 nlS)
    exact pa_none (b := g2) Tryd.results11 _ rfl (by simp) (by simp) (by rw [pZ_is]; exact setPa_blk (by rw [← pZ_is]; exact HR4.out)) (setPa_below HB4.out HGE2.out)
  | true =>
    go_wp2_with fail
    refine (HMAY.out W4 HS4.out).mono ?_
    rintro e W5 ⟨rfl, c5⟩
    have HB5 := Lib.hid (below_step HB4.out c5)
    have HS5 := Lib.hid (below_step HS4.out c5)
    have HR5 := Lib.hid (HR4.out.below c5)
    clear c5 HMAY HR4 HB4 HS4
    cases M with
    | false =>
      obtain rfl : P = (pa0, 2) := HBAD.out (.inr (.inl rfl))
      clear HBAD HOK
      have hr := HR5.out
      have a0 := hr.cell 0
      have a1 := hr.cell 1
      have a2 := hr.cell 2
      have a3 := hr.cell 3
      have a4 := hr.cell 4
      have a5 := hr.cell 5
      have a6 := hr.cell 6
      have f0 := hr.frozen 0
      have f1 := hr.frozen 1
      have f2 := hr.frozen 2
      have f3 := hr.frozen 3
      have f4 := hr.frozen 4
      have f5 := hr.frozen 5
      have f6 := hr.frozen 6
      have hrl := hr.lt
      simp only [pZ, List.getElem?_toArray, List.getElem?_cons_zero, List.getElem?_cons_succ] at a0 a1 a2 a3 a4 a5 a6
      clear hr
      go_wp2_with fail
      show bodyPost _ _ _ _ _ (setPa W5 g2 (0, 0) (0, 0) 0 0 nlS)
      exact pa_none (b := g2) Tryd.results11 _ rfl (by simp) (by simp) (by rw [pZ_is]; exact setPa_blk (by rw [← pZ_is]; exact HR5.out)) (setPa_below HB5.out HGE2.out)
    | true =>
      by_cases h1 : fr < 0
      · obtain rfl : P = (pa0, 2) := HBAD.out (.inr (.inr (.inl h1)))
        clear HBAD HOK
        have hr := HR5.out
        have a0 := hr.cell 0
        have a1 := hr.cell 1
        have a2 := hr.cell 2
        have a3 := hr.cell 3
        have a4 := hr.cell 4
        have a5 := hr.cell 5
        have a6 := hr.cell 6
        have f0 := hr.frozen 0
        have f1 := hr.frozen 1
        have f2 := hr.frozen 2
        have f3 := hr.frozen 3
        have f4 := hr.frozen 4
        have f5 := hr.frozen 5
        have f6 := hr.frozen 6
        have hrl := hr.lt
        simp only [pZ, List.getElem?_toArray, List.getElem?_cons_zero, List.getElem?_cons_succ] at a0 a1 a2 a3 a4 a5 a6
        clear hr
        go_wp2_with fail
        show bodyPost _ _ _ _ _ (setPa W5 g2 (0, 0) (0, 0) 0 0 nlS)
        exact pa_none (b := g2) Tryd.results11 _ rfl (by simp) (by simp) (by rw [pZ_is]; exact setPa_blk (by rw [← pZ_is]; exact HR5.out)) (setPa_below HB5.out HGE2.out)
      by_cases h2 : max (n : Int) 1 ≤ fr
      · obtain rfl : P = (pa0, 2) := HBAD.out (.inr (.inr (.inr h2)))
        clear HBAD HOK
        have h3 : (n : Int) ≤ fr := by omega
        have h4 : (fr == 0) = false := by simp; omega
        clear h2
        have hr := HR5.out
        have a0 := hr.cell 0
        have a1 := hr.cell 1
        have a2 := hr.cell 2
        have a3 := hr.cell 3
        have a4 := hr.cell 4
        have a5 := hr.cell 5
        have a6 := hr.cell 6
        have f0 := hr.frozen 0
        have f1 := hr.frozen 1
        have f2 := hr.frozen 2
        have f3 := hr.frozen 3
        have f4 := hr.frozen 4
        have f5 := hr.frozen 5
        have f6 := hr.frozen 6
        have hrl := hr.lt
        simp only [pZ, List.getElem?_toArray, List.getElem?_cons_zero, List.getElem?_cons_succ] at a0 a1 a2 a3 a4 a5 a6
        clear hr
        go_wp2_with fail
        show bodyPost _ _ _ _ _ (setPa W5 g2 (0, 0) (0, 0) 0 0 nlS)
        exact pa_none (b := g2) Tryd.results11 _ rfl (by simp) (by simp) (by rw [pZ_is]; exact setPa_blk (by rw [← pZ_is]; exact HR5.out)) (setPa_below HB5.out HGE2.out)
      have HP := Lib.hid (HOK.out (by first | rfl | trivial) (by first | rfl | trivial) (by omega) (by omega))
      obtain ⟨k, hk⟩ : ∃ k : Nat, fr = (k : Int) := ⟨fr.toNat, by omega⟩
      subst hk
      rw [Int.toNat_natCast] at HP
      have hkn : k ≤ n ∧ k ≤ 1000 := by omega
      have p0 := (HK1.out.below HS5.out).cell 0
      have p1 := (HK1.out.below HS5.out).cell 1
      have q0 := (HK2.out.below HS5.out).cell 0
      have q1 := (HK2.out.below HS5.out).cell 1
      have hl1 := (HK1.out.below HS5.out).lt
      have hl2 := (HK2.out.below HS5.out).lt
      simp only [List.getElem?_toArray, List.getElem?_cons_zero, List.getElem?_cons_succ] at p0 p1 q0 q1
      obtain ⟨W6, hW6⟩ : ∃ z, W5.alloc (.cells (pC g t (k : Int) (n : Int) nlS) 30) = z := ⟨_, rfl⟩
      have c6 : Below W5.heap.size W5 W6 := by rw [← hW6]; exact (Below.refl _ _).alloc (Nat.le_refl _) _
      have hM : Blk W6 W5.heap.size 30 (pC g t (k : Int) (n : Int) nlS) := by rw [← hW6]; exact Blk.new _ _ _
      have HC6 := Lib.hid (HC.out.below (below_step HS5.out c6))
      have HST0 : Hid (CutS w W6 W5.heap.size g2 g t (k : Int) (n : Int) nlS []) :=
        ⟨hM, HR5.out.below c6, World.ownsRow_nil _ _ _ _, below_step HB5.out c6, by have := HR5.out.lt; omega, by have := HB5.out.size; exact ⟨this, HGE2.out⟩⟩
      obtain ⟨L, hL⟩ : ∃ q, (l.drop k).take 2 = q := ⟨_, rfl⟩
      have HLL : Hid (L.length = min (k + 2) n - k) := by unfold Hid; rw [← hL, cut_len, HN.out]
      have HLG : Hid (∀ j (h : j < L.length), ∃ h' : k + j < l.length, L[j] = l[k + j]'h') := fun j h => by
        subst hL
        have h1 := HN.out
        rw [HLL.out] at h
        exact ⟨by omega, by rw [List.getElem_take, List.getElem_drop]⟩
      rw [hL] at HP
      have HGM : Hid (g2 < W5.heap.size) := HR5.out.lt
      have HW6 : Hid (W5.alloc (.cells #[.int .u64 (g.1 : Int), .int .u64 (g.2 : Int), .int .u64 (t.1 : Int), .int .u64 (t.2 : Int), .int .i64 (k : Int), .int .i64 (n : Int), .slice none 0 0] 30) = W6) := hW6
      clear c6 hM hW6 HR5 HB5 HBAD HOK hL
      by_cases hq : (n : Int) ≤ (k : Int)
      · have hq2 : ((k : Int) == 0) = true := by simp; omega
        have hq3 : ((n : Int) == 0) = true := by simp; omega
        go_upto_region 4 with fail
        try rw [HW6.out]
        obtain ⟨gp, hgp⟩ : ∃ q, W5.heap.size = q := ⟨_, rfl⟩
        rw [hgp] at HST0
        try rw [hgp]
        clear hgp p0 p1 q0 q1 hl1 hl2 HW6 HK1 HK2 HS5 hq2 hq3
        go_wp2_with fail
        clear h2
        go_loopw [11] (fun i wr => RcRel w gp g2 g t (k : Int) (n : Int) L k i wr) (fun i _ => 1003 - (intOf i).toNat)
        case atStart => exact ⟨0, nlS, Nat.zero_le _, by simp, HST0.out⟩
        case round =>
          obtain ⟨j, v, hj, rfl, hst⟩ := hrel
          have HLJ : Hid ((L.take j).length = j) := by unfold Hid; rw [List.length_take]; omega
          obtain ⟨A5, c5, hv⟩ := own_form hst.row
          rw [HLJ.out] at hv
          subst hv
          have HST := Lib.hid hst
          clear hst
          obtain ⟨q, hqq⟩ : ∃ q : Nat, k + j = q := ⟨_, rfl⟩
          have hqi : (k : Int) + (j : Int) = (q : Int) := by omega
          rw [hqi]
          have HQ : Hid ((q : Int) = (k : Int) + (j : Int)) := hqi.symm
          have hll := HLL.out
          by_cases hlt : j < L.length
          · obtain ⟨h', hel⟩ := HLG.out j hlt
            obtain ⟨b, oo, rfl, lbw, c0, c1, cb⟩ := HCW.out (k + j) h'
            have HSN : Hid (L.take (j + 1) = L.take j ++ [L[j]]) := List.take_succ_eq_append_getElem hlt
            rw [← hel] at c0 c1
            rw [hqq] at c0 c1
            obtain ⟨x, hx⟩ : ∃ x, L[j] = x := ⟨_, rfl⟩
            rw [hx] at c0 c1 HSN
            obtain ⟨x1, hx1⟩ : ∃ z, x.1 = z := ⟨_, rfl⟩
            obtain ⟨S, hS⟩ : ∃ z, str x.2 = z := ⟨_, rfl⟩
            rw [hx1] at c0
            rw [hS] at c1
            have E0 : Hid (wr.cell? ⟨b, oo + q * 2, none⟩ = some (.int .i64 x1)) := by unfold Hid; rw [HST.out.below.cell (p := ⟨b, oo + q * 2, none⟩) lbw]; exact c0
            have E1 : Hid (wr.cell? ⟨b, oo + q * 2 + 1, none⟩ = some (.string S)) := by unfold Hid; rw [HST.out.below.cell (p := ⟨b, oo + q * 2 + 1, none⟩) lbw]; exact c1
            have lb : b < wr.heap.size := Nat.lt_of_lt_of_le lbw HST.out.below.size
            have hq1 : (q : Int) < (n : Int) := by omega
            have hq4 : (q : Int) < (k : Int) + 2 := by omega
            have hqn : q < n := by omega
            have hj2 : j ≤ 2 := by omega
            have hjl : j + 1 ≤ L.length := by omega
            have HX1 := Lib.hid hx1
            have HS := Lib.hid hS
            clear hx c0 c1 cb hx1 hS hel hqq hqi hll hlt
            go_wp2_with fail
            refine wp_region_slots_f (by kernel_rfl) 7 [61, 62, 63, 64, 65, 66, 67] (by kernel_rfl) (RcG gp A5 j c5 b oo n cp q x1 S) (RcG_mono _ _ _ _ _ _ _ _ _ _ _ ) ?_ ?_
            · intro i o vs ρ W hi ho hρ hfn hb hG
              have hc := hρ.const
              have hgp := HST.out.m.below hb
              have m6 := hgp.cell 6
              have hml := hgp.lt
              simp only [pC, List.getElem?_toArray, List.getElem?_cons_zero, List.getElem?_cons_succ] at m6
              have e0 : W.cell? ⟨b, oo + q * 2, none⟩ = some (.int .i64 x1) := by rw [hb.cell (p := ⟨b, oo + q * 2, none⟩) lb]; exact E0.out
              have e1 : W.cell? ⟨b, oo + q * 2 + 1, none⟩ = some (.string S) := by rw [hb.cell (p := ⟨b, oo + q * 2 + 1, none⟩) lb]; exact E1.out
              rcases i with _ | _ | _ | _ | _ | _ | _ | i
              all_goals (first | omega | skip)
              all_goals simp only [List.getElem?_toArray, List.getElem?_cons_zero, List.getElem?_cons_succ, Option.some.injEq] at ho
              all_goals subst ho
              · have o10 : ρ (.tmp 10) = .pointer (some ⟨gp, 0, none⟩) := hρ.out 10 rfl
                exact stepTo_value (w' := W) (by unfold execOp; simp only [o10, hc]; go_simp) ⟨Below.refl _ _, rfl⟩
              · have g61 : vs 0 = .pointer (some ⟨gp, 6, none⟩) := hG 0 (by kernel_rfl)
                have s61 := (hρ.at_ 61 0 rfl).trans g61
                exact stepTo_value (w' := W) (by unfold execOp; simp only [s61, hc]; go_simp) ⟨Below.refl _ _, rfl⟩
              · have o2 : ρ (.tmp 2) = .slice (some ⟨b, oo, none⟩) n cp := hρ.out 2 rfl
                exact stepTo_value (w' := W) (by unfold execOp; simp only [o2, hc]; go_simp) ⟨Below.refl _ _, rfl⟩
              · have o11 : ρ (.tmp 11) = .int .i64 (q : Int) := hρ.out 11 rfl
                exact stepTo_value (w' := W) (by unfold execOp; simp only [o11, hc]; go_simp) ⟨Below.refl _ _, rfl⟩
              · have g63 : vs 2 = .slice (some ⟨b, oo, none⟩) n cp := hG 2 (by kernel_rfl)
                have s63 := (hρ.at_ 63 2 rfl).trans g63
                have g64 : vs 3 = .int .i64 (q : Int) := hG 3 (by kernel_rfl)
                have s64 := (hρ.at_ 64 3 rfl).trans g64
                exact stepTo_value (w' := W) (by unfold execOp; simp only [s63, s64, hc]; go_simp) ⟨Below.refl _ _, rfl⟩
              · have g65 : vs 4 = .pointer (some ⟨b, oo + q * 2, none⟩) := hG 4 (by kernel_rfl)
                have s65 := (hρ.at_ 65 4 rfl).trans g65
                exact stepTo_value (w' := W) (by unfold execOp; simp only [s65, hc]; go_simp) ⟨Below.refl _ _, rfl⟩
              · have g66 : vs 5 = .agg #[.int .i64 x1, .string S] := hG 5 (by kernel_rfl)
                have s66 := (hρ.at_ 66 5 rfl).trans g66
                exact stepTo_value (w' := W.alloc (.cells #[.int .i64 x1, .string S] 36)) (v := .slice (some ⟨W.heap.size, 0, none⟩) 1 1) (by unfold execOp; simp only [s66]; go_simp) ⟨(Below.refl _ W).alloc (Nat.le_refl _) _, W.heap.size, rfl, Blk.new _ _ _⟩
            · intro vs W hb hG
              have g1 : vs 1 = .slice A5 j c5 := hG 1 (by decide)
              obtain ⟨gn, g6, hbk⟩ := hG 6 (by decide)
              have HS2 := Lib.hid (HST.out.grow hb)
              have HNW := Lib.hid (news_blk hbk)
              simp only [putList, putSel, if_true]
              rw [g1, g6]
              generalize vs 0 = y0
              generalize vs 2 = y2
              generalize vs 3 = y3
              generalize vs 4 = y4
              generalize vs 5 = y5
              clear hG g1 g6 hbk
              simp only [Act.put, List.setIfInBounds_toArray, List.set_cons_succ, List.set_cons_zero]
              refine wpAny_one (i := 7) (by kernel_rfl) rfl rfl ?_
              refine wp_append_own W (.tmp 62) (.tmp 67) 27 rfl w.heap.size 36 i0 (.agg #[.int .i64 0, .string ByteArray.empty]) 2 24 Tryd.underlying27 hi hz0 hz1 hz2 rfl (by decide) _ j _ rfl (HS2.out.own HLJ.out) ⟨gn, 0, none⟩ 1 1 [.int .i64 x1, .string S] rfl rfl HNW.out (one2 _ _) (by unfold maxLen; omega) (by omega) HS2.out.below.size ?_
              intro v' w1 hown hgrow _
              obtain ⟨A6, c6, rfl⟩ := own_form hown
              obtain ⟨hst, k1, f1⟩ := HS2.out.push HLJ.out (x := x) (by rw [HX1.out, HS.out]; exact hown) hgrow
              have HST3 := Lib.hid hst
              have hltm : gp < w1.heap.size := World.block_lt_of_cell? w1 _ k1
              clear hown hgrow hst hb
              go_simp
              refine wpAny_one (i := 8) (by kernel_rfl) rfl rfl ?_
              go_simp
              refine wpAny_one (i := 9) (by kernel_rfl) rfl rfl ?_
              go_simp
              refine ⟨by kernel_rfl, ?_⟩
              go_wp2_with fail
              go_roundw
              case rel => exact ⟨j + 1, .slice A6 (j + 1) c6, by omega, (congrArg (Value.int .i64) (by have := HQ.out; omega)), by rw [HSN.out]; exact HST3.out⟩
              case measure => simp [intOf]; omega
          · have hE : L.take j = L := List.take_of_length_le (by omega)
            have HJJ : Hid (j = L.length) := by unfold Hid; omega
            rw [hE] at HST
            have HPF := Lib.hid HP.out
            have hcs : ¬ (q : Int) < (n : Int) ∨ ((q : Int) < (n : Int) ∧ ¬ (q : Int) < (k : Int) + 2) := by omega
            have hr := HST.out.res
            have hm := HST.out.m
            have a0 := hr.cell 0
            have f0 := hr.frozen 0
            have m0 := hm.cell 0
            have a1 := hr.cell 1
            have f1 := hr.frozen 1
            have m1 := hm.cell 1
            have a2 := hr.cell 2
            have f2 := hr.frozen 2
            have m2 := hm.cell 2
            have a3 := hr.cell 3
            have f3 := hr.frozen 3
            have m3 := hm.cell 3
            have a4 := hr.cell 4
            have f4 := hr.frozen 4
            have m4 := hm.cell 4
            have a5 := hr.cell 5
            have f5 := hr.frozen 5
            have m5 := hm.cell 5
            have a6 := hr.cell 6
            have f6 := hr.frozen 6
            have m6 := hm.cell 6
            have hrl := hr.lt
            have hml := hm.lt
            simp only [pZ, pC, List.getElem?_toArray, List.getElem?_cons_zero, List.getElem?_cons_succ] at a0 a1 a2 a3 a4 a5 a6 m0 m1 m2 m3 m4 m5 m6
            clear hqq hqi hll hlt hr hm
            rcases hcs with h5 | ⟨h5, h6⟩
            all_goals
              go_upto_region 8 with fail
              try clear h6
              clear h5
              go_wp2_with fail
              show bodyPost _ _ _ _ _ (setPa wr g2 g t (k : Int) (n : Int) (.slice A5 j c5))
              have HB64 : Hid (∀ x ∈ L, b64 x.1) := fun x hx => by
                obtain ⟨i, hi, rfl⟩ := List.getElem_of_mem hx
                obtain ⟨h', e⟩ := HLG.out i hi
                rw [e]
                exact chl_b64 HCW.out _ (List.getElem_mem h')
              obtain ⟨A7, c7, hv7, hc7, hn7⟩ := ochs_chl HST.out.row HB64.out
              rw [← HJJ.out] at hv7
              simp only [Value.slice.injEq, true_and] at hv7
              obtain ⟨rfl, rfl⟩ := hv7
              have hne : ∀ b o, A5 = some ⟨b, o, none⟩ → b ≠ g2 := fun b o e => by
                subst e
                exact own_type HST.out.row HST.out.res (by decide) b rfl
              have HF : PaL (setPa wr g2 g t (k : Int) (n : Int) (.slice A5 j c5)) A5 c5 ⟨g, t, (k : Int), (n : Int), L⟩ := by
                refine ⟨fun i hi => ?_, HGB.out, HTB.out, HFR.out, by unfold b64; dsimp only; omega⟩
                obtain ⟨b, o, e1, e2, e3, e4, e5⟩ := hc7 i hi
                have hblk := setPa_oth wr g2 g t (k : Int) (n : Int) (.slice A5 j c5) b (hne b o e1)
                exact ⟨b, o, e1, by rw [setPa_size]; exact e2, by rw [World.cell?_of_block (a := ⟨b, o + i * 2, none⟩) hblk]; exact e3, by rw [World.cell?_of_block (a := ⟨b, o + i * 2 + 1, none⟩) hblk]; exact e4, e5⟩
              have hPP := HPF.out
              subst hPP
              exact pa_end (r := (⟨g, t, (k : Int), (n : Int), L⟩, 0)) (b := g2) Tryd.results11 _ rfl (by simp) (by simp) (by rw [← HJJ.out]; exact setPa_blk (by rw [← pZ_is]; exact HST.out.res)) HF (fun b o e => by have := hn7 b o e; rw [setPa_size]; exact this) (setPa_below HST.out.below HGE2.out)
      · go_upto_region 4 with fail
        try rw [HW6.out]
        obtain ⟨gp, hgp⟩ : ∃ q, W5.heap.size = q := ⟨_, rfl⟩
        rw [hgp] at HST0
        try rw [hgp]
        clear hgp p0 p1 q0 q1 hl1 hl2 HW6 HK1 HK2 HS5
        go_wp2_with fail
        clear h2
        go_loopw [11] (fun i wr => RcRel w gp g2 g t (k : Int) (n : Int) L k i wr) (fun i _ => 1003 - (intOf i).toNat)
        case atStart => exact ⟨0, nlS, Nat.zero_le _, by simp, HST0.out⟩
        case round =>
          obtain ⟨j, v, hj, rfl, hst⟩ := hrel
          have HLJ : Hid ((L.take j).length = j) := by unfold Hid; rw [List.length_take]; omega
          obtain ⟨A5, c5, hv⟩ := own_form hst.row
          rw [HLJ.out] at hv
          subst hv
          have HST := Lib.hid hst
          clear hst
          obtain ⟨q, hqq⟩ : ∃ q : Nat, k + j = q := ⟨_, rfl⟩
          have hqi : (k : Int) + (j : Int) = (q : Int) := by omega
          rw [hqi]
          have HQ : Hid ((q : Int) = (k : Int) + (j : Int)) := hqi.symm
          have hll := HLL.out
          by_cases hlt : j < L.length
          · obtain ⟨h', hel⟩ := HLG.out j hlt
            obtain ⟨b, oo, rfl, lbw, c0, c1, cb⟩ := HCW.out (k + j) h'
            have HSN : Hid (L.take (j + 1) = L.take j ++ [L[j]]) := List.take_succ_eq_append_getElem hlt
            rw [← hel] at c0 c1
            rw [hqq] at c0 c1
            obtain ⟨x, hx⟩ : ∃ x, L[j] = x := ⟨_, rfl⟩
            rw [hx] at c0 c1 HSN
            obtain ⟨x1, hx1⟩ : ∃ z, x.1 = z := ⟨_, rfl⟩
            obtain ⟨S, hS⟩ : ∃ z, str x.2 = z := ⟨_, rfl⟩
            rw [hx1] at c0
            rw [hS] at c1
            have E0 : Hid (wr.cell? ⟨b, oo + q * 2, none⟩ = some (.int .i64 x1)) := by unfold Hid; rw [HST.out.below.cell (p := ⟨b, oo + q * 2, none⟩) lbw]; exact c0
            have E1 : Hid (wr.cell? ⟨b, oo + q * 2 + 1, none⟩ = some (.string S)) := by unfold Hid; rw [HST.out.below.cell (p := ⟨b, oo + q * 2 + 1, none⟩) lbw]; exact c1
            have lb : b < wr.heap.size := Nat.lt_of_lt_of_le lbw HST.out.below.size
            have hq1 : (q : Int) < (n : Int) := by omega
            have hq4 : (q : Int) < (k : Int) + 2 := by omega
            have hqn : q < n := by omega
            have hj2 : j ≤ 2 := by omega
            have hjl : j + 1 ≤ L.length := by omega
            have HX1 := Lib.hid hx1
            have HS := Lib.hid hS
            clear hx c0 c1 cb hx1 hS hel hqq hqi hll hlt
            go_wp2_with fail
            refine wp_region_slots_f (by kernel_rfl) 7 [61, 62, 63, 64, 65, 66, 67] (by kernel_rfl) (RcG gp A5 j c5 b oo n cp q x1 S) (RcG_mono _ _ _ _ _ _ _ _ _ _ _ ) ?_ ?_
            · intro i o vs ρ W hi ho hρ hfn hb hG
              have hc := hρ.const
              have hgp := HST.out.m.below hb
              have m6 := hgp.cell 6
              have hml := hgp.lt
              simp only [pC, List.getElem?_toArray, List.getElem?_cons_zero, List.getElem?_cons_succ] at m6
              have e0 : W.cell? ⟨b, oo + q * 2, none⟩ = some (.int .i64 x1) := by rw [hb.cell (p := ⟨b, oo + q * 2, none⟩) lb]; exact E0.out
              have e1 : W.cell? ⟨b, oo + q * 2 + 1, none⟩ = some (.string S) := by rw [hb.cell (p := ⟨b, oo + q * 2 + 1, none⟩) lb]; exact E1.out
              rcases i with _ | _ | _ | _ | _ | _ | _ | i
              all_goals (first | omega | skip)
              all_goals simp only [List.getElem?_toArray, List.getElem?_cons_zero, List.getElem?_cons_succ, Option.some.injEq] at ho
              all_goals subst ho
              · have o10 : ρ (.tmp 10) = .pointer (some ⟨gp, 0, none⟩) := hρ.out 10 rfl
                exact stepTo_value (w' := W) (by unfold execOp; simp only [o10, hc]; go_simp) ⟨Below.refl _ _, rfl⟩
              · have g61 : vs 0 = .pointer (some ⟨gp, 6, none⟩) := hG 0 (by kernel_rfl)
                have s61 := (hρ.at_ 61 0 rfl).trans g61
                exact stepTo_value (w' := W) (by unfold execOp; simp only [s61, hc]; go_simp) ⟨Below.refl _ _, rfl⟩
              · have o2 : ρ (.tmp 2) = .slice (some ⟨b, oo, none⟩) n cp := hρ.out 2 rfl
                exact stepTo_value (w' := W) (by unfold execOp; simp only [o2, hc]; go_simp) ⟨Below.refl _ _, rfl⟩
              · have o11 : ρ (.tmp 11) = .int .i64 (q : Int) := hρ.out 11 rfl
                exact stepTo_value (w' := W) (by unfold execOp; simp only [o11, hc]; go_simp) ⟨Below.refl _ _, rfl⟩
              · have g63 : vs 2 = .slice (some ⟨b, oo, none⟩) n cp := hG 2 (by kernel_rfl)
                have s63 := (hρ.at_ 63 2 rfl).trans g63
                have g64 : vs 3 = .int .i64 (q : Int) := hG 3 (by kernel_rfl)
                have s64 := (hρ.at_ 64 3 rfl).trans g64
                exact stepTo_value (w' := W) (by unfold execOp; simp only [s63, s64, hc]; go_simp) ⟨Below.refl _ _, rfl⟩
              · have g65 : vs 4 = .pointer (some ⟨b, oo + q * 2, none⟩) := hG 4 (by kernel_rfl)
                have s65 := (hρ.at_ 65 4 rfl).trans g65
                exact stepTo_value (w' := W) (by unfold execOp; simp only [s65, hc]; go_simp) ⟨Below.refl _ _, rfl⟩
              · have g66 : vs 5 = .agg #[.int .i64 x1, .string S] := hG 5 (by kernel_rfl)
                have s66 := (hρ.at_ 66 5 rfl).trans g66
                exact stepTo_value (w' := W.alloc (.cells #[.int .i64 x1, .string S] 36)) (v := .slice (some ⟨W.heap.size, 0, none⟩) 1 1) (by unfold execOp; simp only [s66]; go_simp) ⟨(Below.refl _ W).alloc (Nat.le_refl _) _, W.heap.size, rfl, Blk.new _ _ _⟩
            · intro vs W hb hG
              have g1 : vs 1 = .slice A5 j c5 := hG 1 (by decide)
              obtain ⟨gn, g6, hbk⟩ := hG 6 (by decide)
              have HS2 := Lib.hid (HST.out.grow hb)
              have HNW := Lib.hid (news_blk hbk)
              simp only [putList, putSel, if_true]
              rw [g1, g6]
              generalize vs 0 = y0
              generalize vs 2 = y2
              generalize vs 3 = y3
              generalize vs 4 = y4
              generalize vs 5 = y5
              clear hG g1 g6 hbk
              simp only [Act.put, List.setIfInBounds_toArray, List.set_cons_succ, List.set_cons_zero]
              refine wpAny_one (i := 7) (by kernel_rfl) rfl rfl ?_
              refine wp_append_own W (.tmp 62) (.tmp 67) 27 rfl w.heap.size 36 i0 (.agg #[.int .i64 0, .string ByteArray.empty]) 2 24 Tryd.underlying27 hi hz0 hz1 hz2 rfl (by decide) _ j _ rfl (HS2.out.own HLJ.out) ⟨gn, 0, none⟩ 1 1 [.int .i64 x1, .string S] rfl rfl HNW.out (one2 _ _) (by unfold maxLen; omega) (by omega) HS2.out.below.size ?_
              intro v' w1 hown hgrow _
              obtain ⟨A6, c6, rfl⟩ := own_form hown
              obtain ⟨hst, k1, f1⟩ := HS2.out.push HLJ.out (x := x) (by rw [HX1.out, HS.out]; exact hown) hgrow
              have HST3 := Lib.hid hst
              have hltm : gp < w1.heap.size := World.block_lt_of_cell? w1 _ k1
              clear hown hgrow hst hb
              go_simp
              refine wpAny_one (i := 8) (by kernel_rfl) rfl rfl ?_
              go_simp
              refine wpAny_one (i := 9) (by kernel_rfl) rfl rfl ?_
              go_simp
              refine ⟨by kernel_rfl, ?_⟩
              go_wp2_with fail
              go_roundw
              case rel => exact ⟨j + 1, .slice A6 (j + 1) c6, by omega, (congrArg (Value.int .i64) (by have := HQ.out; omega)), by rw [HSN.out]; exact HST3.out⟩
              case measure => simp [intOf]; omega
          · have hE : L.take j = L := List.take_of_length_le (by omega)
            have HJJ : Hid (j = L.length) := by unfold Hid; omega
            rw [hE] at HST
            have HPF := Lib.hid HP.out
            have hcs : ¬ (q : Int) < (n : Int) ∨ ((q : Int) < (n : Int) ∧ ¬ (q : Int) < (k : Int) + 2) := by omega
            have hr := HST.out.res
            have hm := HST.out.m
            have a0 := hr.cell 0
            have f0 := hr.frozen 0
            have m0 := hm.cell 0
            have a1 := hr.cell 1
            have f1 := hr.frozen 1
            have m1 := hm.cell 1
            have a2 := hr.cell 2
            have f2 := hr.frozen 2
            have m2 := hm.cell 2
            have a3 := hr.cell 3
            have f3 := hr.frozen 3
            have m3 := hm.cell 3
            have a4 := hr.cell 4
            have f4 := hr.frozen 4
            have m4 := hm.cell 4
            have a5 := hr.cell 5
            have f5 := hr.frozen 5
            have m5 := hm.cell 5
            have a6 := hr.cell 6
            have f6 := hr.frozen 6
            have m6 := hm.cell 6
            have hrl := hr.lt
            have hml := hm.lt
            simp only [pZ, pC, List.getElem?_toArray, List.getElem?_cons_zero, List.getElem?_cons_succ] at a0 a1 a2 a3 a4 a5 a6 m0 m1 m2 m3 m4 m5 m6
            clear hqq hqi hll hlt hr hm
            rcases hcs with h5 | ⟨h5, h6⟩
            all_goals
              go_upto_region 8 with fail
              try clear h6
              clear h5
              go_wp2_with fail
              show bodyPost _ _ _ _ _ (setPa wr g2 g t (k : Int) (n : Int) (.slice A5 j c5))
              have HB64 : Hid (∀ x ∈ L, b64 x.1) := fun x hx => by
                obtain ⟨i, hi, rfl⟩ := List.getElem_of_mem hx
                obtain ⟨h', e⟩ := HLG.out i hi
                rw [e]
                exact chl_b64 HCW.out _ (List.getElem_mem h')
              obtain ⟨A7, c7, hv7, hc7, hn7⟩ := ochs_chl HST.out.row HB64.out
              rw [← HJJ.out] at hv7
              simp only [Value.slice.injEq, true_and] at hv7
              obtain ⟨rfl, rfl⟩ := hv7
              have hne : ∀ b o, A5 = some ⟨b, o, none⟩ → b ≠ g2 := fun b o e => by
                subst e
                exact own_type HST.out.row HST.out.res (by decide) b rfl
              have HF : PaL (setPa wr g2 g t (k : Int) (n : Int) (.slice A5 j c5)) A5 c5 ⟨g, t, (k : Int), (n : Int), L⟩ := by
                refine ⟨fun i hi => ?_, HGB.out, HTB.out, HFR.out, by unfold b64; dsimp only; omega⟩
                obtain ⟨b, o, e1, e2, e3, e4, e5⟩ := hc7 i hi
                have hblk := setPa_oth wr g2 g t (k : Int) (n : Int) (.slice A5 j c5) b (hne b o e1)
                exact ⟨b, o, e1, by rw [setPa_size]; exact e2, by rw [World.cell?_of_block (a := ⟨b, o + i * 2, none⟩) hblk]; exact e3, by rw [World.cell?_of_block (a := ⟨b, o + i * 2 + 1, none⟩) hblk]; exact e4, e5⟩
              have hPP := HPF.out
              subst hPP
              exact pa_end (r := (⟨g, t, (k : Int), (n : Int), L⟩, 0)) (b := g2) Tryd.results11 _ rfl (by simp) (by simp) (by rw [← HJJ.out]; exact setPa_blk (by rw [← pZ_is]; exact HST.out.res)) HF (fun b o e => by have := hn7 b o e; rw [setPa_size]; exact this) (setPa_below HST.out.below HGE2.out)
end Go.Proofs.YtchdamlnbmngbaaDoor.st

/- The statements' changes: of marks. -/
namespace Go.Proofs.YtchdamlnbmngbaaDoor.st
open Go Go.RowKit Go.Sort Go.Proofs.YtchdamlnbmngbaaDoor.ib Go.Proofs.YtchdamlnbmngbaaDoor.wi Go.Proofs.YtchdamlnbmngbaaDoor.mt
open Go.Proofs.YtchdamlnbmngbaaDoor.ch (ChL OChs chVals infoCh)
set_option maxRecDepth 100000

structure Mk where
  b : Int
  c : UInt8
  s : Bool
def mdOne (m : Mk) : Ch := (m.b, rep m.c (if m.s then 31 else 32))
def mdOf (l : List Mk) : List Ch := (l.take 30).map mdOne
/-- A slice of marks. -/
def MkL (w : World) (A : Option Addr) (l : List Mk) : Prop :=
  ∀ i (h : i < l.length), ∃ b o, A = some ⟨b, o, none⟩ ∧ b < w.heap.size ∧ w.cell? ⟨b, o + i * 3, none⟩ = some (.int .i64 l[i].b) ∧ w.cell? ⟨b, o + i * 3 + 1, none⟩ = some (.int .u8 (l[i].c.toNat : Int)) ∧ w.cell? ⟨b, o + i * 3 + 2, none⟩ = some (.bool l[i].s) ∧ b64 l[i].b
theorem MkL.below {w w' : World} {A : Option Addr} {x : List Mk} (h : MkL w A x) (hb : Below w.heap.size w w') : MkL w' A x := by
  intro i hi
  obtain ⟨b, o, h1, h2, h3, h4, h5, h6⟩ := h i hi
  exact ⟨b, o, h1, Nat.lt_of_lt_of_le h2 hb.size, by rw [hb.cell (p := ⟨b, o + i * 3, none⟩) h2]; exact h3, by rw [hb.cell (p := ⟨b, o + i * 3 + 1, none⟩) h2]; exact h4, by rw [hb.cell (p := ⟨b, o + i * 3 + 2, none⟩) h2]; exact h5, h6⟩
theorem mdOf_len (l : List Mk) : (mdOf l).length = min 30 l.length := by unfold mdOf; rw [List.length_map, List.length_take]
theorem mdOf_snoc (l : List Mk) (k : Nat) (h : k < l.length) (h30 : k < 30) : mdOf (l.take (k + 1)) = mdOf (l.take k) ++ [mdOne l[k]] := by
  unfold mdOf
  rw [List.take_take, List.take_take, Nat.min_eq_right (by omega), Nat.min_eq_right (by omega), List.take_succ_eq_append_getElem h, List.map_append]
  rfl
theorem mdOf_at (l : List Mk) (k : Nat) (h : k ≤ l.length) (h30 : k ≤ 30) : (mdOf (l.take k)).length = k := by
  rw [mdOf_len, List.length_take]
  omega
theorem mdOf_done (l : List Mk) (k : Nat) (h : k ≤ l.length) (h30 : k ≤ 30) (he : ¬ (k < l.length ∧ k < 30)) : mdOf (l.take k) = mdOf l := by
  unfold mdOf
  rw [List.take_take]
  congr 1
  by_cases h : k = l.length
  · subst h
    rw [← List.take_take, List.take_length]
  · have : k = 30 := by omega
    subst this
    rw [Nat.min_self]
theorem mdOf_len32 (l : List Mk) : ∀ c ∈ mdOf l, c.2.length ≤ 32 := by
  intro c hc
  unfold mdOf at hc
  obtain ⟨m, _, rfl⟩ := List.mem_map.1 hc
  unfold mdOne
  dsimp only
  rw [rep_length]
  split <;> omega
theorem mdOf_b64 {w : World} {A : Option Addr} {l : List Mk} (h : MkL w A l) : ∀ c ∈ mdOf l, b64 c.1 := by
  intro c hc
  unfold mdOf at hc
  obtain ⟨m, hm, rfl⟩ := List.mem_map.1 hc
  obtain ⟨i, hi, rfl⟩ := List.getElem_of_mem (List.mem_of_mem_take hm)
  obtain ⟨_, _, _, _, _, _, _, h⟩ := h i hi
  exact h
theorem rep_get (c : UInt8) (n j : Nat) (h : j < (rep c n).length) : (rep c n)[j] = c := List.getElem_replicate h
theorem conv_tail (c : UInt8) (b : Nat) (t : TypeId) (w : World) (h : w.heap[b]? = some (.cells (Lib.byteCells (rep c 32)).toArray t (0, 0))) :
    (convert 61 9 (.slice (some ⟨b, 1, none⟩) 31 31)).run Tryd.prog w = .ok (.string (str (rep c 31))) w := by
  refine run_convert_bytes_back (P := Tryd.prog) w 61 9 5 ⟨b, 1, none⟩ 31 (rep c 31) Tryd.underlying61 Tryd.underlying5 Tryd.underlying9 ?_
  intro j hj
  rw [rep_length] at hj
  rw [addr_add, cell_of_row w b (1 + j) _ _ _ h]
  show (Lib.byteCells (rep c 32)).toArray[1 + j]? = _
  unfold Lib.byteCells
  rw [show (rep c 32).map (fun b => Value.int .u8 (b.toNat : Int)) = List.replicate 32 (Value.int .u8 (c.toNat : Int)) from List.map_replicate, List.getElem?_toArray, List.getElem?_replicate, if_pos (by omega)]
  exact (congrArg (fun z : UInt8 => some (Value.int .u8 (z.toNat : Int))) (rep_get c 31 j (by rw [rep_length]; exact hj))).symm

def MdG (A5 : Option Addr) (k c5 b oo n cp : Nat) (x1 : Int) (gb z m : Nat) (S : ByteArray) : Nat → Value → World → Prop
  | 0, v, _ => v = .slice A5 k c5
  | 1, v, _ => v = .slice (some ⟨b, oo, none⟩) n cp
  | 2, v, _ => v = .int .i64 (k : Int)
  | 3, v, _ => v = .pointer (some ⟨b, oo + k * 3, none⟩)
  | 4, v, _ => v = .pointer (some ⟨b, oo + k * 3, none⟩)
  | 5, v, _ => v = .int .i64 x1
  | 6, v, _ => v = .slice (some ⟨gb, z, none⟩) m m
  | 7, v, _ => v = .string S
  | 8, v, _ => v = .agg #[.int .i64 x1, .string S]
  | 9, v, W => ∃ g, v = .slice (some ⟨g, 0, none⟩) 1 1 ∧ Blk W g 36 #[.int .i64 x1, .string S]
  | _, _, _ => True
theorem MdG_mono (A5 : Option Addr) (k c5 b oo n cp : Nat) (x1 : Int) (gb z m : Nat) (S : ByteArray) (i : Nat) (v : Value) (w w' : World) (hi : i < 10) (h : MdG A5 k c5 b oo n cp x1 gb z m S i v w) (hb : Below w.heap.size w w') : MdG A5 k c5 b oo n cp x1 gb z m S i v w' := by
  match i, hi, h with
  | 0, _, h | 1, _, h | 2, _, h | 3, _, h | 4, _, h | 5, _, h | 6, _, h | 7, _, h | 8, _, h => exact h
  | 9, _, ⟨g, h1, h2⟩ => exact ⟨g, h1, h2.below hb⟩
  | j + 10, hi, _ => exact absurd hi (by omega)

def MdRel (l : List Mk) (w : World) (v i : Value) (wr : World) : Prop :=
  ∃ k : Nat, k ≤ l.length ∧ k ≤ 30 ∧ i = .int .i64 (k : Int) ∧ OChs wr w.heap.size v (mdOf (l.take k)) ∧ Below w.heap.size w wr
set_option maxHeartbeats 12800000 in
theorem made_any (A : Option Addr) (cp : Nat) (l : List Mk) (w : World) (h : MkL w A l) (hl : l.length ≤ 9223372036854775807) :
    Calls Tryd.prog 9 #[.slice A l.length cp] w (endO (mdOf l) w) := by
  obtain ⟨i0, hi, hz0, hz1, hz2⟩ := info_parts infoCh
  have HC := Lib.hid h
  clear h
  obtain ⟨n, hlen⟩ : ∃ k, l.length = k := ⟨_, rfl⟩
  have HLL := Lib.hid hlen
  rw [hlen] at hl ⊢
  clear hlen
  go_enter Tryd.func9, Tryd.ntmps9
  go_wp2_with fail
  go_loopw [3, 4, 5, 6] (fun v i _ _ wr => MdRel l w v i wr) (fun _ i _ _ _ => 31 - (intOf i).toNat)
  case atStart => exact ⟨0, Nat.zero_le _, Nat.zero_le _, rfl, World.ownsRow_nil _ _ _ _, Below.refl _ _⟩
  case round =>
    obtain ⟨k, hk, hk30, rfl, ho, hB⟩ := hrel
    have HLN := Lib.hid (mdOf_at l k hk hk30)
    obtain ⟨A5, c5, hv5⟩ := own_form ho
    rw [HLN.out] at hv5
    subst hv5
    have HO := Lib.hid ho
    have HB := Lib.hid hB
    have HE := Lib.hid (mdOf_done l k hk hk30)
    rw [HLL.out] at hk HE
    clear ho hB
    by_cases hgo : k < n ∧ k < 30
    · obtain ⟨hlt, hlt30⟩ := hgo
      have hki : (k : Int) < (n : Int) := by omega
      have hki30 : (k : Int) < 30 := by omega
      have hkl : k < l.length := by rw [HLL.out]; exact hlt
      obtain ⟨b, oo, rfl, hbb, c0, c1, c2, cb⟩ := HC.out k hkl
      have HSN := Lib.hid (mdOf_snoc l k hkl hlt30)
      obtain ⟨x, hx⟩ : ∃ x, l[k] = x := ⟨_, rfl⟩
      rw [hx] at c0 c1 c2 HSN
      obtain ⟨x1, c, s⟩ := x
      dsimp only at c0 c1 c2
      have C0 := Lib.hid c0
      have C1 := Lib.hid c1
      have C2 := Lib.hid c2
      have hcb : (0 : Int) ≤ (c.toNat : Int) ∧ (c.toNat : Int) < 256 := by have := c.toNat_lt; omega
      obtain ⟨hcb0, hcb1⟩ := hcb
      clear hx c0 c1 c2 cb HE
      obtain ⟨wo, hwo⟩ : ∃ x, x = wr := ⟨_, rfl⟩
      subst hwo
      go_upto_region 5 with fail
      go_wp2_with (at_make; refine wpList_value rfl (exec_make32 _ _ 32 rfl rfl rfl (by decide)) ?_; rw [← lpart_zero c])
      have hb0 : Blk (wo.alloc (.cells (lpart c 0) 5)) wo.heap.size 5 (lpart c 0) := Blk.new _ _ _
      have hB0 : Below wo.heap.size wo (wo.alloc (.cells (lpart c 0) 5)) := (Below.refl _ wo).alloc (Nat.le_refl _) _
      have HGB : Hid (w.heap.size ≤ wo.heap.size) := HB.out.size
      have Hb0 := Lib.hid hb0
      have HB0 := Lib.hid hB0
      clear hb0 hB0
      generalize wo.alloc (.cells (lpart c 0) 5) = W0 at *
      obtain ⟨gb, hgb⟩ : ∃ g, wo.heap.size = g := ⟨_, rfl⟩
      rw [hgb] at Hb0 HGB
      try rw [hgb]
      have HGE := Lib.hid hgb
      clear hgb
      go_loopw [6] (fun i wr => ∃ j : Nat, j ≤ 32 ∧ i = .int .i64 (j : Int) ∧ Blk wr gb 5 (lpart c j) ∧ Below wo.heap.size wo wr) (fun i _ => 32 - (intOf i).toNat)
      case atStart => exact ⟨0, by omega, rfl, Hb0.out, HB0.out⟩
      case round =>
        obtain ⟨j, hj, rfl, hbk, hBk⟩ := hrel
        have HBK := Lib.hid hbk
        have HBJ := Lib.hid hBk
        have HB2 := Lib.hid (below_step HB.out hBk)
        have e1 : wr.cell? ⟨b, oo + k * 3 + 1, none⟩ = some (.int .u8 (c.toNat : Int)) := by rw [HB2.out.cell (p := ⟨b, oo + k * 3 + 1, none⟩) hbb]; exact C1.out
        have e2 : wr.cell? ⟨b, oo + k * 3 + 2, none⟩ = some (.bool s) := by rw [HB2.out.cell (p := ⟨b, oo + k * 3 + 2, none⟩) hbb]; exact C2.out
        have lb2 : b < wr.heap.size := Nat.lt_of_lt_of_le hbb HB2.out.size
        by_cases hlt : j < 32
        · have hcell : (wr.cell? ⟨gb, j, none⟩).isSome = true := by
            rw [hbk.cell j, Array.getElem?_eq_getElem (by rw [lpart_size c j hj]; exact hlt)]
            rfl
          obtain ⟨u, hu⟩ := Option.isSome_iff_exists.1 hcell
          have hf := hbk.frozen j
          have hgl := hbk.lt
          have hlt' : (j : Int) < 32 := by omega
          clear hbk hBk hcell
          go_wp2_with fail
          go_roundw
          case rel => exact ⟨j + 1, by omega, by go_num, by rw [← lpart_set c j hlt]; exact HBK.out.set_ j _, HBJ.out.setCell (Nat.le_of_eq HGE.out) _⟩
          case measure => simp [intOf]; omega
        · have hj32 : j = 32 := by omega
          have hjn : ¬ (j : Int) < 32 := by omega
          have hP : Blk wr gb 5 (Lib.byteCells (rep c 32)).toArray := by rw [hj32, lpart_full] at hbk; exact hbk
          have HP := Lib.hid hP
          have E0 : Hid (wr.cell? ⟨b, oo + k * 3, none⟩ = some (.int .i64 x1)) := by unfold Hid; rw [HB2.out.cell (p := ⟨b, oo + k * 3, none⟩) hbb]; exact C0.out
          have HO1 : Hid (OChs wr w.heap.size (.slice A5 k c5) (mdOf (l.take k))) := row_of_block HO.out (fun j hj => hBk.block j (HO.out.lt j hj).2)
          have HX1 : Hid ((mdOne ⟨x1, c, s⟩).1 = x1) := rfl
          clear hbk hBk hj32 hj hlt HBK HBJ HO hP
          cases s with
          | true =>
            have HS' : Hid (rep c 31 = (mdOne ⟨x1, c, true⟩).2) := rfl
            have HCV0 : Hid (∀ W, Below wr.heap.size wr W → (convert 61 9 (.slice (some ⟨gb, 1, none⟩) 31 31)).run Tryd.prog W = .ok (.string (str (rep c 31))) W) := fun W hb => conv_tail c gb _ W (HP.out.below hb)
            obtain ⟨S, hS⟩ : ∃ z, str (rep c 31) = z := ⟨_, rfl⟩
            rw [hS] at HCV0
            have HS : Hid (S = str (mdOne ⟨x1, c, true⟩).2) := hS.symm
            have HCV := HCV0
            clear HCV0 HS' hS
            go_upto_region 12 with fail
            refine wp_region_slots_f (by kernel_rfl) 10 [39, 40, 41, 42, 43, 44, 45, 46, 47, 48] (by kernel_rfl) (MdG A5 k c5 b oo n cp x1 gb 1 31 S) (MdG_mono _ _ _ _ _ _ _ _ _ _ _ _ ) ?_ ?_
            · intro i o vs ρ W hi ho hρ hfn hb hG
              have hc := hρ.const
              have e0 : W.cell? ⟨b, oo + k * 3, none⟩ = some (.int .i64 x1) := by rw [hb.cell (p := ⟨b, oo + k * 3, none⟩) lb2]; exact E0.out
              rcases i with _ | _ | _ | _ | _ | _ | _ | _ | _ | _ | i
              all_goals (first | omega | skip)
              all_goals simp only [List.getElem?_toArray, List.getElem?_cons_zero, List.getElem?_cons_succ, Option.some.injEq] at ho
              all_goals subst ho
              · have o3 : ρ (.tmp 3) = .slice A5 k c5 := hρ.out 3 rfl
                exact stepTo_value (w' := W) (by unfold execOp; simp only [o3, hc]; go_simp) ⟨Below.refl _ _, rfl⟩
              · have o0 : ρ (.tmp 0) = .slice (some ⟨b, oo, none⟩) n cp := hρ.out 0 rfl
                exact stepTo_value (w' := W) (by unfold execOp; simp only [o0, hc]; go_simp) ⟨Below.refl _ _, rfl⟩
              · have o4 : ρ (.tmp 4) = .int .i64 (k : Int) := hρ.out 4 rfl
                exact stepTo_value (w' := W) (by unfold execOp; simp only [o4, hc]; go_simp) ⟨Below.refl _ _, rfl⟩
              · have g40 : vs 1 = .slice (some ⟨b, oo, none⟩) n cp := hG 1 (by kernel_rfl)
                have s40 := (hρ.at_ 40 1 rfl).trans g40
                have g41 : vs 2 = .int .i64 (k : Int) := hG 2 (by kernel_rfl)
                have s41 := (hρ.at_ 41 2 rfl).trans g41
                exact stepTo_value (w' := W) (by unfold execOp; simp only [s40, s41, hc]; go_simp) ⟨Below.refl _ _, rfl⟩
              · have g42 : vs 3 = .pointer (some ⟨b, oo + k * 3, none⟩) := hG 3 (by kernel_rfl)
                have s42 := (hρ.at_ 42 3 rfl).trans g42
                exact stepTo_value (w' := W) (by unfold execOp; simp only [s42, hc]; go_simp) ⟨Below.refl _ _, rfl⟩
              · have g43 : vs 4 = .pointer (some ⟨b, oo + k * 3, none⟩) := hG 4 (by kernel_rfl)
                have s43 := (hρ.at_ 43 4 rfl).trans g43
                exact stepTo_value (w' := W) (by unfold execOp; simp only [s43, hc]; go_simp) ⟨Below.refl _ _, rfl⟩
              · have o5 : ρ (.tmp 5) = .slice (some ⟨gb, 1, none⟩) 31 31 := hρ.out 5 rfl
                exact stepTo_value (w' := W) (by unfold execOp; simp only [o5, hc]; go_simp) ⟨Below.refl _ _, rfl⟩
              · have g45 : vs 6 = .slice (some ⟨gb, 1, none⟩) 31 31 := hG 6 (by kernel_rfl)
                have s45 := (hρ.at_ 45 6 rfl).trans g45
                have hcv := HCV.out W hb
                exact stepTo_value (w' := W) (by unfold execOp; simp only [s45]; go_simp) ⟨Below.refl _ _, rfl⟩
              · have g44 : vs 5 = .int .i64 x1 := hG 5 (by kernel_rfl)
                have s44 := (hρ.at_ 44 5 rfl).trans g44
                have g46 : vs 7 = .string S := hG 7 (by kernel_rfl)
                have s46 := (hρ.at_ 46 7 rfl).trans g46
                exact stepTo_value (w' := W) (by unfold execOp; simp only [s44, s46, hc]; go_simp) ⟨Below.refl _ _, rfl⟩
              · have g47 : vs 8 = .agg #[.int .i64 x1, .string S] := hG 8 (by kernel_rfl)
                have s47 := (hρ.at_ 47 8 rfl).trans g47
                exact stepTo_value (w' := W.alloc (.cells #[.int .i64 x1, .string S] 36)) (v := .slice (some ⟨W.heap.size, 0, none⟩) 1 1) (by unfold execOp; simp only [s47]; go_simp) ⟨(Below.refl _ W).alloc (Nat.le_refl _) _, W.heap.size, rfl, Blk.new _ _ _⟩
            · intro vs W hb hG
              have g0 : vs 0 = .slice A5 k c5 := hG 0 (by decide)
              obtain ⟨g, g9, hbk⟩ := hG 9 (by decide)
              have B2 := Lib.hid (below_step HB2.out hb)
              have HO2 : Hid (W.ownsRow w.heap.size 36 2 (.slice A5 k c5) k (chVals (mdOf (l.take k)))) := by
                have ho := HO1.out
                unfold OChs at ho
                rw [HLN.out] at ho
                exact row_of_block ho (fun j hj => hb.block j (ho.lt j hj).2)
              have HNW := Lib.hid (news_blk hbk)
              simp only [putList, putSel, if_true]
              rw [g0, g9]
              generalize vs 1 = y1
              generalize vs 2 = y2
              generalize vs 3 = y3
              generalize vs 4 = y4
              generalize vs 5 = y5
              generalize vs 6 = y6
              generalize vs 7 = y7
              generalize vs 8 = y8
              clear hG g0 g9 hbk
              simp only [Act.put, List.setIfInBounds_toArray, List.set_cons_succ, List.set_cons_zero]
              refine wpAny_one (i := 10) (by kernel_rfl) rfl rfl ?_
              refine wp_append_own W (.tmp 39) (.tmp 48) 27 rfl w.heap.size 36 i0 (.agg #[.int .i64 0, .string ByteArray.empty]) 2 24 Tryd.underlying27 hi hz0 hz1 hz2 rfl (by decide) _ k _ rfl HO2.out ⟨g, 0, none⟩ 1 1 [.int .i64 x1, .string S] rfl rfl HNW.out (one2 _ _) (by unfold maxLen; omega) (by omega) B2.out.size ?_
              intro v' w1 hown hgrow _
              have HB3 := Lib.hid (B2.out.grown hgrow B2.out.size (fun j hj => (HO2.out.lt j hj).1))
              have HOS : Hid (OChs w1 w.heap.size v' (mdOf (l.take (k + 1)))) := by
                unfold Hid
                rw [HSN.out]
                refine ochs_snoc ?_
                rw [HLN.out, ← HS.out, HX1.out]
                exact hown
              clear hown hgrow hb
              go_simp
              refine wpAny_one (i := 11) (by kernel_rfl) rfl rfl ?_
              go_simp
              refine ⟨by kernel_rfl, ?_⟩
              go_wp2_with fail
              go_roundw
              case rel => exact ⟨k + 1, by omega, by omega, by go_num, HOS.out, HB3.out⟩
              case measure => simp [intOf]; omega
          | false =>
            have HCV0 : Hid (∀ W, Below wr.heap.size wr W → (convert 61 9 (.slice (some ⟨gb, 0, none⟩) 32 32)).run Tryd.prog W = .ok (.string (str (rep c 32))) W) := fun W hb => conv_block (rep c 32) gb 32 _ W (rep_length _ _) (HP.out.below hb)
            obtain ⟨S, hS⟩ : ∃ z, str (rep c 32) = z := ⟨_, rfl⟩
            rw [hS] at HCV0
            have HS : Hid (S = str (mdOne ⟨x1, c, false⟩).2) := hS.symm
            have HCV := HCV0
            clear HCV0 hS
            go_upto_region 12 with fail
            refine wp_region_slots_f (by kernel_rfl) 10 [39, 40, 41, 42, 43, 44, 45, 46, 47, 48] (by kernel_rfl) (MdG A5 k c5 b oo n cp x1 gb 0 32 S) (MdG_mono _ _ _ _ _ _ _ _ _ _ _ _ ) ?_ ?_
            · intro i o vs ρ W hi ho hρ hfn hb hG
              have hc := hρ.const
              have e0 : W.cell? ⟨b, oo + k * 3, none⟩ = some (.int .i64 x1) := by rw [hb.cell (p := ⟨b, oo + k * 3, none⟩) lb2]; exact E0.out
              rcases i with _ | _ | _ | _ | _ | _ | _ | _ | _ | _ | i
              all_goals (first | omega | skip)
              all_goals simp only [List.getElem?_toArray, List.getElem?_cons_zero, List.getElem?_cons_succ, Option.some.injEq] at ho
              all_goals subst ho
              · have o3 : ρ (.tmp 3) = .slice A5 k c5 := hρ.out 3 rfl
                exact stepTo_value (w' := W) (by unfold execOp; simp only [o3, hc]; go_simp) ⟨Below.refl _ _, rfl⟩
              · have o0 : ρ (.tmp 0) = .slice (some ⟨b, oo, none⟩) n cp := hρ.out 0 rfl
                exact stepTo_value (w' := W) (by unfold execOp; simp only [o0, hc]; go_simp) ⟨Below.refl _ _, rfl⟩
              · have o4 : ρ (.tmp 4) = .int .i64 (k : Int) := hρ.out 4 rfl
                exact stepTo_value (w' := W) (by unfold execOp; simp only [o4, hc]; go_simp) ⟨Below.refl _ _, rfl⟩
              · have g40 : vs 1 = .slice (some ⟨b, oo, none⟩) n cp := hG 1 (by kernel_rfl)
                have s40 := (hρ.at_ 40 1 rfl).trans g40
                have g41 : vs 2 = .int .i64 (k : Int) := hG 2 (by kernel_rfl)
                have s41 := (hρ.at_ 41 2 rfl).trans g41
                exact stepTo_value (w' := W) (by unfold execOp; simp only [s40, s41, hc]; go_simp) ⟨Below.refl _ _, rfl⟩
              · have g42 : vs 3 = .pointer (some ⟨b, oo + k * 3, none⟩) := hG 3 (by kernel_rfl)
                have s42 := (hρ.at_ 42 3 rfl).trans g42
                exact stepTo_value (w' := W) (by unfold execOp; simp only [s42, hc]; go_simp) ⟨Below.refl _ _, rfl⟩
              · have g43 : vs 4 = .pointer (some ⟨b, oo + k * 3, none⟩) := hG 4 (by kernel_rfl)
                have s43 := (hρ.at_ 43 4 rfl).trans g43
                exact stepTo_value (w' := W) (by unfold execOp; simp only [s43, hc]; go_simp) ⟨Below.refl _ _, rfl⟩
              · have o5 : ρ (.tmp 5) = .slice (some ⟨gb, 0, none⟩) 32 32 := hρ.out 5 rfl
                exact stepTo_value (w' := W) (by unfold execOp; simp only [o5, hc]; go_simp) ⟨Below.refl _ _, rfl⟩
              · have g45 : vs 6 = .slice (some ⟨gb, 0, none⟩) 32 32 := hG 6 (by kernel_rfl)
                have s45 := (hρ.at_ 45 6 rfl).trans g45
                have hcv := HCV.out W hb
                exact stepTo_value (w' := W) (by unfold execOp; simp only [s45]; go_simp) ⟨Below.refl _ _, rfl⟩
              · have g44 : vs 5 = .int .i64 x1 := hG 5 (by kernel_rfl)
                have s44 := (hρ.at_ 44 5 rfl).trans g44
                have g46 : vs 7 = .string S := hG 7 (by kernel_rfl)
                have s46 := (hρ.at_ 46 7 rfl).trans g46
                exact stepTo_value (w' := W) (by unfold execOp; simp only [s44, s46, hc]; go_simp) ⟨Below.refl _ _, rfl⟩
              · have g47 : vs 8 = .agg #[.int .i64 x1, .string S] := hG 8 (by kernel_rfl)
                have s47 := (hρ.at_ 47 8 rfl).trans g47
                exact stepTo_value (w' := W.alloc (.cells #[.int .i64 x1, .string S] 36)) (v := .slice (some ⟨W.heap.size, 0, none⟩) 1 1) (by unfold execOp; simp only [s47]; go_simp) ⟨(Below.refl _ W).alloc (Nat.le_refl _) _, W.heap.size, rfl, Blk.new _ _ _⟩
            · intro vs W hb hG
              have g0 : vs 0 = .slice A5 k c5 := hG 0 (by decide)
              obtain ⟨g, g9, hbk⟩ := hG 9 (by decide)
              have B2 := Lib.hid (below_step HB2.out hb)
              have HO2 : Hid (W.ownsRow w.heap.size 36 2 (.slice A5 k c5) k (chVals (mdOf (l.take k)))) := by
                have ho := HO1.out
                unfold OChs at ho
                rw [HLN.out] at ho
                exact row_of_block ho (fun j hj => hb.block j (ho.lt j hj).2)
              have HNW := Lib.hid (news_blk hbk)
              simp only [putList, putSel, if_true]
              rw [g0, g9]
              generalize vs 1 = y1
              generalize vs 2 = y2
              generalize vs 3 = y3
              generalize vs 4 = y4
              generalize vs 5 = y5
              generalize vs 6 = y6
              generalize vs 7 = y7
              generalize vs 8 = y8
              clear hG g0 g9 hbk
              simp only [Act.put, List.setIfInBounds_toArray, List.set_cons_succ, List.set_cons_zero]
              refine wpAny_one (i := 10) (by kernel_rfl) rfl rfl ?_
              refine wp_append_own W (.tmp 39) (.tmp 48) 27 rfl w.heap.size 36 i0 (.agg #[.int .i64 0, .string ByteArray.empty]) 2 24 Tryd.underlying27 hi hz0 hz1 hz2 rfl (by decide) _ k _ rfl HO2.out ⟨g, 0, none⟩ 1 1 [.int .i64 x1, .string S] rfl rfl HNW.out (one2 _ _) (by unfold maxLen; omega) (by omega) B2.out.size ?_
              intro v' w1 hown hgrow _
              have HB3 := Lib.hid (B2.out.grown hgrow B2.out.size (fun j hj => (HO2.out.lt j hj).1))
              have HOS : Hid (OChs w1 w.heap.size v' (mdOf (l.take (k + 1)))) := by
                unfold Hid
                rw [HSN.out]
                refine ochs_snoc ?_
                rw [HLN.out, ← HS.out, HX1.out]
                exact hown
              clear hown hgrow hb
              go_simp
              refine wpAny_one (i := 11) (by kernel_rfl) rfl rfl ?_
              go_simp
              refine ⟨by kernel_rfl, ?_⟩
              go_wp2_with fail
              go_roundw
              case rel => exact ⟨k + 1, by omega, by omega, by go_num, HOS.out, HB3.out⟩
              case measure => simp [intOf]; omega
    · have HE2 := Lib.hid (HE.out hgo)
      by_cases hkl : (k : Int) < (n : Int)
      · have hk1 : ¬ ((k : Int) < 30) := by omega
        go_wp2_with fail
        go_ret
        exact ⟨_, rfl, by rw [← HE2.out]; exact HO.out, HB.out⟩
      · go_wp2_with fail
        go_ret
        exact ⟨_, rfl, by rw [← HE2.out]; exact HO.out, HB.out⟩
end Go.Proofs.YtchdamlnbmngbaaDoor.st

