/- MgEnc, MtProg, SlcG, MtArgs. -/
import Derived.Test.YtklmgdiaianlbaaQ12
import Derived.Test.YtklmgdiaianlbaaQ14
import Derived.Test.YtklmgdiaianlbaaQ3
import Derived.Test.YtklmgdiaianlbaaQ9
import Derived.Deep.Slices
import Derived.Deep.Fields
import Derived.ChangeSame
import Derived.OpenShut
import Derived.Deep.SlicePairs
import Derived.ChangeSlices
set_option linter.unusedVariables false
set_option linter.unusedSimpArgs false
/- A table's bytes, as the program lays them: put, Encode. -/
namespace Go.Proofs.Ytklmgdiaianlbaa.mt.pg
open Go Go.RowKit Go.Proofs.Ytklmgdiaianlbaa.ib Go.Proofs.Ytklmgdiaianlbaa.wi Go.Proofs.Ytklmgdiaianlbaa.im Go.Proofs.Ytklmgdiaianlbaa.mt
set_option maxRecDepth 100000

/-- A table that can be laid. -/
structure PutF (m : Mt) : Prop where
  live : ∀ z ∈ m.live, 0 ≤ z
  few : m.live.length ≤ 8
  snaps : ∀ s ∈ m.snaps, gdB s.g ∧ s.img.length ≤ 8 ∧ ∀ z ∈ s.img, 0 ≤ z
  fews : m.snaps.length ≤ 20
  tok : TkF m.tok
theorem putF_ok {m : Mt} (hB : mB m) (h : mCheck m m.live.length 1024 = 0) : PutF m ∧ tkP m.tok = tkB m.tok := by
  obtain ⟨h1, h2, h3, h4⟩ := check_ok hB h
  have ht := h1.tok
  unfold okTk at ht
  refine ⟨⟨fun z hz => (h1.live z hz).1, h3, fun s hs => ⟨(h1.snaps s hs).1, by rw [(h1.snaps s hs).2.1]; exact h3, fun z hz => ((h1.snaps s hs).2.2 z hz).1⟩, h4, ?_⟩, ?_⟩
  · by_cases h0 : m.tok.target = (0, 0)
    · rw [if_pos h0] at ht
      rw [ht]
      exact ⟨gdB0, gdB0, by unfold tk0; simp, by unfold tk0; simp, fun z hz => absurd hz (by simp [tk0]), by simp [tk0]⟩
    · rw [if_neg h0] at ht
      obtain ⟨a1, a2, a3, a4, a5, a6⟩ := ht
      exact ⟨a1, a2, by omega, by omega, fun z hz => (a6 z hz).1, by omega⟩
  · unfold tkP tkB
    by_cases h0 : m.tok.target = (0, 0)
    · rw [if_pos h0] at ht
      rw [if_pos h0, if_pos ht]
    · rw [if_neg h0, if_neg]
      intro e
      exact h0 (by rw [e]; rfl)
def PtRel (L : List UInt8) (xs : List Sp) (w : World) (v x i : Value) (wr : World) : Prop :=
  ∃ k : Nat, k ≤ xs.length ∧ i = .int .i64 (k : Int) ∧ v = .string (str (L ++ spsB (xs.take k))) ∧ Below w.heap.size w wr

set_option maxHeartbeats 6400000 in
theorem put_any (A0 A1 A2 : Option Addr) (d0 d1 d2 : Nat) (m : Mt) (w : World) (hm : MtL w A0 A1 A2 d0 d1 d2 m) (hf : PutF m) : Calls Try.prog 47 #[.agg (mtC A0 A1 A2 d0 d1 d2 m)] w (endT (numB m.live.length ++ (intsB m.live ++ (numB m.snaps.length ++ (spsB m.snaps ++ tkP m.tok)))) w) := by
  have HF := Lib.hid hf
  have hb := (Below.refl w.heap.size w).alloc (Nat.le_refl _) (.cells (mtC A0 A1 A2 d0 d1 d2 m) 30)
  have ha := Blk.new w 30 (mtC A0 A1 A2 d0 d1 d2 m)
  obtain ⟨W, hW⟩ : ∃ z, w.alloc (.cells (mtC A0 A1 A2 d0 d1 d2 m) 30) = z := ⟨_, rfl⟩
  rw [hW] at hb ha
  have HM := Lib.hid (hm.below hb)
  have HB := Lib.hid hb
  have HA := Lib.hid ha
  have a0 := ha.cell 0
  have hla := ha.lt
  simp only [mtC, List.getElem?_toArray, List.getElem?_cons_zero, List.getElem?_cons_succ] at a0
  clear hb ha hm hf
  have HNL : Hid (m.live.length ≤ 8) := HF.out.few
  have HNS : Hid (m.snaps.length ≤ 20) := HF.out.fews
  unfold mtC at hW ⊢
  go_enter Try.func47, Try.ntmps47
  go_upto_region 1 with fail
  try rw [hW]
  clear hW
  go_wp2_with fail
  have l0 := lay1 [] (m.live.length : Int) W (by omega) (by have := HNL.out; omega) (by simp)
  refine l0.mono ?_
  clear l0
  rintro e W1 ⟨rfl, hb1⟩
  have HB1 := Lib.hid (below_step HB.out hb1)
  have ha := HA.out.below hb1
  have HA1 := Lib.hid ha
  have HM1 := Lib.hid (HM.out.below hb1)
  obtain ⟨L1, hL1⟩ : ∃ x, [] ++ intB (m.live.length : Int) = x := ⟨_, rfl⟩
  have HL1 : Hid (L1 = numB m.live.length) := by unfold Hid; rw [← hL1]; simp [intB]
  rw [hL1]
  have a0 := ha.cell 0
  have hla := ha.lt
  simp only [mtC, List.getElem?_toArray, List.getElem?_cons_zero, List.getElem?_cons_succ] at a0
  clear hb1 ha hL1 HM HA HB
  go_wp2_with fail
  refine (lay_any L1 A0 d0 m.live W1 HM1.out.live.ints HF.out.live (by rw [HL1.out]; have := numB_len m.live.length; omega) (by have := HNL.out; omega)).mono ?_
  rintro e W2 ⟨rfl, hb2⟩
  have HB2 := Lib.hid (below_step HB1.out hb2)
  have ha := HA1.out.below hb2
  have HA2 := Lib.hid ha
  have HM2 := Lib.hid (HM1.out.below hb2)
  obtain ⟨L2, hL2⟩ : ∃ x, L1 ++ intsB m.live = x := ⟨_, rfl⟩
  have HL2 : Hid (L2 = numB m.live.length ++ intsB m.live) := by unfold Hid; rw [← hL2, HL1.out]
  have HS2 : Hid (L2.length ≤ 81) := by
    unfold Hid
    rw [HL2.out, List.length_append]
    have := numB_len m.live.length
    have := intsB_len m.live
    have := HNL.out
    omega
  rw [hL2]
  have a1 := ha.cell 1
  have hla := ha.lt
  simp only [mtC, List.getElem?_toArray, List.getElem?_cons_zero, List.getElem?_cons_succ] at a1
  clear hb2 ha hL2 HM1 HA1 HB1 a0
  go_wp2_with fail
  refine (lay1 L2 (m.snaps.length : Int) W2 (by omega) (by have := HNS.out; omega) (by have := HS2.out; omega)).mono ?_
  rintro e W3 ⟨rfl, hb3⟩
  have HB3 := Lib.hid (below_step HB2.out hb3)
  have ha := HA2.out.below hb3
  have HA3 := Lib.hid ha
  have HM3 := Lib.hid (HM2.out.below hb3)
  obtain ⟨L3, hL3⟩ : ∃ x, L2 ++ intB (m.snaps.length : Int) = x := ⟨_, rfl⟩
  have HL3 : Hid (L3 = numB m.live.length ++ (intsB m.live ++ numB m.snaps.length)) := by unfold Hid; rw [← hL3, HL2.out]; simp [intB]
  have HS3 : Hid (L3.length ≤ 90) := by
    unfold Hid
    rw [← hL3, List.length_append]
    have := numB_len (m.snaps.length : Int).toNat
    have := HS2.out
    unfold intB
    omega
  rw [hL3]
  have a1 := ha.cell 1
  have hla := ha.lt
  simp only [mtC, List.getElem?_toArray, List.getElem?_cons_zero, List.getElem?_cons_succ] at a1
  clear hb3 ha hL3 HM2 HA2 HB2
  have HSL : Hid ((spsB m.snaps).length ≤ 1980) := by
    unfold Hid
    have := spsB_len m.snaps (fun x hx => (HF.out.snaps x hx).2.1)
    have := HNS.out
    omega
  have HSK : Hid (∀ k, k ≤ m.snaps.length → (spsB (m.snaps.take k)).length ≤ 1980) := fun k hk => by
    have := spsB_len (m.snaps.take k) (fun x hx => (HF.out.snaps x (List.mem_of_mem_take hx)).2.1)
    have := HNS.out
    have h3 : (m.snaps.take k).length ≤ 20 := by simp only [List.length_take]; omega
    omega
  obtain ⟨len, hlen⟩ : ∃ k, m.snaps.length = k := ⟨_, rfl⟩
  have HLEN := Lib.hid hlen
  rw [hlen] at a1 HNS HSK
  clear hlen
  go_wp2_with fail
  clear a1
  go_loopw [3, 5, 24] (fun v x i wr => PtRel L3 m.snaps W3 v x i wr) (fun _ _ i _ => len - (intOf i).toNat)
  case atStart => exact ⟨0, Nat.zero_le _, rfl, by simp [spsB], Below.refl _ _⟩
  case round =>
    obtain ⟨k, hk, rfl, rfl, hbw⟩ := hrel
    have HBW := Lib.hid hbw
    have HAW := Lib.hid (HA3.out.below hbw)
    have HMW := Lib.hid (HM3.out.below hbw)
    rw [HLEN.out] at hk
    clear hbw
    obtain ⟨P, hP⟩ : ∃ x, L3 ++ spsB (m.snaps.take k) = x := ⟨_, rfl⟩
    have HP := Lib.hid hP
    have HPS : Hid (P.length ≤ 2100) := by
      unfold Hid
      rw [← hP, List.length_append]
      have := HS3.out
      have := HSK.out k hk
      omega
    rw [hP]
    clear hP
    by_cases hlt : k < len
    · have hki : (k : Int) < (len : Int) := by omega
      have hk20 : k ≤ 20 := by have := HNS.out; omega
      have hkm : k < m.snaps.length := by rw [HLEN.out]; exact hlt
      obtain ⟨bb, bo, B, cb, hA1, hlb, e0, e1, e2, e3, hsl, hgd⟩ := HMW.out.snaps k hkm
      have hsf := HF.out.snaps _ (List.getElem_mem hkm)
      have HSN := Lib.hid (spsB_snoc m.snaps k hkm)
      obtain ⟨x, hx⟩ : ∃ x, m.snaps[k] = x := ⟨_, rfl⟩
      rw [hx] at e0 e1 e2 e3 hsl hgd hsf HSN
      have HSF := Lib.hid hsf
      subst hA1
      have HSI := Lib.hid hsl
      clear hsl hgd hx hsf
      obtain ⟨W4, hW4⟩ : ∃ z, wr.alloc (.cells (snC x B cb) 48) = z := ⟨_, rfl⟩
      have hb4 : Below wr.heap.size wr W4 := by rw [← hW4]; exact (Below.refl _ wr).alloc (Nat.le_refl _) _
      have hS : Blk W4 wr.heap.size 48 (snC x B cb) := by rw [← hW4]; exact Blk.new _ _ _
      have HB4 := Lib.hid (below_step HBW.out hb4)
      have HI4 := Lib.hid (HSI.out.below hb4)
      have HS4 := Lib.hid hS
      have x0 := hS.cell 0
      have x1 := hS.cell 1
      have hlx := hS.lt
      simp only [snC, List.getElem?_toArray, List.getElem?_cons_zero, List.getElem?_cons_succ] at x0 x1
      unfold snC at hW4
      clear hS hb4 HSI
      go_upto_region 7 with fail
      try rw [hW4]
      clear hW4 e0 e1 e2 e3
      obtain ⟨gs, hgs⟩ : ∃ g, wr.heap.size = g := ⟨_, rfl⟩
      rw [hgs] at x0 x1 hlx HS4
      try rw [hgs]
      clear hgs
      go_wp2_with fail
      refine (layG P x.g W4 HSF.out.1 (by have := HPS.out; omega)).mono ?_
      rintro e W5 ⟨rfl, hb5⟩
      have HB5 := Lib.hid (below_step HB4.out hb5)
      have HI5 := Lib.hid (HI4.out.below hb5)
      have hS := HS4.out.below hb5
      have HS5 := Lib.hid hS
      obtain ⟨P1, hP1⟩ : ∃ y, P ++ gdBs x.g = y := ⟨_, rfl⟩
      have HP1 := Lib.hid hP1
      have HPS1 : Hid (P1.length ≤ 2200) := by
        unfold Hid
        rw [← hP1, List.length_append]
        have := HPS.out
        have := numB_len x.g.1
        have := numB_len x.g.2
        unfold gdBs
        simp only [List.length_append]
        omega
      rw [hP1]
      have x3 := hS.cell 3
      have hlx := hS.lt
      simp only [snC, List.getElem?_toArray, List.getElem?_cons_zero, List.getElem?_cons_succ] at x3
      clear hb5 hS hP1 x0 x1 HS4 HI4
      go_wp2_with fail
      refine (flag_any x.hid W5).mono ?_
      rintro e _ ⟨rfl, rfl⟩
      obtain ⟨fl, hfl⟩ : ∃ z : Int, (if x.hid = true then 1 else 0) = z := ⟨_, rfl⟩
      rw [hfl]
      have HFL := Lib.hid hfl
      have hfb : 0 ≤ fl ∧ fl ≤ 1 := by rw [← hfl]; split <;> omega
      have HFB := Lib.hid hfb
      clear hfl hfb
      go_wp2_with fail
      refine (lay1 P1 fl _ HFB.out.1 (by have := HFB.out.2; omega) (by have := HPS1.out; omega)).mono ?_
      rintro e W6 ⟨rfl, hb6⟩
      have HB6 := Lib.hid (below_step HB5.out hb6)
      have HI6 := Lib.hid (HI5.out.below hb6)
      have hS := HS5.out.below hb6
      obtain ⟨P2, hP2⟩ : ∃ y, P1 ++ intB fl = y := ⟨_, rfl⟩
      have HP2 := Lib.hid hP2
      have HPS2 : Hid (P2.length ≤ 2300) := by
        unfold Hid
        rw [← hP2, List.length_append]
        have := HPS1.out
        have := numB_len fl.toNat
        unfold intB
        omega
      rw [hP2]
      have x2 := hS.cell 2
      have hlx := hS.lt
      simp only [snC, List.getElem?_toArray, List.getElem?_cons_zero, List.getElem?_cons_succ] at x2
      clear hb6 hS hP2 x3 HS5 HI5
      go_wp2_with fail
      refine (lay_any P2 B cb x.img W6 HI6.out.ints HSF.out.2.2 (by have := HPS2.out; omega) (by have := HSF.out.2.1; omega)).mono ?_
      rintro e W7 ⟨rfl, hb7⟩
      have HB7 := Lib.hid (below_step HB6.out hb7)
      have HE : Hid (P2 ++ intsB x.img = L3 ++ spsB (m.snaps.take (k + 1))) := by
        unfold Hid
        rw [HSN.out, ← HP2.out, ← HP1.out, ← HP.out, ← HFL.out]
        unfold spB
        rw [hid_num]
        simp only [List.append_assoc]
      rw [HE.out]
      clear hb7 x2 hlx
      go_wp2_with fail
      go_roundw
      case rel => exact ⟨k + 1, by rw [HLEN.out]; omega, by go_num, rfl, HB7.out⟩
      case measure => simp [intOf]; omega
    · have hki : ¬ (k : Int) < (len : Int) := by omega
      obtain rfl : k = len := by omega
      have HE : Hid (P = L3 ++ spsB m.snaps) := by
        unfold Hid
        rw [← HP.out, List.take_of_length_le (by have := HLEN.out; omega)]
      have ha := HAW.out
      have a2 := ha.cell 2
      have a3 := ha.cell 3
      have a4 := ha.cell 4
      have a5 := ha.cell 5
      have a6 := ha.cell 6
      have a7 := ha.cell 7
      have a8 := ha.cell 8
      have hla := ha.lt
      simp only [mtC, List.getElem?_toArray, List.getElem?_cons_zero, List.getElem?_cons_succ] at a2 a3 a4 a5 a6 a7 a8
      have HT := Lib.hid (putToken_any P m.tok A2 d2 wr HMW.out.img HF.out.tok (by have := HPS.out; omega))
      unfold tkC at HT
      clear ha HP
      go_wp2_with fail
      refine HT.out.mono ?_
      rintro e W4 ⟨rfl, hb4⟩
      have HB4 := Lib.hid (below_step (below_step HB3.out HBW.out) hb4)
      have HE2 : Hid (P ++ tkP m.tok = numB m.live.length ++ (intsB m.live ++ (numB m.snaps.length ++ (spsB m.snaps ++ tkP m.tok)))) := by
        unfold Hid
        rw [HE.out, HL3.out]
        simp only [List.append_assoc]
      rw [HE2.out]
      clear hb4 a2 a3 a4 a5 a6 a7 a8 HT
      go_wp2_with fail
      go_ret
      exact ⟨rfl, HB4.out⟩

set_option maxHeartbeats 3200000 in
theorem enc_any (v : Value) (m : Mt) (w : World) (h : MtAt w v m) (hs : mtS m) : Calls Try.prog 13 #[v] w (endS (mEnc m) w) := by
  have hmB := h.mB
  obtain ⟨A0, A1, A2, d0, d1, d2, rfl, hm⟩ := h
  have HMB := Lib.hid hmB
  have HSZ := Lib.hid hs
  have hb := (Below.refl w.heap.size w).alloc (Nat.le_refl _) (.cells (mtC A0 A1 A2 d0 d1 d2 m) 30)
  have ha := Blk.new w 30 (mtC A0 A1 A2 d0 d1 d2 m)
  obtain ⟨W, hW⟩ : ∃ z, w.alloc (.cells (mtC A0 A1 A2 d0 d1 d2 m) 30) = z := ⟨_, rfl⟩
  rw [hW] at hb ha
  have HM := Lib.hid (hm.below hb)
  have HB := Lib.hid hb
  have HA := Lib.hid ha
  have a0 := ha.cell 0
  have a1 := ha.cell 1
  have a2 := ha.cell 2
  have a3 := ha.cell 3
  have a4 := ha.cell 4
  have a5 := ha.cell 5
  have a6 := ha.cell 6
  have a7 := ha.cell 7
  have a8 := ha.cell 8
  have hla := ha.lt
  simp only [mtC, List.getElem?_toArray, List.getElem?_cons_zero, List.getElem?_cons_succ] at a0 a1 a2 a3 a4 a5 a6 a7 a8
  have HC := Lib.hid (check_any (.agg (mtC A0 A1 A2 d0 d1 d2 m)) m (m.live.length : Int) 1024 W ⟨_, _, _, _, _, _, rfl, HM.out⟩ hs (by unfold i64B; have := hs.live; omega) (by unfold i64B; omega))
  clear hb ha hm hs hmB
  have HENC : Hid (mEnc m = if mCheck m m.live.length 1024 ≠ 0 then ([], mCheck m m.live.length 1024) else if 48 < nsec (mBytes m).length then ([], 3) else (mBytes m, 0)) := rfl
  have HPF : Hid (mCheck m m.live.length 1024 = 0 → PutF m ∧ tkP m.tok = tkB m.tok) := fun hq => putF_ok HMB.out hq
  obtain ⟨er, her⟩ : ∃ z, mCheck m m.live.length 1024 = z := ⟨_, rfl⟩
  rw [her] at HC HENC HPF
  unfold mtC at hW HC ⊢
  clear her
  go_enter Try.func13, Try.ntmps13
  go_upto_region 1 with fail
  try rw [hW]
  clear hW
  go_wp2_with fail
  refine HC.out.mono ?_
  rintro e W1 ⟨rfl, hb1⟩
  have HB1 := Lib.hid (below_step HB.out hb1)
  have HM1 := Lib.hid (HM.out.below hb1)
  have ha := HA.out.below hb1
  clear hb1 HC a0 a1 a2 a3 a4 a5 a6 a7 a8 hla
  by_cases he : er = 0
  · subst he
    obtain ⟨hpf, htk⟩ := HPF.out rfl
    have HPU := Lib.hid (put_any A0 A1 A2 d0 d1 d2 m W1 HM1.out hpf)
    have HMBY : Hid (numB m.live.length ++ (intsB m.live ++ (numB m.snaps.length ++ (spsB m.snaps ++ tkP m.tok))) = mBytes m) := by unfold Hid; rw [htk]; rfl
    rw [HMBY.out] at HPU
    have HLB : Hid ((mBytes m).length ≤ 100000) := by
      unfold Hid
      rw [← HMBY.out]
      have t1 := spsB_len m.snaps (fun x hx => (hpf.snaps x hx).2.1)
      have t2 := hpf.fews
      have t3 := hpf.few
      have t4 := numB_len m.live.length
      have t5 := intsB_len m.live
      have t6 := numB_len m.snaps.length
      have t7 : (tkP m.tok).length ≤ 1000 := by
        unfold tkP
        split
        · have := numB_len 0; omega
        · have := numB_len 1
          have := numB_len m.tok.base.1
          have := numB_len m.tok.base.2
          have := numB_len m.tok.target.1
          have := numB_len m.tok.target.2
          have := numB_len m.tok.next.toNat
          have := numB_len m.tok.all.toNat
          have := intsB_len m.tok.img
          have := hpf.tok.few
          unfold gdBs intB
          simp only [List.length_append]
          omega
      simp only [List.length_append]
      omega
    obtain ⟨L, hL⟩ : ∃ x, mBytes m = x := ⟨_, rfl⟩
    rw [hL] at HPU HLB HENC
    have HFI : Hid (mEnc m = fitR L) := by unfold Hid; rw [HENC.out, if_neg (by simp)]; rfl
    have a0 := ha.cell 0
    have a1 := ha.cell 1
    have a2 := ha.cell 2
    have a3 := ha.cell 3
    have a4 := ha.cell 4
    have a5 := ha.cell 5
    have a6 := ha.cell 6
    have a7 := ha.cell 7
    have a8 := ha.cell 8
    have hla := ha.lt
    simp only [mtC, List.getElem?_toArray, List.getElem?_cons_zero, List.getElem?_cons_succ] at a0 a1 a2 a3 a4 a5 a6 a7 a8
    unfold mtC at HPU
    clear hpf htk hL ha
    go_wp2_with fail
    refine HPU.out.mono ?_
    rintro e W2 ⟨rfl, hb2⟩
    have HB2 := Lib.hid (below_step HB1.out hb2)
    clear hb2 a0 a1 a2 a3 a4 a5 a6 a7 a8 hla
    go_wp2_with fail
    refine (fit_any L W2 HLB.out).mono ?_
    rintro e _ ⟨rfl, rfl⟩
    rw [← HFI.out]
    go_wp2_with fail
    go_ret2
    exact ⟨rfl, HB2.out⟩
  · have hne : (er != 0) = true := by simpa using he
    have HR : Hid (mEnc m = ([], er)) := by unfold Hid; rw [HENC.out, if_pos he]
    clear he ha
    go_wp2_with fail
    go_ret2
    exact ⟨by rw [HR.out]; rfl, HB1.out⟩
end Go.Proofs.Ytklmgdiaianlbaa.mt.pg

/- What the landed package's four functions do: Check, Encode, Decode, Same. -/
namespace Go.Proofs.Ytklmgdiaianlbaa.mt.pg
open Go Go.RowKit Go.Proofs.Ytklmgdiaianlbaa.ib Go.Proofs.Ytklmgdiaianlbaa.wi Go.Proofs.Ytklmgdiaianlbaa.im Go.Proofs.Ytklmgdiaianlbaa.mt
set_option maxRecDepth 100000

theorem results_cellslot {fn : Func} {p q : Tmp} {ty : TypeId} (h : fn.results = #[.cell p ty, .tmp q]) (tmps : Array Value) (P : Program) (w : World) (a : Addr) (v1 v2 : Value)
    (hp : tmps.getD p undef = .pointer (some a)) (hq : tmps.getD q undef = v2) (h1 : (loadVar ty a).run P w = .ok v1 w) : (results fn tmps).run P w = .ok (.tuple #[v1, v2]) w := by
  simp only [results, h]
  simp only [Array.getD_eq_getD_getElem?] at hp hq
  simp [Sem.run_bind, Result.andThen, asAddr, hp, hq, h1]
theorem dec_end {w WE : World} {g : Nat} {r : Mt × Int} {v0 v1 v2 : Value} (a : Act) (ha : a.defers = []) (hp : a.tmps.getD 2 undef = .pointer (some ⟨g, 0, none⟩)) (hq : a.tmps.getD 3 undef = .int .i64 r.2)
    (h : Blk WE g 30 (mC v0 v1 v2 r.1.tok)) (hm : MtAt WE (.agg (mC v0 v1 v2 r.1.tok)) r.1) (hb : Below w.heap.size w WE) : bodyPost Try.prog Try.f17 (endM r w) .ret a WE := by
  have hl := load_mt h
  refine bodyPost_ret (v := .tuple #[.agg (mC v0 v1 v2 r.1.tok), .int .i64 r.2]) ?_ ha ⟨_, rfl, hm, hb⟩
  clear h hm
  generalize mC v0 v1 v2 r.1.tok = X at *
  exact results_cellslot Try.results17 a.tmps _ _ ⟨g, 0, none⟩ _ _ hp hq hl

set_option maxHeartbeats 6400000 in
theorem dec_any (s : ByteArray) (w : World) (hs : s.size ≤ 100000) : Calls Try.prog 17 #[.string s] w (endM (mDec (bl s)) w) := by
  have HDI := Lib.hid (dec_is (bl s))
  have hb0 := (Below.refl w.heap.size w).alloc (Nat.le_refl _) (.cells (mZ (.slice none 0 0) (.slice none 0 0)) 30)
  have hA0 := Blk.new w 30 (mZ (.slice none 0 0) (.slice none 0 0))
  obtain ⟨W0, hW0⟩ : ∃ z, w.alloc (.cells (mZ (.slice none 0 0) (.slice none 0 0)) 30) = z := ⟨_, rfl⟩
  rw [hW0] at hb0 hA0
  have HB0 := Lib.hid hb0
  have HA0 := Lib.hid hA0
  have HSZ := Lib.hid hs
  have HN := Lib.hid (new_any s W0 (by omega))
  obtain ⟨D, hD⟩ : ∃ z, mDec (bl s) = z := ⟨_, rfl⟩
  rw [hD] at HDI ⊢
  clear hb0 hA0 hs hD
  unfold mZ at hW0
  go_enter Try.func17, Try.ntmps17
  go_upto_region 1 with fail
  try rw [hW0]
  clear hW0
  go_wp2_with fail
  refine HN.out.mono ?_
  rintro e W1 ⟨c, rfl, hc, hrd, hb1⟩
  have hps : PS W1 c (some (bl s)) := hrd
  have HPS := Lib.hid hps
  have HB1 := Lib.hid (below_step HB0.out hb1)
  have HA1 := Lib.hid (HA0.out.below hb1)
  have HC : Hid (w.heap.size ≤ c ∧ w.heap.size < W1.heap.size) := ⟨Nat.le_trans HB0.out.size hc, HA1.out.lt⟩
  clear hc hrd hb1 hps HB0 HA0 HN
  go_wp2_with fail
  refine (take_any HPS.out).mono ?_
  rintro e W2 ⟨v0, v1, v2, rfl, ho, hbt⟩
  have HB2 : Hid (Below w.heap.size w W2) := HB1.out.trans (hbt.below (fun j hj => by unfold Tc at hj; rw [hj]; exact HC.out.1) HB1.out.size)
  obtain ⟨y, hy⟩ := HPS.out.blk
  have HA2 := Lib.hid (HA1.out.of_block (hbt.block _ HA1.out.lt (blk_type HA1.out hy (by decide))))
  have HSM : Hid (mtS (mP (some (bl s)))) := mts_of ho.ok.1 ho.ok.2
  obtain ⟨m, hm⟩ : ∃ z, mP (some (bl s)) = z := ⟨_, rfl⟩
  rw [hm] at ho HDI HSM ⊢
  have HO2 := Lib.hid ho
  obtain ⟨xs, o0, o1, o2, o3⟩ := ho.at_
  obtain ⟨A0, c0, hv0⟩ := own_form o0
  obtain ⟨A1, c1, hv1⟩ := own_form o1.1
  obtain ⟨A2, c2, hv2⟩ := own_form o2
  have hlx : xs.length = m.snaps.length := by rw [← o3, List.length_map]
  rw [hlx] at hv1
  subst hv0 hv1 hv2
  clear ho o0 o1 o2 o3 hlx hy hm hbt HPS HB1 HA1
  have hb3 := (Below.refl W2.heap.size W2).alloc (Nat.le_refl _) (.cells (mC (.slice A0 m.live.length c0) (.slice A1 m.snaps.length c1) (.slice A2 m.tok.img.length c2) m.tok) 30)
  have hM3 := Blk.new W2 30 (mC (.slice A0 m.live.length c0) (.slice A1 m.snaps.length c1) (.slice A2 m.tok.img.length c2) m.tok)
  obtain ⟨W3, hW3⟩ : ∃ z, W2.alloc (.cells (mC (.slice A0 m.live.length c0) (.slice A1 m.snaps.length c1) (.slice A2 m.tok.img.length c2) m.tok) 30) = z := ⟨_, rfl⟩
  rw [hW3] at hb3 hM3
  have HB3 := Lib.hid (below_step HB2.out hb3)
  have HA3 := Lib.hid (HA2.out.below hb3)
  have HO3 := Lib.hid (HO2.out.kp (r := 1000000) (Kp.of_below hb3) (by decide) (by decide))
  obtain ⟨gm, hgm⟩ : ∃ z, W2.heap.size = z := ⟨_, rfl⟩
  rw [hgm] at hM3
  have HM3 := Lib.hid hM3
  unfold mC at hW3 ⊢
  clear hb3 HB2 HA2 HO2
  go_upto_region 2 with fail
  try rw [hW3]
  try rw [hgm]
  clear hW3 hgm
  have m0 := hM3.cell 0
  have m1 := hM3.cell 1
  have m2 := hM3.cell 2
  have m3 := hM3.cell 3
  have m4 := hM3.cell 4
  have m5 := hM3.cell 5
  have m6 := hM3.cell 6
  have m7 := hM3.cell 7
  have m8 := hM3.cell 8
  simp only [mC, List.getElem?_toArray, List.getElem?_cons_zero, List.getElem?_cons_succ] at m0 m1 m2 m3 m4 m5 m6 m7 m8
  have hlm := hM3.lt
  have HE := Lib.hid (enc_any _ m W3 HO3.out.mt HSM.out)
  unfold mC at HE
  clear hM3
  go_wp2_with fail
  refine HE.out.mono ?_
  rintro e W4 ⟨rfl, hb4⟩
  have HB4 := Lib.hid (below_step HB3.out hb4)
  have HA4 := Lib.hid (HA3.out.below hb4)
  have HO4 := Lib.hid (HO3.out.kp (r := 1000000) (Kp.of_below hb4) (by decide) (by decide))
  have hM4 := HM3.out.below hb4
  clear hb4 HE HB3 HA3 HO3 HM3 m0 m1 m2 m3 m4 m5 m6 m7 m8 hlm
  have a0 := HA4.out.cell 0
  have a1 := HA4.out.cell 1
  have a2 := HA4.out.cell 2
  have a3 := HA4.out.cell 3
  have a4 := HA4.out.cell 4
  have a5 := HA4.out.cell 5
  have a6 := HA4.out.cell 6
  have a7 := HA4.out.cell 7
  have a8 := HA4.out.cell 8
  have m0 := hM4.cell 0
  have m1 := hM4.cell 1
  have m2 := hM4.cell 2
  have m3 := hM4.cell 3
  have m4 := hM4.cell 4
  have m5 := hM4.cell 5
  have m6 := hM4.cell 6
  have m7 := hM4.cell 7
  have m8 := hM4.cell 8
  simp only [mC, mZ, List.getElem?_toArray, List.getElem?_cons_zero, List.getElem?_cons_succ] at m0 m1 m2 m3 m4 m5 m6 m7 m8 a0 a1 a2 a3 a4 a5 a6 a7 a8
  have f0 := HA4.out.frozen 0
  have f1 := HA4.out.frozen 1
  have f2 := HA4.out.frozen 2
  have f3 := HA4.out.frozen 3
  have f4 := HA4.out.frozen 4
  have f5 := HA4.out.frozen 5
  have f6 := HA4.out.frozen 6
  have f7 := HA4.out.frozen 7
  have f8 := HA4.out.frozen 8
  have hlm := hM4.lt
  have hla := HA4.out.lt
  clear hM4
  have hres : Blk W4 w.heap.size 30 (mC nlS nlS nlS tk0) := HA4.out
  have HNO : Hid (mEnc m ≠ (bl s, 0) → D = (mt0, 4)) := fun hn => by rw [HDI.out, if_neg hn]
  have HYES : Hid (mEnc m = (bl s, 0) → D = (m, 0)) := fun hn => by rw [HDI.out, if_pos hn]
  have HF0 : Hid (Blk (setMt W4 w.heap.size nlS nlS nlS tk0) w.heap.size 30 (mC nlS nlS nlS tk0) ∧ MtAt (setMt W4 w.heap.size nlS nlS nlS tk0) (.agg (mC nlS nlS nlS tk0)) mt0 ∧ Below w.heap.size w (setMt W4 w.heap.size nlS nlS nlS tk0)) := ⟨setMt_blk hres, mtat0 _, setMt_below HB4.out (Nat.le_refl _)⟩
  have HF1 : Hid (Blk (setMt W4 w.heap.size (.slice A0 m.live.length c0) (.slice A1 m.snaps.length c1) (.slice A2 m.tok.img.length c2) m.tok) w.heap.size 30 (mC (.slice A0 m.live.length c0) (.slice A1 m.snaps.length c1) (.slice A2 m.tok.img.length c2) m.tok) ∧ MtAt (setMt W4 w.heap.size (.slice A0 m.live.length c0) (.slice A1 m.snaps.length c1) (.slice A2 m.tok.img.length c2) m.tok) (.agg (mC (.slice A0 m.live.length c0) (.slice A1 m.snaps.length c1) (.slice A2 m.tok.img.length c2) m.tok)) m ∧ Below w.heap.size w (setMt W4 w.heap.size (.slice A0 m.live.length c0) (.slice A1 m.snaps.length c1) (.slice A2 m.tok.img.length c2) m.tok)) :=
    ⟨setMt_blk hres, (HO4.out.kp (setMt_kp hres) (by decide) (by decide)).mt, setMt_below HB4.out (Nat.le_refl _)⟩
  clear hres HDI HO4
  obtain ⟨r1, hr1⟩ : ∃ z, (mEnc m).1 = z := ⟨_, rfl⟩
  obtain ⟨r2, hr2⟩ : ∃ z, (mEnc m).2 = z := ⟨_, rfl⟩
  have hR : mEnc m = (r1, r2) := by rw [← hr1, ← hr2]
  rw [hR] at HNO HYES
  rw [hr1, hr2]
  clear hR hr1 hr2
  by_cases h2 : r2 = 0
  case' neg =>
    have hne : (r2 != 0) = true := by simpa using h2
    have HR : Hid (D = (mt0, 4)) := HNO.out (fun e => h2 (Prod.mk.inj e).2)
    clear h2 HNO HYES HF1
    go_wp2_with fail
    show bodyPost _ _ _ _ _ (setMt W4 w.heap.size nlS nlS nlS tk0)
    obtain ⟨WE, hWE⟩ : ∃ z, setMt W4 w.heap.size nlS nlS nlS tk0 = z := ⟨_, rfl⟩
    have hf := HF0.out
    rw [hWE] at hf ⊢
    rw [HR.out]
    exact dec_end (g := w.heap.size) (r := (mt0, 4)) (v0 := nlS) (v1 := nlS) (v2 := nlS) _ rfl (by simp) (by simp) hf.1 hf.2.1 hf.2.2
  subst h2
  have hq : ((str r1).toList == s.toList) = decide (r1 = bl s) := by
    have h := beq_bl (str r1) (bl s)
    rw [bl_str, str_bl] at h
    exact h
  have HQ := Lib.hid hq
  clear hq
  obtain ⟨S1, hS1⟩ : ∃ z, str r1 = z := ⟨_, rfl⟩
  rw [hS1] at HQ ⊢
  clear hS1
  by_cases h3 : r1 = bl s
  · have hq : (S1.toList == s.toList) = true := by rw [HQ.out]; exact decide_eq_true h3
    have HR : Hid (D = (m, 0)) := HYES.out (by rw [h3])
    clear h3 HNO HYES HF0
    go_wp2_with fail
    show bodyPost _ _ _ _ _ (setMt W4 w.heap.size (.slice A0 m.live.length c0) (.slice A1 m.snaps.length c1) (.slice A2 m.tok.img.length c2) m.tok)
    obtain ⟨WE, hWE⟩ : ∃ z, setMt W4 w.heap.size (.slice A0 m.live.length c0) (.slice A1 m.snaps.length c1) (.slice A2 m.tok.img.length c2) m.tok = z := ⟨_, rfl⟩
    have hf := HF1.out
    rw [hWE] at hf ⊢
    rw [HR.out]
    exact dec_end (g := w.heap.size) (r := (m, 0)) (v0 := .slice A0 m.live.length c0) (v1 := .slice A1 m.snaps.length c1) (v2 := .slice A2 m.tok.img.length c2) _ rfl (by simp) (by simp) hf.1 hf.2.1 hf.2.2
  · have hq : (S1.toList == s.toList) = false := by rw [HQ.out]; exact decide_eq_false h3
    have HR : Hid (D = (mt0, 4)) := HNO.out (fun e => h3 (Prod.mk.inj e).1)
    clear h3 HNO HYES HF1
    go_wp2_with fail
    show bodyPost _ _ _ _ _ (setMt W4 w.heap.size nlS nlS nlS tk0)
    obtain ⟨WE, hWE⟩ : ∃ z, setMt W4 w.heap.size nlS nlS nlS tk0 = z := ⟨_, rfl⟩
    have hf := HF0.out
    rw [hWE] at hf ⊢
    rw [HR.out]
    exact dec_end (g := w.heap.size) (r := (mt0, 4)) (v0 := nlS) (v1 := nlS) (v2 := nlS) _ rfl (by simp) (by simp) hf.1 hf.2.1 hf.2.2
end Go.Proofs.Ytklmgdiaianlbaa.mt.pg
namespace Go.Proofs.Ytklmgdiaianlbaa.mt
open Go Go.RowKit Go.Proofs.Ytklmgdiaianlbaa.ib
theorem hImpl : MImpl :=
  ⟨fun v m b n w h hs hb hn => pg.check_any v m b n w h hs hb hn, fun v m w h hs => pg.enc_any v m w h hs, fun s w hs => pg.dec_any s w hs, fun v v' m m' w h h' hs hs' => pg.same_any v v' m m' w h h' hs hs'⟩
end Go.Proofs.Ytklmgdiaianlbaa.mt

/- A slice of structs, opened at every index: its cells, what each field's cells are. Nothing here speaks of the program. -/
namespace Go.Proofs.Ytklmgdiaianlbaa
open Go Go.ChangeShapes Go.WideShapes Go.Deep
set_option maxRecDepth 100000

theorem open_slice_wide {H : Type} {enc : TypeId × Value → H} {P : Program} {w : World} {base : Nat} {spare : Nat → Bool} {held : Bool} {t e : TypeId} {fs : Array Field} {fuel : Nat} {cs : List Value} {x : DataW H × List MemPlace}
    (ht : P.underlying t = some (.slice e)) (he : P.underlying e = some (.struct fs))
    (h : DataW.trod enc P w base spare held fuel t cs = some x) :
    (cs = [.slice none 0 0] ∧ x = (.nil, [])) ∨
    ∃ (a : Addr) (len cap m : Nat), cs = [.slice (some a) len cap] ∧ base ≤ a.block ∧ len ≤ cap ∧ cap ≤ maxLen ∧ m = (if spare a.block then cap else len) ∧
      ∀ i, i < m → ∃ cs' : List Value, cs'.length = P.cellsOf e ∧ (∀ k (hk : k < cs'.length), w.cell? (a.add (i * P.cellsOf e + k)) = some cs'[k]) ∧
        ∀ (k : Nat) (f : Field), fs[k]? = some f → ∃ y n, DataW.trod enc P w base spare held n f.type ((cs'.drop f.offset).take (P.cellsOf f.type)) = some y := by
  rcases open_slice ht h with h0 | ⟨a, len, cap, m, n, D, Pl, rfl, hb, hl, hm, hmm, rfl, hx⟩
  · exact Or.inl h0
  right
  refine ⟨a, len, cap, m, rfl, hb, hl, hm, hmm, fun i hi => ?_⟩
  obtain ⟨cs', h1, h2⟩ := hx i hi
  obtain ⟨_, hlen, hcell⟩ := World.cells?_some h1
  obtain ⟨xs, n', _, _, _, hxl, hf⟩ := DataW.trod_struct he h2
  refine ⟨cs', hlen, fun k hk => ?_, fun k f hk => ?_⟩
  · have hcl := hcell k (by omega)
    rw [add_add, List.getElem?_eq_getElem hk] at hcl
    exact hcl
  · have hlt : k < fs.size := (Array.getElem?_eq_some_iff.1 hk).1
    exact ⟨xs[k]'(by omega), n', (hf k f hk).trans (List.getElem?_eq_getElem (by omega))⟩
end Go.Proofs.Ytklmgdiaianlbaa

/- A table by value that came in. -/
namespace Go.Proofs.Ytklmgdiaianlbaa.mt
open Go Go.RowKit Go.ChangeShapes Go.WideShapes Go.Deep Go.Proofs.Ytklmgdiaianlbaa.ib
set_option maxRecDepth 100000

theorem mu64_of {x : Int} (h : (Lit.int .u64 x).wf = true) : ∃ c : Nat, x = (c : Int) ∧ c < 18446744073709551616 := by
  have hb := bounds_u64 h
  exact ⟨x.toNat, by omega, by omega⟩
section
variable {H : Type} {enc : TypeId × Value → H} {w : World} {held : Bool} {d : DataW H} {pl : List MemPlace}
theorem sl_cells {n : Nat} {v : Value} {y : DataW H × List MemPlace} (h : DataW.trod enc Try.prog w 0 (fun _ => true) held n 22 [v] = some y) : ∃ (A : Option Addr) (zs : List Int) (c : Nat), v = .slice A zs.length c ∧ SlAt w A zs c ∧ zs.length ≤ 9223372036854775807 := by
  rcases open_ints Try.underlying22 Try.underlying3 (by kernel_rfl) h with ⟨hcs, _⟩ | ⟨x, l', c', zs, hcs, _, hl, hm, hz, _, hcell, hwf⟩
  · simp at hcs
    subst hcs
    exact ⟨none, [], 0, rfl, SlAt.none _, by simp⟩
  · obtain ⟨A, zs2, c2, rfl, h1, h2, h3⟩ := ints_cells h
    refine ⟨A, zs2, c2, rfl, ⟨h1, h3, fun e => ?_⟩, h2⟩
    simp at hcs
    obtain ⟨rfl, _⟩ := hcs
    cases e
theorem gd_cells {n : Nat} {v0 v1 : Value} {y : DataW H × List MemPlace} (h : DataW.trod enc Try.prog w 0 (fun _ => true) held n 26 [v0, v1] = some y) : ∃ g : Gd, v0 = .int .u64 (g.1 : Int) ∧ v1 = .int .u64 (g.2 : Int) ∧ gdB g := by
  obtain ⟨xs, m, _, _, _, hl, hi⟩ := DataW.trod_struct Try.underlying26 h
  match xs, hl with
  | [x0, x1], _ =>
    have c1 : Try.prog.cellsOf 24 = 1 := by kernel_rfl
    have g0 := hi 0 _ rfl
    have g1 := hi 1 _ rfl
    simp [c1] at g0 g1
    obtain ⟨k0, h0, _, b0⟩ := DataW.trod_int Try.underlying24 g0
    obtain ⟨k1, h1, _, b1⟩ := DataW.trod_int Try.underlying24 g1
    obtain ⟨c0, rfl, l0⟩ := mu64_of b0
    obtain ⟨c1, rfl, l1⟩ := mu64_of b1
    obtain rfl : v0 = _ := by simpa using h0
    obtain rfl : v1 = _ := by simpa using h1
    exact ⟨(c0, c1), rfl, rfl, l0, l1⟩
theorem snaps_cells {n : Nat} {v : Value} {y : DataW H × List MemPlace} (h : DataW.trod enc Try.prog w 0 (fun _ => true) held n 23 [v] = some y) :
    ∃ (A : Option Addr) (xs : List Sp) (c : Nat), v = .slice A xs.length c ∧ SnsAt w A xs ∧ (xs.length ≤ c ∧ (A = none → xs.length = 0 ∧ c = 0)) ∧ xs.length ≤ 9223372036854775807 ∧ ∀ x ∈ xs, x.img.length ≤ 9223372036854775807 := by
  have ce : Try.prog.cellsOf 48 = 4 := by kernel_rfl
  have cg : Try.prog.cellsOf 26 = 2 := by kernel_rfl
  have ci : Try.prog.cellsOf 22 = 1 := by kernel_rfl
  have cb : Try.prog.cellsOf 4 = 1 := by kernel_rfl
  rcases open_slice_wide Try.underlying23 Try.underlying48 h with ⟨hcs, _⟩ | ⟨x, l', c', m, hcs, _, hl, hm, hmm, hi⟩
  · simp at hcs
    subst hcs
    exact ⟨none, [], 0, rfl, SnsAt.nil _ _, ⟨Nat.le_refl _, fun _ => ⟨rfl, rfl⟩⟩, by simp, fun x hx => absurd hx (by simp)⟩
  · simp at hcs
    subst hcs
    simp only [if_true] at hmm
    subst hmm
    unfold maxLen at hm
    obtain ⟨zs, hzl, hz⟩ := choose_list (p := fun i (z : Sp) => ∃ B c, w.cell? (x.add (i * 4)) = some (.int .u64 (z.g.1 : Int)) ∧ w.cell? (x.add (i * 4 + 1)) = some (.int .u64 (z.g.2 : Int)) ∧ w.cell? (x.add (i * 4 + 2)) = some (.slice B z.img.length c) ∧ w.cell? (x.add (i * 4 + 3)) = some (.bool z.hid) ∧ SlAt w B z.img c ∧ gdB z.g ∧ z.img.length ≤ 9223372036854775807) l' (fun i hil => by
      obtain ⟨cs', hlen, hcell, hf⟩ := hi i (by omega)
      rw [ce] at hlen hcell
      match cs', hlen with
      | [u0, u1, u2, u3], _ =>
        obtain ⟨y0, n0, e0⟩ := hf 0 _ rfl
        obtain ⟨y1, n1, e1⟩ := hf 1 _ rfl
        obtain ⟨y2, n2, e2⟩ := hf 2 _ rfl
        simp [cg, ci, cb] at e0 e1 e2
        obtain ⟨g, rfl, rfl, hg⟩ := gd_cells e0
        obtain ⟨B, zs, c, rfl, h1, h2⟩ := sl_cells e1
        obtain ⟨k, hk, _⟩ := DataW.trod_bool Try.underlying4 e2
        obtain rfl : u3 = _ := by simpa using hk
        have k0 := hcell 0 (by simp)
        have k1 := hcell 1 (by simp)
        have k2 := hcell 2 (by simp)
        have k3 := hcell 3 (by simp)
        exact ⟨⟨g, zs, k⟩, B, c, k0, k1, k2, k3, h1, hg, h2⟩)
    subst hzl
    refine ⟨some x, zs, _, rfl, fun i hil => ?_, ⟨by omega, fun e => by cases e⟩, by omega, fun z hz' => ?_⟩
    · obtain ⟨_, _, h0, _⟩ := hz 0 (by omega)
      rw [Nat.zero_mul] at h0
      obtain ⟨b, o, rfl, hb⟩ := spot0 h0
      obtain ⟨B, c, k0, k1, k2, k3, k4, k5, _⟩ := hz i hil
      rw [addr_add] at k0 k1 k2 k3
      exact ⟨b, o, B, c, rfl, hb, k0, by simpa only [Nat.add_assoc] using k1, by simpa only [Nat.add_assoc] using k2, by simpa only [Nat.add_assoc] using k3, k4, k5⟩
    · obtain ⟨i, hi', rfl⟩ := List.getElem_of_mem hz'
      obtain ⟨B, c, _, _, _, _, _, _, k6⟩ := hz i hi'
      exact k6

/-- Lengths that are no matter. -/
structure mtW (m : Mt) : Prop where
  live : m.live.length ≤ 9223372036854775807
  snaps : m.snaps.length ≤ 9223372036854775807
  imgs : ∀ s ∈ m.snaps, s.img.length ≤ 9223372036854775807
  img : m.tok.img.length ≤ 9223372036854775807
theorem meta_of {r : Reach} {b0 : Nat} {v : Value} (hv : Value.okWide Try.prog w r b0 30 v) (h : DataW.Trod enc Try.prog w 0 (fun _ => true) held 30 v d pl) : ∃ m, MtAt w v m ∧ mtW m := by
  have hu := Try.underlying30
  have c9 : Try.prog.cellsOf 30 = 9 := by kernel_rfl
  have c7 : Try.prog.cellsOf 28 = 7 := by kernel_rfl
  have cg : Try.prog.cellsOf 26 = 2 := by kernel_rfl
  have ci : Try.prog.cellsOf 22 = 1 := by kernel_rfl
  have cs : Try.prog.cellsOf 23 = 1 := by kernel_rfl
  have ct : Try.prog.cellsOf 3 = 1 := by kernel_rfl
  simp only [Value.okWide, hu] at hv
  obtain ⟨⟨us⟩, rfl, h2, _⟩ := hv
  rw [c9] at h2
  match us, h2 with
  | [u0, u1, u2, u3, u4, u5, u6, u7, u8], _ =>
    obtain ⟨fuel, hf⟩ := h
    obtain ⟨xs, m, _, _, _, hl, hi⟩ := DataW.trod_struct hu hf
    match xs, hl with
    | [X0, X1, X2], _ =>
      have g0 := hi 0 _ rfl
      have g1 := hi 1 _ rfl
      have g2 := hi 2 _ rfl
      simp [c7, ci, cs, Value.cells] at g0 g1 g2
      obtain ⟨A0, l, d0, rfl, p1, p2⟩ := sl_cells g0
      obtain ⟨A1, sn, d1, rfl, q1, q2, q3, q4⟩ := snaps_cells g1
      obtain ⟨ys, m', _, _, _, hyl, hy⟩ := DataW.trod_struct Try.underlying28 g2
      match ys, hyl with
      | [Y0, Y1, Y2, Y3, Y4], _ =>
        have e0 := hy 0 _ rfl
        have e1 := hy 1 _ rfl
        have e2 := hy 2 _ rfl
        have e3 := hy 3 _ rfl
        have e4 := hy 4 _ rfl
        simp [cg, ci, ct] at e0 e1 e2 e3 e4
        obtain ⟨ga, rfl, rfl, ha⟩ := gd_cells e0
        obtain ⟨gb, rfl, rfl, hb⟩ := gd_cells e1
        obtain ⟨k2, h2, _, b2⟩ := DataW.trod_int Try.underlying3 e2
        obtain ⟨k3, h3, _, b3⟩ := DataW.trod_int Try.underlying3 e3
        obtain rfl : u6 = _ := by simpa using h2
        obtain rfl : u7 = _ := by simpa using h3
        obtain ⟨A2, im, d2, rfl, r1, r2⟩ := sl_cells e4
        exact ⟨⟨l, sn, ⟨ga, gb, k2, k3, im⟩⟩, ⟨A0, A1, A2, d0, d1, d2, rfl, p1, q1, q2, r1, ha, hb, bounds_i64 b2, bounds_i64 b3⟩, p2, q3, q4, r2⟩
end
end Go.Proofs.Ytklmgdiaianlbaa.mt

