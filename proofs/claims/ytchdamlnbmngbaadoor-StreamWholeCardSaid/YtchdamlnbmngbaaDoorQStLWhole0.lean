/- StreamWhole, of every input: the frame. -/
import Derived.Test.YtchdamlnbmngbaaDoorQ11
import Derived.Test.YtchdamlnbmngbaaDoorQ13
import Derived.Test.YtchdamlnbmngbaaDoorRows
import Derived.Test.YtchdamlnbmngbaaDoorCards
import Derived.Test.YtchdamlnbmngbaaDoorTie
import Derived.SevenTiedAt
import Derived.Deep.DeepHandedRow
import Derived.ProofKit
import Derived.OpenShut
import Derived.ShutString
import Derived.SizedLaws
import Derived.ChangeOld
import Derived.Below
import Derived.SliceStrings
set_option linter.unusedVariables false
set_option linter.unusedSimpArgs false
/- StreamWhole's walk. -/
namespace Go.Proofs.YtchdamlnbmngbaaDoor.st
open Go Go.RowKit Go.Sort Go.Proofs.YtchdamlnbmngbaaDoor.ib Go.Proofs.YtchdamlnbmngbaaDoor.wi Go.Proofs.YtchdamlnbmngbaaDoor.mt
open Go.Proofs.YtchdamlnbmngbaaDoor.ch (ChL OChs chVals infoCh)
set_option maxRecDepth 100000

theorem pBytes_len {p : Pa} (h : Ok p) : (pBytes p).length ≤ 1000 := by
  have h1 := numsB_len (nums7 p)
  rw [nums7_head, show (nums7 p).length = 7 from rfl] at h1
  have h2 := chsB_len p.chs (fun c hc => (h.chs c hc).2.2)
  have h3 := h.few
  unfold pBytes
  rw [List.length_append]
  omega
theorem ptC (g t : Gd) (L : List Ch) (k : Nat) (A : Option Addr) (d : Nat) : paC (ptAt g t L k) A d = #[.int .u64 (g.1 : Int), .int .u64 (g.2 : Int), .int .u64 (t.1 : Int), .int .u64 (t.2 : Int), .int .i64 (k : Int), .int .i64 (L.length : Int), .slice A (min 2 (L.length - k)) d] := by
  unfold paC
  rw [ptAt_len]
  rfl
def WhRel (L : List Ch) (g t : Gd) (w1 : World) (v i : Value) (wr : World) : Prop :=
  ∃ f : Nat, i = .int .i64 (f : Int) ∧ (f = 0 ∨ CutOk g t L f) ∧ f ≤ L.length ∧ OChs wr w1.heap.size v (L.take f) ∧ Below w1.heap.size w1 wr
theorem mdOf_few (zs : List Mk) : (mdOf zs).length ≤ 30 := by rw [mdOf_len]; omega

set_option maxHeartbeats 12800000 in
theorem streamWhole_walk (g t : Gd) (hg : gdB g) (hgt : gdB t) (a : Option Addr) (c : Nat) (zs : List Mk) (w : World) (hl : zs.length ≤ 9223372036854775807) (hM : MkL w a zs) (ht : CTab w) :
    Calls Tryd.prog 6 #[.agg (ggC g t), .slice a zs.length c] w fun e w' => e = .returned (.bool true) ∧ Below w.heap.size w w' := by
  have hb0 := (Below.refl w.heap.size w).alloc (Nat.le_refl _) (.cells (ggC g t) 25)
  have hk0 := Blk.new w 25 (ggC g t)
  have HMD := Lib.hid (made_any a c zs (w.alloc (.cells (ggC g t) 25)) (hM.below hb0) hl)
  obtain ⟨W0, hW0⟩ : ∃ z, w.alloc (.cells (ggC g t) 25) = z := ⟨_, rfl⟩
  rw [hW0] at hb0 hk0 HMD
  obtain ⟨g0, hg0⟩ : ∃ z, w.heap.size = z := ⟨_, rfl⟩
  have HB0 := Lib.hid hb0
  rw [hg0] at hk0
  have HK0 := Lib.hid hk0
  have HW0 := Lib.hid hW0
  have HG0 := Lib.hid hg0
  have HT := Lib.hid ht
  have HGA := Lib.hid hg
  have HGT := Lib.hid hgt
  have HBZ := Lib.hid (mdOf_b64 hM)
  have HFW := Lib.hid (mdOf_few zs)
  have HTN : Hid (∀ c ∈ mdOf zs, c.2.length ≤ 1000000) := fun c hc => by have := mdOf_len32 zs c hc; omega
  obtain ⟨N, hN⟩ : ∃ z, zs.length = z := ⟨_, rfl⟩
  rw [hN] at HMD ⊢
  obtain ⟨L, hL⟩ : ∃ z, mdOf zs = z := ⟨_, rfl⟩
  rw [hL] at HMD HBZ HFW HTN
  clear hb0 hk0 hW0 hg0 ht hg hgt hM hl hN hL
  unfold ggC at HK0 HW0 ⊢
  go_enter Tryd.func6, Tryd.ntmps6
  go_upto_region 1 with fail
  try rw [HW0.out]
  try rw [HG0.out]
  clear HW0
  go_wp2_with fail
  refine HMD.out.mono ?_
  rintro e W1 ⟨v, rfl, ho, hb⟩
  obtain ⟨A, cp, rfl, k1, k2, k3, k4⟩ := ochs_cut ho HBZ.out
  have HC1 := Lib.hid k1
  have HCP := Lib.hid k2
  have HSH := Lib.hid k3
  have HB1 := Lib.hid (below_step HB0.out hb)
  have HT1 := Lib.hid (HT.out.below HB1.out HT.out.1)
  have HK1 := Lib.hid (HK0.out.below hb)
  have HZ1 : Hid (w.heap.size ≤ W1.heap.size) := HB1.out.size
  obtain ⟨len, hlen⟩ : ∃ z, L.length = z := ⟨_, rfl⟩
  have HLL := Lib.hid hlen
  rw [hlen]
  clear ho hb k1 k2 k3 k4 HMD HB0 HK0 HT hlen
  go_wp2_with fail
  go_loopw [6, 7] (fun v i wr => WhRel L g t W1 v i wr) (fun _ i _ => len - (intOf i).toNat)
  case atStart => exact ⟨0, rfl, .inl rfl, Nat.zero_le _, World.ownsRow_nil _ _ _ _, Below.refl _ _⟩
  case round =>
    obtain ⟨f, rfl, hf, hfl, ho, hB⟩ := hrel
    have HF := Lib.hid hf
    have HFL := Lib.hid hfl
    have HO := Lib.hid ho
    have HB := Lib.hid hB
    have hk := HK1.out.below hB
    have b0 := hk.cell 0
    have b1 := hk.cell 1
    have b2 := hk.cell 2
    have b3 := hk.cell 3
    have bl := hk.lt
    simp only [List.getElem?_toArray, List.getElem?_cons_zero, List.getElem?_cons_succ] at b0 b1 b2 b3
    have hfe := HFW.out
    have HC := Lib.hid (cut_any g t A cp L (f : Int) wr HGA.out HGT.out (HC1.out.below hB) (by omega) HCP.out HSH.out HTN.out ⟨by omega, by omega⟩)
    rw [HLL.out] at HC
    clear hf hfl ho hB hk hfe
    unfold gv at HC
    by_cases hcb : cutBad g t L (f : Int) = true
    · have hf0 : f = 0 := by
        rcases HF.out with h | h
        · exact h
        · rw [cut_is.2 h] at hcb; cases hcb
      subst hf0
      rw [cut_no hcb] at HC
      clear hcb
      go_upto_region 4 with fail
      go_wp2_with fail
      refine HC.out.mono ?_
      rintro e W2 ⟨A1, d1, rfl, _, _, c2⟩
      rw [show paC pa0 A1 d1 = #[.int .u64 0, .int .u64 0, .int .u64 0, .int .u64 0, .int .i64 0, .int .i64 0, .slice A1 0 d1] from rfl]
      clear b0 b1 b2 b3 bl
      have HB2 := Lib.hid (below_step HB.out c2)
      have cb := (Below.refl W2.heap.size W2).alloc (Nat.le_refl _) (.cells #[.int .u64 0, .int .u64 0, .int .u64 0, .int .u64 0, .int .i64 0, .int .i64 0, .slice A1 0 d1] 30)
      obtain ⟨W3, hW3⟩ : ∃ z, W2.alloc (.cells #[.int .u64 0, .int .u64 0, .int .u64 0, .int .u64 0, .int .i64 0, .int .i64 0, .slice A1 0 d1] 30) = z := ⟨_, rfl⟩
      rw [hW3] at cb
      have HB3 := Lib.hid (below_step HB2.out cb)
      have HW3 := Lib.hid hW3
      have HWK := Lib.hid (works_any W3 (HT1.out.below HB3.out HT1.out.1))
      clear cb hW3 c2 HC
      go_upto_region 5 with fail
      try rw [HW3.out]
      clear HW3
      go_wp2_with fail
      refine HWK.out.mono ?_
      rintro e W4 ⟨rfl, c4⟩
      have HB4 := Lib.hid (below_step HB3.out c4)
      clear c4 HWK
      go_wp2_with fail
      go_ret
      exact ⟨rfl, below_step HB1.out HB4.out⟩
    · have hok : CutOk g t L f := cut_is.1 (by simpa using hcb)
      have HOK := Lib.hid hok
      rw [cut_at hok] at HC
      have hck := ptAt_check hok
      have HCK := Lib.hid hck
      have HPL := Lib.hid (ptAt_len g t L f)
      have HTK := Lib.hid (take_next L f _ rfl)
      clear hcb hok hck
      go_upto_region 4 with fail
      go_wp2_with fail
      refine HC.out.mono ?_
      rintro e W2 ⟨A1, d1, rfl, hp2, _, c2⟩
      dsimp only
      have HEN : Hid (∀ W, PaL W A1 d1 (ptAt g t L f) → CTab W → Calls Tryd.prog 15 #[.agg (paC (ptAt g t L f) A1 d1)] W (endS (pEnc (ptAt g t L f)) W)) := fun W h1 h2 => enc_any A1 d1 _ W h1 (by rw [HPL.out]; omega) h2
      rw [enc_of HCK.out, ptC, HLL.out] at HEN
      rw [ptC, HLL.out]
      obtain ⟨n, hn⟩ : ∃ z, min 2 (len - f) = z := ⟨_, rfl⟩
      have HNN := Lib.hid hn
      rw [hn] at HEN ⊢
      clear b0 b1 b2 b3 bl
      have cb := (Below.refl W2.heap.size W2).alloc (Nat.le_refl _) (.cells #[.int .u64 (g.1 : Int), .int .u64 (g.2 : Int), .int .u64 (t.1 : Int), .int .u64 (t.2 : Int), .int .i64 (f : Int), .int .i64 (len : Int), .slice A1 n d1] 30)
      have kb := Blk.new W2 30 #[.int .u64 (g.1 : Int), .int .u64 (g.2 : Int), .int .u64 (t.1 : Int), .int .u64 (t.2 : Int), .int .i64 (f : Int), .int .i64 (len : Int), .slice A1 n d1]
      obtain ⟨W3, hW3⟩ : ∃ z, W2.alloc (.cells #[.int .u64 (g.1 : Int), .int .u64 (g.2 : Int), .int .u64 (t.1 : Int), .int .u64 (t.2 : Int), .int .i64 (f : Int), .int .i64 (len : Int), .slice A1 n d1] 30) = z := ⟨_, rfl⟩
      rw [hW3] at cb kb
      obtain ⟨gp, hgp⟩ : ∃ z, W2.heap.size = z := ⟨_, rfl⟩
      rw [hgp] at kb
      have HO3 : Hid (OChs W3 W1.heap.size _ (L.take f)) := row_of_block HO.out (fun j hj => (below_step c2 cb).block j (HO.out.lt j hj).2)
      have HB3 := Lib.hid (below_step (below_step HB.out c2) cb)
      have HP3 := Lib.hid (hp2.below cb)
      have HK3 := Lib.hid kb
      have HW3 := Lib.hid hW3
      have HGP := Lib.hid hgp
      have HT3 := Lib.hid (HT1.out.below HB3.out HT1.out.1)
      clear cb kb hW3 hgp c2 hp2 HC hn HO HB
      go_upto_region 5 with fail
      try rw [HW3.out]
      try rw [HGP.out]
      clear HW3 HGP
      have ah := HK3.out
      have a0 := ah.cell 0
      have a1 := ah.cell 1
      have a2 := ah.cell 2
      have a3 := ah.cell 3
      have a4 := ah.cell 4
      have a5 := ah.cell 5
      have a6 := ah.cell 6
      have al := ah.lt
      simp only [List.getElem?_toArray, List.getElem?_cons_zero, List.getElem?_cons_succ] at a0 a1 a2 a3 a4 a5 a6
      clear ah
      go_wp2_with fail
      refine (HEN.out W3 HP3.out HT3.out).mono ?_
      rintro e W4 ⟨rfl, c4⟩
      have HO4 : Hid (OChs W4 W1.heap.size _ (L.take f)) := row_of_block HO3.out (fun j hj => c4.block j (HO3.out.lt j hj).2)
      have HB4 := Lib.hid (below_step HB3.out c4)
      have HP4 := Lib.hid (HP3.out.below c4)
      have HK4 := Lib.hid (HK3.out.below c4)
      have HT4 := Lib.hid (HT1.out.below HB4.out HT1.out.1)
      clear a0 a1 a2 a3 a4 a5 a6 al
      clear c4 HO3 HB3 HP3 HK3 HT3 HEN
      have hsz : (str (sealB (pBytes (ptAt g t L f)))).size ≤ 100000 := by
        rw [str_size, sealB_length]
        have := pBytes_len (check_ok HCK.out)
        omega
      have HDE := Lib.hid (dec_any (str (sealB (pBytes (ptAt g t L f)))) W4 hsz HT4.out)
      rw [bl_str, dec_enc (p := ptAt g t L f) HGA.out HGT.out HCK.out] at HDE
      dsimp only
      obtain ⟨S, hS⟩ : ∃ z, str (sealB (pBytes (ptAt g t L f))) = z := ⟨_, rfl⟩
      rw [hS] at HDE ⊢
      clear hsz hS
      go_wp2_with fail
      refine HDE.out.mono ?_
      rintro e W5 ⟨A3, d3, rfl, hp5, _, c5⟩
      dsimp only
      rw [ptC, HLL.out, HNN.out]
      have cb := (Below.refl W5.heap.size W5).alloc (Nat.le_refl _) (.cells #[.int .u64 (g.1 : Int), .int .u64 (g.2 : Int), .int .u64 (t.1 : Int), .int .u64 (t.2 : Int), .int .i64 (f : Int), .int .i64 (len : Int), .slice A3 n d3] 30)
      have kb := Blk.new W5 30 #[.int .u64 (g.1 : Int), .int .u64 (g.2 : Int), .int .u64 (t.1 : Int), .int .u64 (t.2 : Int), .int .i64 (f : Int), .int .i64 (len : Int), .slice A3 n d3]
      obtain ⟨W6, hW6⟩ : ∃ z, W5.alloc (.cells #[.int .u64 (g.1 : Int), .int .u64 (g.2 : Int), .int .u64 (t.1 : Int), .int .u64 (t.2 : Int), .int .i64 (f : Int), .int .i64 (len : Int), .slice A3 n d3] 30) = z := ⟨_, rfl⟩
      rw [hW6] at cb kb
      obtain ⟨gq, hgq⟩ : ∃ z, W5.heap.size = z := ⟨_, rfl⟩
      rw [hgq] at kb
      have cc := below_step c5 cb
      have HO6 : Hid (OChs W6 W1.heap.size _ (L.take f)) := row_of_block HO4.out (fun j hj => cc.block j (HO4.out.lt j hj).2)
      have HB6 := Lib.hid (below_step HB4.out cc)
      have HP6 := Lib.hid (HP4.out.below cc)
      have HQ6 := Lib.hid (hp5.below cb)
      have HK6 := Lib.hid (HK4.out.below cc)
      have HJ6 := Lib.hid kb
      have HW6 := Lib.hid hW6
      have HGQ := Lib.hid hgq
      have HSA := Lib.hid (same_any A1 A3 d1 d3 (ptAt g t L f) (ptAt g t L f) W6 HP6.out HQ6.out (by rw [HPL.out]; omega) (by rw [HPL.out]; omega))
      rw [ptC, ptC, HLL.out, HNN.out, decide_eq_true (rfl : ptAt g t L f = ptAt g t L f)] at HSA
      clear cb kb hW6 hgq c5 cc hp5 HDE HO4 HB4 HP4 HK4 HT4
      go_upto_region 9 with fail
      try rw [HW6.out]
      try rw [HGQ.out]
      clear HW6 HGQ
      have ah := HK6.out
      have a0 := ah.cell 0
      have a1 := ah.cell 1
      have a2 := ah.cell 2
      have a3 := ah.cell 3
      have a4 := ah.cell 4
      have a5 := ah.cell 5
      have a6 := ah.cell 6
      have al := ah.lt
      simp only [List.getElem?_toArray, List.getElem?_cons_zero, List.getElem?_cons_succ] at a0 a1 a2 a3 a4 a5 a6
      clear ah
      have qh := HJ6.out
      have q0 := qh.cell 0
      have q1 := qh.cell 1
      have q2 := qh.cell 2
      have q3 := qh.cell 3
      have q4 := qh.cell 4
      have q5 := qh.cell 5
      have q6 := qh.cell 6
      have ql := qh.lt
      simp only [List.getElem?_toArray, List.getElem?_cons_zero, List.getElem?_cons_succ] at q0 q1 q2 q3 q4 q5 q6
      clear qh
      go_wp2_with fail
      refine HSA.out.mono ?_
      rintro e W7 ⟨rfl, c7⟩
      have HO7 : Hid (OChs W7 W1.heap.size _ (L.take f)) := row_of_block HO6.out (fun j hj => c7.block j (HO6.out.lt j hj).2)
      have HB7 := Lib.hid (below_step HB6.out c7)
      have HQ7 := Lib.hid (HQ6.out.below c7)
      have HJ7 := Lib.hid (HJ6.out.below c7)
      clear a0 a1 a2 a3 a4 a5 a6 al
      clear q0 q1 q2 q3 q4 q5 q6 ql
      have qh := HJ7.out
      have q0 := qh.cell 0
      have q1 := qh.cell 1
      have q2 := qh.cell 2
      have q3 := qh.cell 3
      have q4 := qh.cell 4
      have q5 := qh.cell 5
      have q6 := qh.cell 6
      have ql := qh.lt
      simp only [List.getElem?_toArray, List.getElem?_cons_zero, List.getElem?_cons_succ] at q0 q1 q2 q3 q4 q5 q6
      clear qh
      clear c7 HSA HO6 HB6 HP6 HQ6 HK6 HJ6
      have hqc : (ptAt g t L f).chs = (L.drop f).take 2 := rfl
      have hlt : (L.take f).length = f := by rw [List.length_take]; have := HFL.out; omega
      have hln : ((L.drop f).take 2).length = n := by rw [← hqc, HPL.out, HLL.out, HNN.out]
      obtain ⟨A5, c5, hv⟩ := own_form HO7.out
      rw [hlt] at hv
      have hap := append_chs (A5 := A5) (c5 := c5) (A3 := A3) (c3 := d3) (by rw [hlt, ← hv]; exact HO7.out) HQ7.out.chs (by rw [hqc, hlt, hln]; have := HFW.out; have := HFL.out; have := HNN.out; omega) HB7.out.size
      rw [hlt, hqc, hln] at hap
      obtain ⟨v', W8, hrun, ho8, hgr⟩ := hap
      rw [HTK.out, HLL.out, HNN.out] at ho8
      have HB8 : Hid (Below W1.heap.size W1 W8) := HB7.out.grown (by rw [hv]; exact hgr) HB7.out.size (fun j hj => (HO7.out.lt j hj).1)
      have HJ8 : Hid (Blk W8 gq 30 #[.int .u64 (g.1 : Int), .int .u64 (g.2 : Int), .int .u64 (t.1 : Int), .int .u64 (t.2 : Int), .int .i64 (f : Int), .int .i64 (len : Int), .slice A3 n d3]) := Kp.of_grown (by rw [hv]; exact hgr) HO7.out _ _ _ (by decide) HJ7.out
      have HRUN := Lib.hid hrun
      obtain ⟨A8, c8, hv8, hc8, _⟩ := ochs_chl ho8 (fun x hx => HBZ.out x (List.mem_of_mem_take hx))
      have hf30 : f ≤ 30 := by have := HFL.out; have := HFW.out; omega
      have hl30 : len ≤ 30 := by have := HLL.out; have := HFW.out; omega
      have hn2 : n ≤ 2 ∧ n ≤ len - f ∧ (n = 2 ∨ n = len - f) := by have := HNN.out; omega
      have hfl : f ≤ len := by have := HFL.out; have := HLL.out; omega
      have hl8 : (L.take (f + n)).length = f + n := by rw [List.length_take, HLL.out]; omega
      rw [hl8] at hv8
      subst hv8
      have HO8 := Lib.hid ho8
      have HC8 := Lib.hid hc8
      have hn2' := hn2.1
      have HN2 := Lib.hid hn2
      subst hv
      clear hqc hlt hln hrun ho8 hgr hc8 HO7 HB7 HQ7 HJ7 HF HFL HPL HTK HCK hl8 hn2
      have rh := HJ8.out
      have r0 := rh.cell 0
      have r1 := rh.cell 1
      have r2 := rh.cell 2
      have r3 := rh.cell 3
      have r4 := rh.cell 4
      have r5 := rh.cell 5
      have r6 := rh.cell 6
      have rl := rh.lt
      simp only [List.getElem?_toArray, List.getElem?_cons_zero, List.getElem?_cons_succ] at r0 r1 r2 r3 r4 r5 r6
      clear rh
      by_cases hd : len ≤ f + n
      · have hfn : f + n = len := by have := HN2.out; omega
        have hdi : (len : Int) ≤ (f : Int) + (n : Int) := by omega
        have hfi : (f : Int) + (n : Int) = (len : Int) := by omega
        have hcl : ChL W8 A8 L := by
          have := HC8.out
          rwa [hfn, List.take_of_length_le (by rw [HLL.out]; omega)] at this
        have HCL := Lib.hid hcl
        rw [hfn] at HRUN
        clear hcl HC8 HO8 hd hfn
        go_wp2_with (at_builtin; refine Lib.wpList_append_run _ rfl _ _ _ _ rfl _ _ rfl rfl _ _ HRUN.out ?_)
        clear q0 q1 q2 q3 q4 q5 q6 ql
        clear r0 r1 r2 r3 r4 r5 r6 rl
        have HCM : Hid (ChL W8 A L) := HC1.out.below HB8.out
        obtain ⟨wo, rfl⟩ : ∃ wo : World, wo = wr := ⟨_, rfl⟩
        go_loopw [14] (fun i wr => ∃ k : Nat, k ≤ len ∧ i = .int .i64 (k : Int) ∧ Below W8.heap.size W8 wr) (fun i _ => len - (intOf i).toNat)
        case atStart => exact ⟨0, Nat.zero_le _, rfl, Below.refl _ _⟩
        case round =>
          obtain ⟨k, hk, rfl, hB⟩ := hrel
          have HBW := Lib.hid hB
          have HQ2 : Hid (∀ n, Below W8.heap.size W8 (wr.drewN n)) := fun n => ⟨hB.os, hB.tape, hB.output, hB.size, hB.block⟩
          clear hB
          by_cases hlt : k < len
          · have hki : (k : Int) < (len : Int) := by omega
            have hkl : k < L.length := by rw [HLL.out]; exact hlt
            obtain ⟨x1, y1, rfl, hb1, c0, c2, -⟩ := HCL.out k hkl
            obtain ⟨x2, y2, rfl, hb2, d0, d1, -⟩ := HCM.out k hkl
            have e0 : wr.cell? ⟨x1, y1 + k * 2, none⟩ = some (.int .i64 L[k].1) := by rw [HBW.out.cell (p := ⟨x1, y1 + k * 2, none⟩) hb1]; exact c0
            have e1 : wr.cell? ⟨x1, y1 + k * 2 + 1, none⟩ = some (.string (str L[k].2)) := by rw [HBW.out.cell (p := ⟨x1, y1 + k * 2 + 1, none⟩) hb1]; exact c2
            have f0 : wr.cell? ⟨x2, y2 + k * 2, none⟩ = some (.int .i64 L[k].1) := by rw [HBW.out.cell (p := ⟨x2, y2 + k * 2, none⟩) hb2]; exact d0
            have f1 : wr.cell? ⟨x2, y2 + k * 2 + 1, none⟩ = some (.string (str L[k].2)) := by rw [HBW.out.cell (p := ⟨x2, y2 + k * 2 + 1, none⟩) hb2]; exact d1
            have l1 : x1 < wr.heap.size := Nat.lt_of_lt_of_le hb1 HBW.out.size
            have l2 : x2 < wr.heap.size := Nat.lt_of_lt_of_le hb2 HBW.out.size
            clear c0 c2 d0 d1 hb1 hb2
            generalize L[k].1 = z1 at *
            generalize str L[k].2 = z2 at *
            have hq1 : (z1 == z1) = true := by simp
            have hq2 : (z2.toList == z2.toList) = true := by simp
            clear hkl
            go_wp2_with fail
            go_quiet (fail)
            go_wp2_with fail
            go_roundw
            case rel => exact ⟨k + 1, by omega, by go_num, HQ2.out _⟩
            case measure => simp [intOf]; omega
          · have hki : ¬ (k : Int) < (len : Int) := by omega
            have HWK := Lib.hid (works_any wr (HT1.out.below (below_step HB8.out HBW.out) HT1.out.1))
            go_wp2_with fail
            refine HWK.out.mono ?_
            rintro e W9 ⟨rfl, c9⟩
            have HB9 := Lib.hid (below_step HB1.out (below_step (below_step HB8.out HBW.out) c9))
            clear c9 HWK
            go_wp2_with fail
            go_ret
            exact ⟨rfl, HB9.out⟩
      · have hdi : ¬ (len : Int) ≤ (f : Int) + (n : Int) := by omega
        go_wp2_with (at_builtin; refine Lib.wpList_append_run _ rfl _ _ _ _ rfl _ _ rfl rfl _ _ HRUN.out ?_)
        go_roundw
        case rel => exact ⟨f + n, by go_num, .inr (cut_next HOK.out (by have := HLL.out; omega)), by have := HLL.out; omega, HO8.out, HB8.out⟩
        case measure => have := HN2.out; simp [intOf]; omega
end Go.Proofs.YtchdamlnbmngbaaDoor.st

/- StreamWhole, of every input: the frame. -/
namespace Go.Proofs.YtchdamlnbmngbaaDoor.streamWhole
open Go.ChangeShapes Go.WideShapes Go.ChangeAt Go.RowKit
open Go.ChangeMaps (open_string shut_string)
open Go.Proofs.YtchdamlnbmngbaaDoor.ib Go.Proofs.YtchdamlnbmngbaaDoor.wi Go.Proofs.YtchdamlnbmngbaaDoor.mt Go.Proofs.YtchdamlnbmngbaaDoor.st

theorem own : ownKnob Tryd.prog.godebug = none := by kernel_rfl
theorem laidOut : laidOutB Tryd.prog = true := by kernel_rfl

theorem laid_met (os : Os) (args : Array Value) : laidMet Tryd.prog Rows.streamWholeRow.laid ((laidWorld os).forCall (fun _ _ => 0) ⟨#[], args, []⟩).memory :=
  laidMet_of_run' 8 (by kernel_rfl) (by kernel_rfl)

theorem witness (os : Os) {H : Type} (enc : TypeId × Value → H) :
    (OpenSpec.ofChange Rows.streamWholeSpec).preRow enc Tryd.prog Tryd.f6 Rows.streamWholeRow.domain false Rows.streamWholeRow.laid ((laidWorld os).forCall (fun _ _ => 0) ⟨#[], #[.agg #[.int .u64 0, .int .u64 0, .int .u64 0, .int .u64 0], .slice none 0 0], []⟩).memory #[.agg #[.int .u64 0, .int .u64 0, .int .u64 0, .int .u64 0], .slice none 0 0] := by
  have hw : (DataW.whole enc Tryd.prog ((laidWorld os).forCall (fun _ _ => 0) ⟨#[], #[.agg #[.int .u64 0, .int .u64 0, .int .u64 0, .int .u64 0], .slice none 0 0], []⟩).memory Tryd.f6.params.toList (OpenSpec.ofChange Rows.streamWholeSpec).vars false (#[.agg #[.int .u64 0, .int .u64 0, .int .u64 0, .int .u64 0], .slice none 0 0] : Array Value).toList 8).map (fun x => (x.1, x.2.1)) =
      some ([.agg [.agg [.lit (.int .u64 0), .lit (.int .u64 0)], .agg [.lit (.int .u64 0), .lit (.int .u64 0)]], .nil], []) := by kernel_rfl
  obtain ⟨⟨x1, x2, x3⟩, hx, hx1⟩ := Option.map_eq_some_iff.1 hw
  simp only [Prod.mk.injEq] at hx1
  obtain ⟨rfl, rfl⟩ := hx1
  exact OpenSpec.preRow_of_cond 8 hx (by kernel_rfl) (fun k hk => by cases hk) (by kernel_rfl) (laid_met os _)

set_option maxRecDepth 100000 in
set_option maxHeartbeats 1600000 in
theorem lifted (os : Os) (started : os.Started) (H : Type) (enc : TypeId × Value → H) (F : Stop.Interp) :
    ReturnsInHanded {} Tryd.checked os 6 .any ((OpenSpec.ofChange Rows.streamWholeSpec).preRow enc Tryd.prog Tryd.f6 Rows.streamWholeRow.domain false Rows.streamWholeRow.laid) (((OpenSpec.ofChange Rows.streamWholeSpec).at F).post enc Tryd.prog Tryd.f6 false true false false) := by
  refine returnsInHanded_of_row (C := Tryd.checked) (s := OpenSpec.ofChange Rows.streamWholeSpec) own started (by kernel_rfl) Tryd.func6
    (witness_row_at (enc := enc) (C := Tryd.checked) false (laidWorld os) #[.agg #[.int .u64 0, .int .u64 0, .int .u64 0, .int .u64 0], .slice none 0 0] rfl (by kernel_rfl) (by kernel_rfl) (by kernel_rfl) (witness os enc)) ?_
  intro W base args ds gs before hval0 hW _ _ hsz0 hL _ _
  have ht : CTab W := ctab_of_laid hL (by kernel_rfl)
  have hval : ∀ (j : Nat) t v, Tryd.f6.params[j]? = some t → args[j]? = some v → Value.okWide Tryd.prog W .any base t v := hval0
  have hW' := hW
  obtain ⟨p, q, hA0, hV, rfl, hfz, hnd⟩ := hW
  have hA : DataW.TrodAll enc Tryd.prog W 0 (fun _ => true) true Tryd.f6.params.toList args.toList ds p := hA0
  rw [Tryd.params6] at hA hval
  obtain ⟨v0, vs0, d0, ds0, p0, q0, hargs, rfl, rfl, h0, r0⟩ := trodAll_cons hA
  obtain ⟨v1, vs1, d1, ds1, p1, q1, rfl, rfl, rfl, h1, r1⟩ := trodAll_cons r0
  obtain ⟨rfl, rfl, rfl⟩ := trodAll_nil r1
  obtain rfl : args = #[v0, v1] := by cases args; simp_all
  obtain ⟨rfl, rfl⟩ := trodVars_none hV
  have k0 := h0
  have lt0 : ∀ x ∈ p0, x.block < W.heap.size := by obtain ⟨m, hm⟩ := k0; exact DataW.trod_lt m _ _ _ hm
  obtain ⟨g0, t0, rfl, bg0, bt0⟩ := gds2_of (hval 0 25 v0 rfl rfl) k0
  obtain ⟨a1, l1, c1, rfl⟩ := okWide_slice Tryd.underlying26 (hval 1 26 v1 rfl rfl)
  have k1 := h1
  have lt1 : ∀ x ∈ p1, x.block < W.heap.size := by obtain ⟨m, hm⟩ := k1; exact DataW.trod_lt m _ _ _ hm
  obtain ⟨zs1, hzl1, hl1, hT1⟩ := marks_of k1
  subst hzl1
  clear hA0 hval0 hsz0
  simp only [List.append_nil] at hW'
  refine (streamWhole_walk g0 t0 bg0 bt0 a1 c1 zs1 W hl1 hT1 ht).mono fun e W' ⟨he, hg⟩ => ?_
  subst he
  exact ⟨_, rfl, _, _, _, [], _, [], hW', trodAll_mk1 (shut_bool Tryd.underlying4 _), (trodAll_cons_mk (Below.trod laidOut (by kernel_rfl) (of_decide_eq_true (by kernel_rfl)) k0 hg lt0) (trodAll_cons_mk (Below.trod laidOut (by kernel_rfl) (of_decide_eq_true (by kernel_rfl)) k1 hg lt1) trodAll_mk0)), rfl, hg.frame _, fun h => by cases h⟩

theorem over : Rows.StreamWholeSaid :=
  OpenClaim.holds_of_cond 6 Tryd.f6 rfl rfl rfl rfl rfl rfl rfl ⟨rfl, rfl, rfl, rfl, rfl⟩ rfl rfl rfl rfl rfl (by kernel_rfl) Tryd.func6 (by kernel_rfl)
    (of_decide_eq_true (by kernel_rfl)) (by unfold Func.isWrapper; first | (rw [if_pos (by decide +kernel)]; kernel_rfl) | (rw [if_neg (by decide +kernel)]; exact ⟨rfl, rfl⟩))
    (fun os started H enc _ F => by rw [OpenClaim.pre_eq_preRow]; exact lifted os started H enc F)

theorem proved : Rows.StreamWholeCardSaid :=
  Claim7.holds_tied_plain_at .later [] [.data] true Rows.streamWholeCard.stood.harness false
    over (fun _ h => by cases h) (by kernel_rfl) (fun _ h => by cases h) streamWhole_row_tie rfl ⟨rfl, rfl⟩ (by kernel_rfl) rfl
    (fun f fn hf hfn => by
      obtain rfl : f = 6 := Option.some.inj ((show Tryd.prog.funcNamed Rows.streamWholeRow.func = some 6 by kernel_rfl).symm.trans hf) |>.symm
      obtain rfl : fn = Tryd.f6 := (Option.some.inj (Tryd.func6.symm.trans hfn)).symm
      exact ⟨by kernel_rfl, fun j t ht => by
        rw [Tryd.params6] at ht
        rcases j with _ | j
        · have : t = 25 := by simpa using ht.symm
          subst this
          exact (show Tryd.prog.wantsStandIn 25 = false by kernel_rfl)
        rcases j with _ | j
        · have : t = 26 := by simpa using ht.symm
          subst this
          exact (show Tryd.prog.wantsStandIn 26 = false by kernel_rfl)
        simp at ht⟩)
    (by kernel_rfl)
#print axioms proved
end Go.Proofs.YtchdamlnbmngbaaDoor.streamWhole

