/- JTwiceW. -/
import Derived.Test.YtjllpbckmioiiaaDoorQJLTwice0
/- The walk of JournalTwice, by what a head's two calls do. -/
namespace Go.Proofs.YtjllpbckmioiiaaDoor.jr
open Go Go.RowKit Go.Proofs.YtjllpbckmioiiaaDoor.dk Go.Proofs.YtjllpbckmioiiaaDoor.wi
set_option maxRecDepth 100000

set_option maxHeartbeats 12800000 in
theorem journalTwice_walk (HW : HeadW) (HR : HeadR) (A0 : Option Addr) (c0 : Nat) (xs : List PutV) (A3 : Option Addr) (c3 : Nat) (ys : List PutV) (A1 : Option Addr) (c1 : Nat) (zs : List PutV) (f0 f1 : Int) (hf0 : 0 ≤ f0 ∧ f0 ≤ 255) (hf1 : 0 ≤ f1 ∧ f1 ≤ 255) (A2 : Option Addr) (c2 : Nat) (bs : List Bool) (w : World)
    (hl0 : xs.length ≤ 9223372036854775807) (hT0 : PutsAt3 w A0 xs) (hl3 : ys.length ≤ 9223372036854775807) (hT3 : PutsAt3 w A3 ys) (hl1 : zs.length ≤ 9223372036854775807) (hT1 : PutsAt3 w A1 zs) (hl2 : bs.length ≤ 9223372036854775807) (hlc2 : bs.length ≤ c2) (hT2 : BoolsAt w A2 bs) (ht : CTab w) :
    Calls Tryd.prog 6 #[.slice A0 xs.length c0, .slice A3 ys.length c3, .agg #[.slice A1 zs.length c1, .int .u8 f0, .int .u8 f1, .slice A2 bs.length c2]] w (okB true w) := by
  have HT0 := Lib.hid hT0
  have HT1 := Lib.hid hT1
  have HT2 := Lib.hid hT2
  have HT3 := Lib.hid hT3
  have HT := Lib.hid ht
  have hg := ht.1
  have HHW := Lib.hid HW
  have HHR := Lib.hid HR
  obtain ⟨s1, hs1⟩ : ∃ s, Value.slice A1 zs.length c1 = s := ⟨_, rfl⟩
  have HS1 := Lib.hid hs1
  rw [hs1]
  clear hT0 hT1 hT2 hT3 ht HW HR hs1
  have hkb0 : Blk (w.alloc (.cells #[s1, .int .u8 f0, .int .u8 f1, .slice A2 bs.length c2] 27)) w.heap.size 27 #[s1, .int .u8 f0, .int .u8 f1, .slice A2 bs.length c2] := Blk.new w _ _
  have hb0 : Below w.heap.size w (w.alloc (.cells #[s1, .int .u8 f0, .int .u8 f1, .slice A2 bs.length c2] 27)) := (Below.refl w.heap.size w).alloc (Nat.le_refl _) _
  obtain ⟨w0, hw0⟩ : ∃ x, w.alloc (.cells #[s1, .int .u8 f0, .int .u8 f1, .slice A2 bs.length c2] 27) = x := ⟨_, rfl⟩
  rw [hw0] at hkb0 hb0
  have HKB := Lib.hid hkb0
  have HB0 := Lib.hid hb0
  clear hkb0 hb0
  obtain ⟨_, hj0, hf00⟩ := ready_is
  have HJ0 := Lib.hid hj0
  have HF0 := Lib.hid hf00
  clear hj0 hf00
  obtain ⟨B3, hB3⟩ : ∃ b, bs.take 300 = b := ⟨_, rfl⟩
  have HN3 : Hid (B3.length = (min (bs.length : Int) 300).toNat) := by
    unfold Hid
    rw [← hB3, List.length_take]
    omega
  have HT3' : Hid (BoolsAt w A2 B3) := fun i hi => by
    subst hB3
    have hi' : i < bs.length := by rw [List.length_take] at hi; omega
    have := HT2.out i hi'
    rw [List.getElem_take]
    exact this
  clear hB3
  have hc2 : (bs.length : Int) ≤ (c2 : Int) := by omega
  obtain ⟨L, hL⟩ : ∃ L, wsP zs = L := ⟨_, rfl⟩
  obtain ⟨C, hC⟩ : ∃ L, wsP ys = L := ⟨_, rfl⟩
  have HL := Lib.hid hL
  have HC := Lib.hid hC
  have HL70 : Hid (L.length ≤ 70) := by unfold Hid; rw [← hL]; exact wsP_70 zs
  have HC70 : Hid (C.length ≤ 70) := by unfold Hid; rw [← hC]; exact wsP_70 ys
  obtain ⟨dA, hA, jA, fA⟩ := commit_done HJ0.out HF0.out (wsP xs)
  obtain ⟨rA, hrA⟩ : ∃ r, ansJ 200 (wsP xs) = r := ⟨_, rfl⟩
  rw [hrA] at hA
  obtain ⟨tg, htg⟩ : ∃ t, aft (fun _ => zz) (wsP xs) = t := ⟨_, rfl⟩
  rw [htg] at jA
  obtain ⟨dW1, hW1, jW1, fW1⟩ := commit_done jA fA L
  obtain ⟨dW2, hW2, jW2, fW2⟩ := commit_done jW1 fW1 C
  obtain ⟨dN, hN, jN, fN⟩ := commit_done jA fA C
  obtain ⟨rL, hrL⟩ : ∃ r, ansJ 200 L = r := ⟨_, rfl⟩
  obtain ⟨rC, hrC⟩ : ∃ r, ansJ 200 C = r := ⟨_, rfl⟩
  rw [hrL] at hW1
  rw [hrC] at hW2 hN
  obtain ⟨ps, hps⟩ : ∃ x, KB (aft tg C) = x := ⟨_, rfl⟩
  obtain ⟨qs, hqs⟩ : ∃ x, KB (aft (aft tg L) C) = x := ⟨_, rfl⟩
  have HKN : Hid (keptB dN = ps) := by unfold Hid; rw [← hps]; exact kept_is jN
  have HKW : Hid (keptB dW2 = qs) := by unfold Hid; rw [← hqs]; exact kept_is jW2
  have HPL : Hid (ps.length ≤ 1000000) := by unfold Hid; rw [← hps]; simp [KB]
  have HQL : Hid (qs.length ≤ 1000000) := by unfold Hid; rw [← hqs]; simp [KB]
  have hpure : ∃ ks, (ks = ps ∨ ks = qs) ∧ ∃ t, KB (aft t C) = ks ∧ ((∃ r d2, jcommit (dA.arm (1 + f0)) L = (r, d2) ∧ d2.on = true ∧ Back t C (d2.off.wake B3)) ∨ (∃ d2, jcommit (dA.arm (1 + f0)) L = (6, d2) ∧ d2.on = false ∧ Back t C (d2.wake B3))) := by
    obtain ⟨t, h1, h2⟩ := twice_pure jA L C (1 + f0) (by omega) B3
    refine ⟨KB (aft t C), ?_, t, rfl, h2⟩
    rcases h1 with rfl | rfl
    · exact .inl hps
    · exact .inr hqs
  have HPU := Lib.hid hpure
  have HA := Lib.hid hA
  have HW1 := Lib.hid hW1
  have HW2 := Lib.hid hW2
  have HN := Lib.hid hN
  have HRC := Lib.hid hrC
  have RA := Lib.hid jA
  have RW1 := Lib.hid jW1
  have RW2 := Lib.hid jW2
  have RN := Lib.hid jN
  clear hL hC hA jA fA hrA htg hW1 jW1 fW1 hW2 jW2 fW2 hN jN fN hrL hrC hps hqs hpure
  have HK : Hid (∀ W, Below w0.heap.size w0 W → W.cell? ⟨w.heap.size, 0, none⟩ = some s1 ∧ W.cell? ⟨w.heap.size, 1, none⟩ = some (.int .u8 f0) ∧ W.cell? ⟨w.heap.size, 3, none⟩ = some (.slice A2 bs.length c2) ∧ w.heap.size < W.heap.size) := by
    intro W hW
    have hlt := HKB.out.lt
    have hk := HKB.out.of_block (hW.block _ hlt)
    exact ⟨hk.cell 0, hk.cell 1, hk.cell 3, Nat.lt_of_lt_of_le hlt hW.size⟩
  obtain ⟨B3, hB3⟩ : ∃ b, bs.take 300 = b := ⟨_, rfl⟩
  have HN3 : Hid (B3.length = (min (bs.length : Int) 300).toNat) := by
    unfold Hid
    rw [← hB3, List.length_take]
    omega
  have HT3' : Hid (BoolsAt w A2 B3) := fun i hi => by
    subst hB3
    have hi' : i < bs.length := by rw [List.length_take] at hi; omega
    have := HT2.out i hi'
    rw [List.getElem_take]
    exact this
  clear hB3
  have hc2 : (bs.length : Int) ≤ (c2 : Int) := by omega
  obtain ⟨L, hL⟩ : ∃ L, wsP zs = L := ⟨_, rfl⟩
  obtain ⟨C, hC⟩ : ∃ L, wsP ys = L := ⟨_, rfl⟩
  have HL := Lib.hid hL
  have HC := Lib.hid hC
  have HL70 : Hid (L.length ≤ 70) := by unfold Hid; rw [← hL]; exact wsP_70 zs
  have HC70 : Hid (C.length ≤ 70) := by unfold Hid; rw [← hC]; exact wsP_70 ys
  obtain ⟨dA, hA, jA, fA⟩ := commit_done HJ0.out HF0.out (wsP xs)
  obtain ⟨rA, hrA⟩ : ∃ r, ansJ 200 (wsP xs) = r := ⟨_, rfl⟩
  rw [hrA] at hA
  obtain ⟨tg, htg⟩ : ∃ t, aft (fun _ => zz) (wsP xs) = t := ⟨_, rfl⟩
  rw [htg] at jA
  obtain ⟨dW1, hW1, jW1, fW1⟩ := commit_done jA fA L
  obtain ⟨dW2, hW2, jW2, fW2⟩ := commit_done jW1 fW1 C
  obtain ⟨dN, hN, jN, fN⟩ := commit_done jA fA C
  obtain ⟨rL, hrL⟩ : ∃ r, ansJ 200 L = r := ⟨_, rfl⟩
  obtain ⟨rC, hrC⟩ : ∃ r, ansJ 200 C = r := ⟨_, rfl⟩
  rw [hrL] at hW1
  rw [hrC] at hW2 hN
  obtain ⟨ps, hps⟩ : ∃ x, KB (aft tg C) = x := ⟨_, rfl⟩
  obtain ⟨qs, hqs⟩ : ∃ x, KB (aft (aft tg L) C) = x := ⟨_, rfl⟩
  have HKN : Hid (keptB dN = ps) := by unfold Hid; rw [← hps]; exact kept_is jN
  have HKW : Hid (keptB dW2 = qs) := by unfold Hid; rw [← hqs]; exact kept_is jW2
  have HPL : Hid (ps.length ≤ 1000000) := by unfold Hid; rw [← hps]; simp [KB]
  have HQL : Hid (qs.length ≤ 1000000) := by unfold Hid; rw [← hqs]; simp [KB]
  have hpure : ∃ ks, (ks = ps ∨ ks = qs) ∧ ∃ t, KB (aft t C) = ks ∧ ((∃ r d2, jcommit (dA.arm (1 + f0)) L = (r, d2) ∧ d2.on = true ∧ Back t C (d2.off.wake B3)) ∨ (∃ d2, jcommit (dA.arm (1 + f0)) L = (6, d2) ∧ d2.on = false ∧ Back t C (d2.wake B3))) := by
    obtain ⟨t, h1, h2⟩ := twice_pure jA L C (1 + f0) (by omega) B3
    refine ⟨KB (aft t C), ?_, t, rfl, h2⟩
    rcases h1 with rfl | rfl
    · exact .inl hps
    · exact .inr hqs
  have HPU := Lib.hid hpure
  have HA := Lib.hid hA
  have HW1 := Lib.hid hW1
  have HW2 := Lib.hid hW2
  have HN := Lib.hid hN
  have HRC := Lib.hid hrC
  have RA := Lib.hid jA
  have RW1 := Lib.hid jW1
  have RW2 := Lib.hid jW2
  have RN := Lib.hid jN
  clear hL hC hA jA fA hrA htg hW1 jW1 fW1 hW2 jW2 fW2 hN jN fN hrL hrC hps hqs hpure
  have HK : Hid (∀ W, Below w0.heap.size w0 W → W.cell? ⟨w.heap.size, 0, none⟩ = some s1 ∧ W.cell? ⟨w.heap.size, 1, none⟩ = some (.int .u8 f0) ∧ W.cell? ⟨w.heap.size, 3, none⟩ = some (.slice A2 bs.length c2) ∧ w.heap.size < W.heap.size) := by
    intro W hW
    have hlt := HKB.out.lt
    have hk := HKB.out.of_block (hW.block _ hlt)
    exact ⟨hk.cell 0, hk.cell 1, hk.cell 3, Nat.lt_of_lt_of_le hlt hW.size⟩
  go_enter Tryd.func6, Tryd.ntmps6
  go_wp2_with fail
  clear hw0
  refine (ready_any HHW.out w0).mono ?_
  rintro e Wr ⟨p, rfl, hi, b⟩
  have HIr := Lib.hid hi
  have Br := Lib.hid b
  have BWr := Lib.hid (HB0.out.trans (b.mono HB0.out.size))
  clear hi b
  go_wp2_with fail
  refine (writes_any A0 c0 xs Wr (PutsAt3.below HT0.out BWr.out) hl0).mono ?_
  rintro e Wx ⟨vx, rfl, how, b⟩
  obtain ⟨Ax, cx, rfl, hws⟩ := how.view (wsP_i64 HT0.out)
  have WSx := Lib.hid hws
  have Bx := Lib.hid b
  have BWx := Lib.hid (below_step BWr.out b)
  have B0x := Lib.hid (below_step Br.out b)
  clear how hws b
  go_wp2_with fail
  refine (commit_in HHW.out HHR.out (HIr.out.below Bx.out) B0x.out.size (by rw [HJ0.out.n]; decide) Ax cx _ (wsP xs) rfl WSx.out (by have := wsP_70 xs; omega) (HT.out.below BWx.out hg) (by rw [HJ0.out.more]; decide) rA dA HA.out).mono ?_
  rintro e Wa ⟨rfl, hi, b⟩
  have B0a := Lib.hid (B0x.out.trans b)
  have BWa := Lib.hid (HB0.out.trans (B0a.out.mono HB0.out.size))
  obtain ⟨own1, hd, ho⟩ := hi
  have O1 : Hid (∀ k, own1 k → w0.heap.size ≤ k ∧ k < Wa.heap.size) := fun k h => ⟨ho k h, by
    obtain ⟨_, mm, v, h1⟩ := hd
    exact h1.2.2.2.2.2.2 k h⟩
  have D1a := Lib.hid hd
  clear hd ho b
  go_wp2_with fail
  refine (copy_any D1a.out (by decide)).mono ?_
  rintro e Wb ⟨q, own2, rfl, hd, b, ho⟩
  have O2 : Hid (∀ k, own2 k → Wa.heap.size ≤ k ∧ k < Wb.heap.size) := fun k h => ⟨ho k h, by
    obtain ⟨_, mm, v, h1⟩ := hd
    exact h1.2.2.2.2.2.2 k h⟩
  have D2b := Lib.hid hd
  have D1b := Lib.hid (D1a.out.below b)
  have BWb := Lib.hid (below_step BWa.out b)
  have B0b := Lib.hid (below_step B0a.out b)
  have Sb := Lib.hid b.size
  clear hd ho b
  go_wp2_with fail
  refine (copy_any D1b.out (by decide)).mono ?_
  rintro e Wc ⟨q3, own3, rfl, hd, b, ho⟩
  have O3 : Hid (∀ k, own3 k → Wb.heap.size ≤ k ∧ k < Wc.heap.size) := fun k h => ⟨ho k h, by
    obtain ⟨_, mm, v, h1⟩ := hd
    exact h1.2.2.2.2.2.2 k h⟩
  have D3c := Lib.hid hd
  have D1c := Lib.hid (D1b.out.below b)
  have D2c := Lib.hid (D2b.out.below b)
  have BWc := Lib.hid (below_step BWb.out b)
  have B0c := Lib.hid (below_step B0b.out b)
  have Sc := Lib.hid b.size
  clear hd ho b
  obtain ⟨k0, k1, k3, klt⟩ := HK.out Wc B0c.out
  go_wp2_with fail
  have hwr : Calls Tryd.prog 9 #[s1] Wc (okWs L Wc) := by
    rw [← HS1.out, ← HL.out]
    exact writes_any A1 c1 zs Wc (PutsAt3.below HT1.out BWc.out) hl1
  refine hwr.mono ?_
  try clear hwr
  rintro e Wd ⟨vd, rfl, how, b⟩
  obtain ⟨Ad, cd, rfl, hws⟩ := how.view (by rw [← HL.out]; exact wsP_i64 HT1.out)
  have WSd := Lib.hid hws
  have Bd := Lib.hid b
  have BWd := Lib.hid (below_step BWc.out b)
  have B0d := Lib.hid (below_step B0c.out b)
  clear how hws b
  clear k0 k1 k3 klt
  have D1d := Lib.hid (D1c.out.below Bd.out)
  have D3d := Lib.hid (D3c.out.below Bd.out)
  have Sd := Lib.hid Bd.out.size
  obtain ⟨G2, u1, u2, u3, u4, u5⟩ : ∃ G : Nat → Prop, (∀ k, own2 k → G k) ∧ (∀ k, Wd.heap.size ≤ k → G k) ∧ (∀ k, G k → Wa.heap.size ≤ k) ∧ (∀ k, own1 k → ¬ G k) ∧ (∀ k, own3 k → ¬ G k) := by
    refine ⟨fun k => own2 k ∨ Wd.heap.size ≤ k, fun k h => .inl h, fun k h => .inr h, fun k h => ?_, fun k h g => ?_, fun k h g => ?_⟩
    · have := Sb.out
      have := Sc.out
      have := Sd.out
      rcases h with h | h
      · exact (O2.out k h).1
      · omega
    · have := O1.out k h
      have := Sb.out
      have := Sc.out
      have := Sd.out
      rcases g with g | g
      · have := O2.out k g
        omega
      · omega
    · have := O3.out k h
      have := Sc.out
      have := Sd.out
      rcases g with g | g
      · have := O2.out k g
        omega
      · omega
  have I2d : Hid (InG 400 Wd G2 q dA) := ⟨own2, D2c.out.below Bd.out, u1⟩
  have U2 := Lib.hid u2
  have U3 := Lib.hid u3
  have U4 := Lib.hid u4
  have U5 := Lib.hid u5
  clear u1 u2 u3 u4 u5
  go_wp2_with fail
  refine (commit_g HHW.out HHR.out I2d.out U2.out (by rw [RA.out.n]; decide) Ad cd _ L rfl WSd.out (by have := HL70.out; omega) (HT.out.below BWd.out hg) (by rw [RA.out.more]; decide) rL dW1 HW1.out).mono ?_
  rintro e We ⟨rfl, hi, b⟩
  have I2e := Lib.hid hi
  have D1e := Lib.hid (D1d.out.but b U4.out)
  have D3e := Lib.hid (D3d.out.but b U5.out)
  have Se := Lib.hid b.size
  have B0e := Lib.hid (B0d.out.trans (b.below (fun i h => Nat.le_trans B0a.out.size (U3.out i h)) B0d.out.size))
  have BWe := Lib.hid (HB0.out.trans (B0e.out.mono HB0.out.size))
  clear hi b
  go_wp2_with fail
  have hwr : Calls Tryd.prog 9 #[.slice A3 ys.length c3] We (okWs C We) := by
    rw [← HC.out]
    exact writes_any A3 c3 ys We (PutsAt3.below HT3.out BWe.out) hl3
  refine hwr.mono ?_
  try clear hwr
  rintro e Wf ⟨vf, rfl, how, b⟩
  obtain ⟨Af, cf, rfl, hws⟩ := how.view (by rw [← HC.out]; exact wsP_i64 HT3.out)
  have WSf := Lib.hid hws
  have Bf := Lib.hid b
  have BWf := Lib.hid (below_step BWe.out b)
  have B0f := Lib.hid (below_step B0e.out b)
  clear how hws b
  have D1f := Lib.hid (D1e.out.below Bf.out)
  have D3f := Lib.hid (D3e.out.below Bf.out)
  have I2f := Lib.hid (I2e.out.below Bf.out)
  have Sf := Lib.hid Bf.out.size
  go_wp2_with fail
  refine (commit_g HHW.out HHR.out I2f.out (fun k h => U2.out k (Nat.le_trans Se.out (Nat.le_trans Sf.out h))) (by rw [RW1.out.n]; decide) Af cf _ C rfl WSf.out (by have := HC70.out; omega) (HT.out.below BWf.out hg) (by rw [RW1.out.more]; decide) rC dW2 HW2.out).mono ?_
  rintro e Wg ⟨rfl, hi, b⟩
  obtain ⟨o2, hd, ho⟩ := hi
  have P2 : Hid (∀ k, o2 k → Wa.heap.size ≤ k ∧ k < Wg.heap.size) := fun k h => ⟨U3.out k (ho k h), by
    obtain ⟨_, mm, v, h1⟩ := hd
    exact h1.2.2.2.2.2.2 k h⟩
  have P23 : Hid (∀ k, o2 k → ¬ own3 k) := fun k h h3 => U5.out k h3 (ho k h)
  have D2g := Lib.hid hd
  have D1g := Lib.hid (D1f.out.but b U4.out)
  have D3g := Lib.hid (D3f.out.but b U5.out)
  have Sg := Lib.hid b.size
  have B0g := Lib.hid (B0f.out.trans (b.below (fun i h => Nat.le_trans B0a.out.size (U3.out i h)) B0f.out.size))
  have BWg := Lib.hid (HB0.out.trans (B0g.out.mono HB0.out.size))
  clear hd ho b
  go_wp2_with fail
  have hwr : Calls Tryd.prog 9 #[.slice A3 ys.length c3] Wg (okWs C Wg) := by
    rw [← HC.out]
    exact writes_any A3 c3 ys Wg (PutsAt3.below HT3.out BWg.out) hl3
  refine hwr.mono ?_
  try clear hwr
  rintro e Wh ⟨vh, rfl, how, b⟩
  obtain ⟨Ah, ch, rfl, hws⟩ := how.view (by rw [← HC.out]; exact wsP_i64 HT3.out)
  have WSh := Lib.hid hws
  have Bh := Lib.hid b
  have BWh := Lib.hid (below_step BWg.out b)
  have B0h := Lib.hid (below_step B0g.out b)
  clear how hws b
  have D1h := Lib.hid (D1g.out.below Bh.out)
  have D2h := Lib.hid (D2g.out.below Bh.out)
  have D3h := Lib.hid (D3g.out.below Bh.out)
  have Sh := Lib.hid Bh.out.size
  obtain ⟨G3, u1, u2, u3, u4, u5⟩ : ∃ G : Nat → Prop, (∀ k, own3 k → G k) ∧ (∀ k, Wh.heap.size ≤ k → G k) ∧ (∀ k, G k → Wa.heap.size ≤ k) ∧ (∀ k, own1 k → ¬ G k) ∧ (∀ k, o2 k → ¬ G k) := by
    have s1 := Sb.out
    have s2 := Sc.out
    have s3 := Sd.out
    have s4 := Se.out
    have s5 := Sf.out
    have s6 := Sg.out
    have s7 := Sh.out
    refine ⟨fun k => own3 k ∨ Wh.heap.size ≤ k, fun k h => .inl h, fun k h => .inr h, fun k h => ?_, fun k h g => ?_, fun k h g => ?_⟩
    · rcases h with h | h
      · have := (O3.out k h).1
        omega
      · omega
    · have := O1.out k h
      rcases g with g | g
      · have := O3.out k g
        omega
      · omega
    · have := P2.out k h
      rcases g with g | g
      · exact P23.out k h g
      · omega
  have I3h : Hid (InG 400 Wh G3 q3 dA) := ⟨own3, D3h.out, u1⟩
  have V2 := Lib.hid u2
  have V3 := Lib.hid u3
  have V4 := Lib.hid u4
  have V5 := Lib.hid u5
  clear u1 u2 u3 u4 u5
  go_wp2_with fail
  refine (commit_g HHW.out HHR.out I3h.out V2.out (by rw [RA.out.n]; decide) Ah ch _ C rfl WSh.out (by have := HC70.out; omega) (HT.out.below BWh.out hg) (by rw [RA.out.more]; decide) rC dN HN.out).mono ?_
  rintro e Wi ⟨rfl, hi, b⟩
  obtain ⟨o3, hd, ho⟩ := hi
  have P3 : Hid (∀ k, o3 k → Wa.heap.size ≤ k ∧ k < Wi.heap.size) := fun k h => ⟨V3.out k (ho k h), by
    obtain ⟨_, mm, v, h1⟩ := hd
    exact h1.2.2.2.2.2.2 k h⟩
  have D3i := Lib.hid hd
  have D1i := Lib.hid (D1h.out.but b V4.out)
  have D2i := Lib.hid (D2h.out.but b V5.out)
  have Si := Lib.hid b.size
  have B0i := Lib.hid (B0h.out.trans (b.below (fun i h => Nat.le_trans B0a.out.size (V3.out i h)) B0h.out.size))
  have BWi := Lib.hid (HB0.out.trans (B0i.out.mono HB0.out.size))
  clear hd ho b
  have SAI : Hid (Wa.heap.size ≤ Wi.heap.size) := by
    have s1 := Sb.out
    have s2 := Sc.out
    have s3 := Sd.out
    have s4 := Se.out
    have s5 := Sf.out
    have s6 := Sg.out
    have s7 := Sh.out
    have s8 := Si.out
    unfold Hid
    omega
  have SGI : Hid (Wg.heap.size ≤ Wi.heap.size) := Nat.le_trans Sh.out Si.out
  obtain ⟨k0, k1, k3, klt⟩ := HK.out Wi B0i.out
  go_wp2_with fail
  clear k0 k1 k3 klt
  obtain ⟨G, g1, g2, g3, g4, g5⟩ : ∃ G : Nat → Prop, (∀ k, own1 k → G k) ∧ (∀ k, Wi.heap.size ≤ k → G k) ∧ (∀ k, G k → w0.heap.size ≤ k) ∧ (∀ k, o2 k → ¬ G k) ∧ (∀ k, o3 k → ¬ G k) := by
    have s1 := SAI.out
    have s2 := SGI.out
    have s3 := B0i.out.size
    refine ⟨fun k => own1 k ∨ Wi.heap.size ≤ k, fun k h => .inl h, fun k h => .inr h, fun k h => ?_, fun k h g => ?_, fun k h g => ?_⟩
    · rcases h with h | h
      · exact (O1.out k h).1
      · omega
    · have := P2.out k h
      rcases g with g | g
      · have := O1.out k g
        omega
      · omega
    · have := P3.out k h
      rcases g with g | g
      · have := O1.out k g
        omega
      · omega
  have hlo : ∀ b o, A2 = some ⟨b, o, none⟩ → 0 < B3.length → b < w.heap.size := fun b o h h0 => by
    obtain ⟨b', o', h1, h2, _⟩ := HT3'.out 0 h0
    rw [h] at h1
    cases h1
    exact h2
  have HNB : Hid (∀ b o, A2 = some ⟨b, o, none⟩ → 0 < B3.length → ¬ G b) := fun b o h h0 hG => by
    have h1 := hlo b o h h0
    have h2 := g3 b hG
    have h3 := HB0.out.size
    omega
  have HRS : Hid (∀ W, But G Wi W → CTab W ∧ DkIs 400 W o2 q dW2 ∧ DkIs 400 W o3 q3 dN ∧ BoolsAt W A2 B3 ∧ (∀ k, W.heap.size ≤ k → G k) ∧ Below w.heap.size w W ∧ Below w0.heap.size w0 W) := by
    intro W hW
    have hb0 : Below w0.heap.size w0 W := B0i.out.trans (hW.below g3 B0i.out.size)
    have hbw := HB0.out.trans (hb0.mono HB0.out.size)
    exact ⟨HT.out.below hbw hg, D2i.out.but hW g4, D3i.out.but hW g5, bools_keep HT3'.out hlo hbw, fun k h => g2 k (Nat.le_trans hW.size h), hbw, hb0⟩
  have HIG : Hid (InG 400 Wi G p dA) := ⟨own1, D1i.out, g1⟩
  have G2' := Lib.hid g2
  clear g1 g2 g3 g4 g5 hlo
  have keep : Hid (∀ {a b : World}, But G Wi a → But G a b → But G Wi b) := fun h k => h.trans k (fun i h => .inl h)
  have keepB : Hid (∀ {a b : World}, But G Wi a → Below a.heap.size a b → But G Wi b) := fun h k => h.trans (S' := G) (But.of_below k) (fun i h => .inl h)
  refine (arm_g HIG.out G2'.out (1 + f0) (by omega) _ rfl).mono ?_
  rintro e Wj ⟨rfl, hi, b⟩
  have Ij := Lib.hid hi
  have Tj := Lib.hid b
  clear hi b
  obtain ⟨k0, k1, k3, klt⟩ := HK.out Wj (HRS.out Wj Tj.out).2.2.2.2.2.2
  go_wp2_with fail
  clear k0 k1 k3 klt
  have hwr : Calls Tryd.prog 9 #[s1] Wj (okWs L Wj) := by
    rw [← HS1.out, ← HL.out]
    exact writes_any A1 c1 zs Wj (PutsAt3.below HT1.out (HRS.out Wj Tj.out).2.2.2.2.2.1) hl1
  refine hwr.mono ?_
  clear hwr
  rintro e Wk ⟨vk, rfl, how, b⟩
  obtain ⟨Ak, ck, rfl, hws⟩ := how.view (by rw [← HL.out]; exact wsP_i64 HT1.out)
  have WSk := Lib.hid hws
  have Ik := Lib.hid (Ij.out.below b)
  have Tk := Lib.hid (keepB.out Tj.out b)
  clear how hws b
  go_wp2_with fail
  obtain ⟨ks, hks, t, hkt, hcs⟩ := HPU.out
  have HKS := Lib.hid hks
  have HKT := Lib.hid hkt
  clear hks hkt
  rcases hcs with ⟨r, d2, c1, c2, c3⟩ | ⟨dm, c1, c2, c3⟩
  obtain ⟨dm, hdm⟩ : ∃ x, d2.off = x := ⟨_, rfl⟩
  rw [hdm] at c3
  refine (commit_g HHW.out HHR.out Ik.out (HRS.out Wk Tk.out).2.2.2.2.1 (by rw [(RA.out.arm (1 + f0)).n]; decide) Ak ck _ L rfl WSk.out (by have := HL70.out; omega) (HRS.out Wk Tk.out).1 (by rw [(RA.out.arm (1 + f0)).more]; decide) r d2 c1).mono ?_
  have HDM := Lib.hid hdm
  have C2 := Lib.hid c2
  have C3 := Lib.hid c3
  clear c1 c2 c3 hdm
  rintro e Wl ⟨rfl, hi, b⟩
  have Il := Lib.hid hi
  have Tl := Lib.hid (keep.out Tk.out b)
  clear hi b
  focus go_wp2_with fail
  refine (on_g Il.out true C2.out).mono ?_
  rintro e Wl' ⟨rfl, rfl⟩
  focus go_wp2_with fail
  refine (off_g Il.out (HRS.out _ Tl.out).2.2.2.2.1 dm HDM.out).mono ?_
  rintro e Wm ⟨rfl, hi, b⟩
  have Im := Lib.hid hi
  have Tm := Lib.hid (keep.out Tl.out b)
  clear hi b
  obtain ⟨k0, k1, k3, klt⟩ := HK.out Wm (HRS.out Wm Tm.out).2.2.2.2.2.2
  focus go_wp2_with fail
  rotate_left
  refine (commit_g HHW.out HHR.out Ik.out (HRS.out Wk Tk.out).2.2.2.2.1 (by rw [(RA.out.arm (1 + f0)).n]; decide) Ak ck _ L rfl WSk.out (by have := HL70.out; omega) (HRS.out Wk Tk.out).1 (by rw [(RA.out.arm (1 + f0)).more]; decide) 6 dm c1).mono ?_
  have C2 := Lib.hid c2
  have C3 := Lib.hid c3
  clear c1 c2 c3
  rintro e Wm ⟨rfl, hi, b⟩
  have Im := Lib.hid hi
  have Tm := Lib.hid (keep.out Tk.out b)
  clear hi b
  obtain ⟨k0, k1, k3, klt⟩ := HK.out Wm (HRS.out Wm Tm.out).2.2.2.2.2.2
  focus go_wp2_with fail
  refine (on_g Im.out false C2.out).mono ?_
  rintro e Wm' ⟨rfl, rfl⟩
  focus go_wp2_with fail
  all_goals
    clear k0 k1 k3 klt
    refine (wake_g Im.out (HRS.out _ Tm.out).2.2.2.2.1 (by decide) A2 _ c2 B3 HN3.out (HRS.out _ Tm.out).2.2.2.1 HNB.out _ rfl).mono ?_
    rintro e Wn ⟨rfl, hi, b⟩
    have In' := Lib.hid hi
    have Tn := Lib.hid (keep.out Tm.out b)
    clear hi b
    obtain ⟨⟨n3, m3⟩, d4, d5, d6, d7, ⟨a4, n4, m4⟩, ⟨a5, n5, m5⟩, ⟨a6, ⟨n6, m6⟩, on6⟩, ⟨a7, on7, kk⟩⟩ := C3.out
    rw [HRC.out] at a6
    rw [HKT.out] at kk
    have A4 := Lib.hid a4
    have A5 := Lib.hid a5
    have A6 := Lib.hid a6
    have A7 := Lib.hid a7
    have N3 := Lib.hid n3
    have N4 := Lib.hid n4
    have N5 := Lib.hid n5
    have N6 := Lib.hid n6
    have M3 := Lib.hid m3
    have M4 := Lib.hid m4
    have M5 := Lib.hid m5
    have M6 := Lib.hid m6
    have ON6 := Lib.hid on6
    have ON7 := Lib.hid on7
    have KK := Lib.hid kk
    clear n3 m3 a4 n4 m4 a5 n5 m5 a6 n6 m6 on6 a7 on7 kk
    go_wp2_with fail
    refine (recover_g HHR.out In'.out (HRS.out Wn Tn.out).2.2.2.2.1 (by rw [N3.out]; decide) (HRS.out Wn Tn.out).1 (by rw [M3.out]; decide) 0 d4 A4.out).mono ?_
    rintro e Wo ⟨rfl, hi, b⟩
    have Io := Lib.hid hi
    have To := Lib.hid (keep.out Tn.out b)
    clear hi b
    go_wp2_with fail
    refine (recover_g HHR.out Io.out (HRS.out Wo To.out).2.2.2.2.1 (by rw [N4.out]; decide) (HRS.out Wo To.out).1 (by rw [M4.out]; decide) 0 d5 A5.out).mono ?_
    rintro e Wp ⟨rfl, hi, b⟩
    have Ip := Lib.hid hi
    have Tp := Lib.hid (keep.out To.out b)
    clear hi b
    go_wp2_with fail
    have hwr : Calls Tryd.prog 9 #[.slice A3 ys.length c3] Wp (okWs C Wp) := by
      rw [← HC.out]
      exact writes_any A3 c3 ys Wp (PutsAt3.below HT3.out (HRS.out Wp Tp.out).2.2.2.2.2.1) hl3
    refine hwr.mono ?_
    clear hwr
    rintro e Wq ⟨vq, rfl, how, b⟩
    obtain ⟨Aq, cq, rfl, hws⟩ := how.view (by rw [← HC.out]; exact wsP_i64 HT3.out)
    have WSq := Lib.hid hws
    have Iq := Lib.hid (Ip.out.below b)
    have Tq := Lib.hid (keepB.out Tp.out b)
    clear how hws b
    go_wp2_with fail
    refine (commit_g HHW.out HHR.out Iq.out (HRS.out Wq Tq.out).2.2.2.2.1 (by rw [N5.out]; decide) Aq cq _ C rfl WSq.out (by have := HC70.out; omega) (HRS.out Wq Tq.out).1 (by rw [M5.out]; decide) rC d6 A6.out).mono ?_
    rintro e Ws ⟨rfl, hi, b⟩
    have Is := Lib.hid hi
    have Ts := Lib.hid (keep.out Tq.out b)
    clear hi b
    go_wp2_with fail
    refine (on_g Is.out true ON6.out).mono ?_
    rintro e Ws' ⟨rfl, rfl⟩
    go_wp2_with fail
    refine (recover_g HHR.out Is.out (HRS.out _ Ts.out).2.2.2.2.1 (by rw [N6.out]; decide) (HRS.out _ Ts.out).1 (by rw [M6.out]; decide) 0 d7 A7.out).mono ?_
    rintro e Wt ⟨rfl, hi, b⟩
    have It := Lib.hid hi
    have Tt := Lib.hid (keep.out Ts.out b)
    clear hi b
    go_wp2_with fail
    refine (kept_g It.out ON7.out ks KK.out).mono ?_
    rintro e Wu ⟨v, rfl, ho, b⟩
    obtain ⟨Au, cu, rfl, _, _, hsu, _, _⟩ := ho.view
    have SU := Lib.hid hsu
    have Tu := Lib.hid (keepB.out Tt.out b)
    clear ho hsu b
    go_wp2_with fail
    have hkw := kept_any (HRS.out Wu Tu.out).2.1 RW2.out.on
    rw [HKW.out] at hkw
    refine hkw.mono ?_
    clear hkw
    rintro e Wv ⟨v, rfl, ho, b⟩
    obtain ⟨Av, cv, rfl, _, _, hsv, _, _⟩ := ho.view
    have SV := Lib.hid hsv
    have SU2 := Lib.hid (strsAt_but (G := fun _ => False) SU.out (But.of_below b) (fun _ _ _ h => h))
    have Tv := Lib.hid (keepB.out Tu.out b)
    clear ho hsv b
    go_wp2_with fail
    have hkl : ks.length ≤ 1000000 := by rcases HKS.out with h | h <;> rw [h]; exact HPL.out; exact HQL.out
    have HKL := Lib.hid hkl
    clear hkl
    refine (alike_any Au Av cu cv ks qs Wv SU2.out SV.out HKL.out).mono ?_
    rintro e Wy ⟨he, b⟩
    have SU3 := Lib.hid (strsAt_but (G := fun _ => False) SU2.out (But.of_below b) (fun _ _ _ h => h))
    have Ty := Lib.hid (keepB.out Tv.out b)
    clear b
    cases hdq : decide (ks = qs) with
    | true =>
      rw [hdq] at he
      subst he
      clear hdq
      go_wp2_with fail
      refine (works_any HHW.out HHR.out Wy (HRS.out Wy Ty.out).1).mono ?_
      rintro e Wz ⟨rfl, b⟩
      have HBE := Lib.hid (below_step (HRS.out Wy Ty.out).2.2.2.2.2.1 b)
      clear b
      go_wp2_with fail
      go_ret
      exact ⟨rfl, HBE.out⟩
    | false =>
      rw [hdq] at he
      subst he
      have hkp : ks = ps := HKS.out.resolve_right (by simpa using hdq)
      have HKP := Lib.hid hkp
      clear hdq hkp
      go_wp2_with fail
      have hkw := kept_any (HRS.out Wy Ty.out).2.2.1 RN.out.on
      rw [HKN.out] at hkw
      refine hkw.mono ?_
      clear hkw
      rintro e Wa2 ⟨v, rfl, ho, b⟩
      obtain ⟨Ab2, cb2, rfl, _, _, hsv, _, _⟩ := ho.view
      have SV2 := Lib.hid hsv
      have SU4 := Lib.hid (strsAt_but (G := fun _ => False) SU3.out (But.of_below b) (fun _ _ _ h => h))
      have Ta2 := Lib.hid (keepB.out Ty.out b)
      clear ho hsv b
      go_wp2_with fail
      have hal := alike_any Au Ab2 cu cb2 ks ps Wa2 SU4.out SV2.out HKL.out
      rw [decide_eq_true HKP.out] at hal
      refine hal.mono ?_
      rintro e Wc2 ⟨rfl, b⟩
      have Tc2 := Lib.hid (keepB.out Ta2.out b)
      clear hal b
      go_wp2_with fail
      refine (works_any HHW.out HHR.out Wc2 (HRS.out Wc2 Tc2.out).1).mono ?_
      rintro e Wz ⟨rfl, b⟩
      have HBE := Lib.hid (below_step (HRS.out Wc2 Tc2.out).2.2.2.2.2.1 b)
      clear b
      go_wp2_with fail
      go_ret
      exact ⟨rfl, HBE.out⟩
end Go.Proofs.YtjllpbckmioiiaaDoor.jr

