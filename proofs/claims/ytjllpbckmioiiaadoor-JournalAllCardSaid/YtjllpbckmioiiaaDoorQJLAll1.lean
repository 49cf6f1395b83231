/- JAllW. -/
import Derived.Test.YtjllpbckmioiiaaDoorQ24
import Derived.Test.YtjllpbckmioiiaaDoorQJLAll0
/- The walk of JournalAll, by what a head's two calls do (written by tools/all05.py). -/
namespace Go.Proofs.YtjllpbckmioiiaaDoor.jr
open Go Go.RowKit Go.Proofs.YtjllpbckmioiiaaDoor.dk Go.Proofs.YtjllpbckmioiiaaDoor.wi
set_option maxRecDepth 100000

/-- What the operations that part the last argument yield. -/
def LastG (g g6 : Nat) (s1 s2 : Value) (f0 f1 : Int) : Nat → Value → Prop
  | 0, v => v = .pointer (some ⟨g, 0, none⟩)
  | 1, v => v = s1
  | 2, v => v = .pointer (some ⟨g, 1, none⟩)
  | 3, v => v = .agg #[.int .u8 f0, .int .u8 f1]
  | 4, v => v = .pointer (some ⟨g, 3, none⟩)
  | 5, v => v = s2
  | 6, v => v = .pointer (some ⟨g6, 0, none⟩)
  | 7, v => v = s1
  | 9, v => v = s2
  | _, _ => True

set_option maxHeartbeats 12800000 in
theorem journalAll_walk (HW : HeadW) (HR : HeadR) (A0 : Option Addr) (c0 : Nat) (zss : List (List PutV)) (A1 : Option Addr) (c1 : Nat) (zs : List PutV) (f0 f1 : Int) (hf0 : 0 ≤ f0 ∧ f0 ≤ 255) (hf1 : 0 ≤ f1 ∧ f1 ≤ 255) (A2 : Option Addr) (c2 : Nat) (bs : List Bool) (w : World)
    (hl0 : zss.length ≤ 9223372036854775807) (hT0 : PssAt w A0 zss) (hl1 : zs.length ≤ 9223372036854775807) (hT1 : PutsAt3 w A1 zs) (hl2 : bs.length ≤ 9223372036854775807) (hlc2 : bs.length ≤ c2) (hT2 : BoolsAt w A2 bs) (ht : CTab w) :
    Calls Tryd.prog 3 #[.slice A0 zss.length c0, .agg #[.slice A1 zs.length c1, .int .u8 f0, .int .u8 f1, .slice A2 bs.length c2]] w (okB true w) := by
  have HT0 := Lib.hid hT0
  have HT1 := Lib.hid hT1
  have HT2 := Lib.hid hT2
  have HT := Lib.hid ht
  have hg := ht.1
  have HHW := Lib.hid HW
  have HHR := Lib.hid HR
  obtain ⟨s1, hs1⟩ : ∃ s, Value.slice A1 zs.length c1 = s := ⟨_, rfl⟩
  obtain ⟨s2, hs2⟩ : ∃ s, Value.slice A2 bs.length c2 = s := ⟨_, rfl⟩
  have HS1 := Lib.hid hs1
  have HS2 := Lib.hid hs2
  rw [hs1, hs2]
  clear hT0 hT1 hT2 ht HW HR hs1 hs2
  have hkb0 : Blk (w.alloc (.cells #[s1, .int .u8 f0, .int .u8 f1, s2] 27)) w.heap.size 27 #[s1, .int .u8 f0, .int .u8 f1, s2] := Blk.new w _ _
  have hb0 : Below w.heap.size w (w.alloc (.cells #[s1, .int .u8 f0, .int .u8 f1, s2] 27)) := (Below.refl w.heap.size w).alloc (Nat.le_refl _) _
  obtain ⟨w0, hw0⟩ : ∃ x, w.alloc (.cells #[s1, .int .u8 f0, .int .u8 f1, s2] 27) = x := ⟨_, rfl⟩
  rw [hw0] at hkb0 hb0
  have HKB := Lib.hid hkb0
  have HB0 := Lib.hid hb0
  clear hkb0 hb0
  go_enter Tryd.func3, Tryd.ntmps3
  go_wp2_with fail
  clear hw0
  refine wp_region_invN (by kernel_rfl) [18, 19, 20, 21, 22, 23, 6, 5, 131, 7] (by kernel_rfl) (fun L vs W => Below w0.heap.size w0 W ∧ ((L 6 = false → W.heap.size = w0.heap.size) ∧ (L 6 = true → L 8 = false → Blk W w0.heap.size 24 #[.int .u8 0, .int .u8 0]) ∧ (L 8 = true → Blk W w0.heap.size 24 #[.int .u8 f0, .int .u8 f1]) ∧ (L 8 = true → L 6 = true)) ∧ ∀ i, L i = true → i < 10 → LastG w.heap.size w0.heap.size s1 s2 f0 f1 i (vs i)) ⟨(Below.refl w0.heap.size w0).drew, ⟨fun _ => rfl, fun h => (by cases h), fun h => (by cases h), fun h => (by cases h)⟩, fun i hi => by cases hi⟩ ?_ ?_ ?_
  · intro i o L vs ρ W ho hli haft hρ hgd hI
    obtain ⟨hB, hM, hG⟩ := hI
    have hi10 : i < 10 := (Array.getElem?_eq_some_iff.1 ho).1
    have hc := hρ.const
    have next : ∀ v, i ≠ 6 → i ≠ 8 → LastG w.heap.size w0.heap.size s1 s2 f0 f1 i v → (fun L vs W => Below w0.heap.size w0 W ∧ ((L 6 = false → W.heap.size = w0.heap.size) ∧ (L 6 = true → L 8 = false → Blk W w0.heap.size 24 #[.int .u8 0, .int .u8 0]) ∧ (L 8 = true → Blk W w0.heap.size 24 #[.int .u8 f0, .int .u8 f1]) ∧ (L 8 = true → L 6 = true)) ∧ ∀ i, L i = true → i < 10 → LastG w.heap.size w0.heap.size s1 s2 f0 f1 i (vs i)) (updB L i) (updV vs i v) W := fun v n6 n8 h2 => by
      refine ⟨hB, ?_, fun j hj h10 => ?_⟩
      · simp only [updB]
        rw [if_neg (Ne.symm n6), if_neg (Ne.symm n8)]
        exact hM
      · by_cases hji : j = i
        · subst hji
          simpa [updV] using h2
        · simp only [updB, updV, if_neg hji] at hj ⊢
          exact hG j hj h10
    have hK : Blk W w.heap.size 27 #[s1, .int .u8 f0, .int .u8 f1, s2] := HKB.out.of_block (hB.block _ HKB.out.lt)
    have q0 := hK.cell 0
    have q1 := hK.cell 1
    have q2 := hK.cell 2
    have q3 := hK.cell 3
    have lq := hK.lt
    clear hK
    rcases i with _ | _ | _ | _ | _ | _ | _ | _ | _ | _ | i
    all_goals (first | omega | skip)
    all_goals simp only [List.getElem?_toArray, List.getElem?_cons_zero, List.getElem?_cons_succ, Option.some.injEq] at ho
    all_goals subst ho
    · have o3 : ρ (.tmp 3) = .pointer (some ⟨w.heap.size, 0, none⟩) := hρ.out 3 rfl
      exact stepToS_value (w' := W) (by unfold execOp; simp only [o3]; go_simp) (next _ (by decide) (by decide) rfl)
    · have g18 : LastG w.heap.size w0.heap.size s1 s2 f0 f1 0 (vs 0) := hG 0 (haft 0 (by kernel_rfl)) (by omega)
      have s18 : ρ (.tmp 18) = .pointer (some ⟨w.heap.size, 0, none⟩) := (hρ.at_ 18 0 rfl).trans g18
      exact stepToS_value (w' := W) (by unfold execOp; simp only [s18]; go_simp) (next _ (by decide) (by decide) rfl)
    · have o3 : ρ (.tmp 3) = .pointer (some ⟨w.heap.size, 0, none⟩) := hρ.out 3 rfl
      exact stepToS_value (w' := W) (by unfold execOp; simp only [o3]; go_simp) (next _ (by decide) (by decide) rfl)
    · have g20 : LastG w.heap.size w0.heap.size s1 s2 f0 f1 2 (vs 2) := hG 2 (haft 2 (by kernel_rfl)) (by omega)
      have s20 : ρ (.tmp 20) = .pointer (some ⟨w.heap.size, 1, none⟩) := (hρ.at_ 20 2 rfl).trans g20
      exact stepToS_value (w' := W) (by unfold execOp; simp only [s20]; go_simp) (next _ (by decide) (by decide) rfl)
    · have o3 : ρ (.tmp 3) = .pointer (some ⟨w.heap.size, 0, none⟩) := hρ.out 3 rfl
      exact stepToS_value (w' := W) (by unfold execOp; simp only [o3]; go_simp) (next _ (by decide) (by decide) rfl)
    · have g22 : LastG w.heap.size w0.heap.size s1 s2 f0 f1 4 (vs 4) := hG 4 (haft 4 (by kernel_rfl)) (by omega)
      have s22 : ρ (.tmp 22) = .pointer (some ⟨w.heap.size, 3, none⟩) := (hρ.at_ 22 4 rfl).trans g22
      exact stepToS_value (w' := W) (by unfold execOp; simp only [s22]; go_simp) (next _ (by decide) (by decide) rfl)
    · have hsz : W.heap.size = w0.heap.size := hM.1 hli
      refine stepToS_value (v := .pointer (some ⟨W.heap.size, 0, none⟩)) (w' := W.alloc (.cells #[.int .u8 0, .int .u8 0] 24)) (by unfold execOp; simp only [hc]; go_simp) ?_
      have n8 : L 8 = false := by
        cases hx : L 8 with
        | false => rfl
        | true => exact absurd (hM.2.2.2 hx) (by rw [hli]; decide)
      refine ⟨hB.alloc hB.size _, ⟨fun h => (by simp [updB] at h), fun _ _ => ?_, fun h => ?_, fun h => ?_⟩, fun j hj h10 => ?_⟩
      · rw [← hsz]
        exact Blk.new W _ _
      · simp [updB, n8] at h
      · simp [updB]
      · by_cases hji : j = 6
        · subst hji
          simp only [updV, if_pos]
          show Value.pointer (some ⟨W.heap.size, 0, none⟩) = Value.pointer (some ⟨w0.heap.size, 0, none⟩)
          rw [hsz]
        · simp only [updB, updV, if_neg hji] at hj ⊢
          exact hG j hj h10
    · have g19 : LastG w.heap.size w0.heap.size s1 s2 f0 f1 1 (vs 1) := hG 1 (haft 1 (by kernel_rfl)) (by omega)
      have s19 : ρ (.tmp 19) = s1 := (hρ.at_ 19 1 rfl).trans g19
      exact stepToS_value (w' := W) (by unfold execOp; simp only [s19]; go_simp) (next _ (by decide) (by decide) rfl)
    · have y6 : L 6 = true := haft 6 (by kernel_rfl)
      have g6 : LastG w.heap.size w0.heap.size s1 s2 f0 f1 6 (vs 6) := hG 6 y6 (by omega)
      have s6 : ρ (.tmp 6) = .pointer (some ⟨w0.heap.size, 0, none⟩) := (hρ.at_ 6 6 rfl).trans g6
      have g21 : LastG w.heap.size w0.heap.size s1 s2 f0 f1 3 (vs 3) := hG 3 (haft 3 (by kernel_rfl)) (by omega)
      have s21 : ρ (.tmp 21) = .agg #[.int .u8 f0, .int .u8 f1] := (hρ.at_ 21 3 rfl).trans g21
      have hbz := hM.2.1 y6 hli
      have z0 := hbz.cell 0
      have z1 := hbz.cell 1
      have zf0 := hbz.frozen 0
      have zf1 := hbz.frozen 1
      have zlt := hbz.lt
      refine stepToS_skip (w' := (W.setCell ⟨w0.heap.size, 0, none⟩ (.int .u8 f0)).setCell ⟨w0.heap.size, 1, none⟩ (.int .u8 f1)) (by unfold execOp; simp only [s6, s21]; go_simp) ?_
      refine ⟨(hB.setCell (Nat.le_refl _) _).setCell (Nat.le_refl _) _, ⟨fun h => ?_, fun _ h => ?_, fun _ => ?_, fun _ => ?_⟩, fun j hj h10 => ?_⟩
      · simp only [updB] at h
        rw [if_neg (by decide), y6] at h
        cases h
      · simp [updB] at h
      · have := (hbz.set_ 0 (.int .u8 f0)).set_ 1 (.int .u8 f1)
        simpa using this
      · simp only [updB]
        rw [if_neg (by decide)]
        exact y6
      · by_cases hji : j = 8
        · subst hji
          exact trivial
        · simp only [updB, updV, if_neg hji] at hj ⊢
          exact hG j hj h10
    · have g23 : LastG w.heap.size w0.heap.size s1 s2 f0 f1 5 (vs 5) := hG 5 (haft 5 (by kernel_rfl)) (by omega)
      have s23 : ρ (.tmp 23) = s2 := (hρ.at_ 23 5 rfl).trans g23
      exact stepToS_value (w' := W) (by unfold execOp; simp only [s23]; go_simp) (next _ (by decide) (by decide) rfl)
  · intro i o L vs W j want ho hli haft hg hv hI
    have hi10 : i < 10 := (Array.getElem?_eq_some_iff.1 ho).1
    rcases i with _ | _ | _ | _ | _ | _ | _ | _ | _ | _ | i
    all_goals (first | omega | skip)
    all_goals simp only [List.getElem?_toArray, List.getElem?_cons_zero, List.getElem?_cons_succ, Option.some.injEq] at ho
    all_goals subst ho
    all_goals simp only [reduceCtorEq] at hg
  intro vs W1 hI
  obtain ⟨hB1, hM, hG⟩ := hI
  have g7 : LastG w.heap.size w0.heap.size s1 s2 f0 f1 7 (vs 7) := hG 7 (by decide) (by decide)
  have g9 : LastG w.heap.size w0.heap.size s1 s2 f0 f1 9 (vs 9) := hG 9 (by decide) (by decide)
  have g6 : LastG w.heap.size w0.heap.size s1 s2 f0 f1 6 (vs 6) := hG 6 (by decide) (by decide)
  have hK6 := hM.2.2.1 (by decide)
  have e7 : vs 7 = s1 := g7
  have e9 : vs 9 = s2 := g9
  have e6 : vs 6 = .pointer (some ⟨w0.heap.size, 0, none⟩) := g6
  simp only [putList, putSel, if_true]
  rw [e7, e9, e6]
  generalize vs 0 = x0 at *
  generalize vs 1 = x1 at *
  generalize vs 2 = x2 at *
  generalize vs 3 = x3 at *
  generalize vs 4 = x4 at *
  generalize vs 5 = x5 at *
  generalize vs 8 = x8 at *
  clear hG hM g7 g9 g6 e7 e9 e6
  have HBW := Lib.hid (HB0.out.trans (hB1.mono HB0.out.size))
  have HK6 := Lib.hid hK6
  clear hK6 hB1
  obtain ⟨_, hj0, hf0⟩ := ready_is
  go_wp2_with fail
  refine (ready_any HHW.out W1).mono ?_
  rintro e Wr ⟨p, rfl, hi0, b1⟩
  have HI0 := Lib.hid hi0
  have HB1 := Lib.hid b1
  have HJ0 := Lib.hid hj0
  have HF0 := Lib.hid hf0
  clear hi0 b1 hj0 hf0
  go_wp2_with fail
  go_loopw [9] (fun i wr => AllRel zss p W1 i wr) (fun i _ => 5 - (intOf i).toNat)
  case atStart => exact ⟨0, ready200, fun _ => zz, Nat.zero_le _, Nat.zero_le _, rfl, HI0.out, HJ0.out, HF0.out, HB1.out⟩
  case round =>
    obtain ⟨k, d, tgt, hk, hk4, rfl, hi, hj, hf, hB⟩ := hrel
    have HI := Lib.hid hi
    have HJ := Lib.hid hj
    have HF := Lib.hid hf
    have HB := Lib.hid hB
    have HBX := Lib.hid (HBW.out.trans (hB.mono HBW.out.size))
    clear hi hj hf hB HI0 HB1 HJ0 HF0
    by_cases hgo : k < zss.length ∧ k < 4
    · obtain ⟨hlt, hlt4⟩ := hgo
      obtain ⟨bb, oo, Ai, ci, rfl, hbb, hc, hput, hlen⟩ := HT0.out k hlt
      have hzlen : (zss[k]).length = zss[k].length := rfl
      generalize zss[k] = zk at *
      have hklt : (k : Int) < (zss.length : Int) := by omega
      have hk4' : (k : Int) < 4 := by omega
      have e0 : wr.cell? ⟨bb, oo + k, none⟩ = some (.slice Ai zk.length ci) := by rw [HBX.out.cell (p := ⟨bb, oo + k, none⟩) hbb]; exact hc
      have hbw : bb < wr.heap.size := Nat.lt_of_lt_of_le hbb HBX.out.size
      have HPU := Lib.hid hput
      have HPL := Lib.hid hlen
      clear hc hput hlen hzlen
      have hw0 := PutsAt3.below HPU.out (HBX.out.mono (Nat.le_refl _))
      have HW0 := Lib.hid hw0
      clear hw0
      go_wp2_with fail
      refine (writes_any Ai ci zk wr HW0.out HPL.out).mono ?_
      rintro e Wa ⟨v, rfl, hov, ba⟩
      obtain ⟨Av, cv, rfl, hws⟩ := hov.view (wsP_i64 HPU.out)
      obtain ⟨d', hcm, hj', hf'⟩ := commit_done HJ.out HF.out (wsP zk)
      have HWS := Lib.hid hws
      have HCM := Lib.hid hcm
      have HJ' := Lib.hid hj'
      have HF' := Lib.hid hf'
      have HBA := Lib.hid (below_step HB.out ba)
      have HIA := Lib.hid (HI.out.below ba)
      clear hov ba hws hcm hj' hf'
      go_wp2_with fail
      refine (commit_in HHW.out HHR.out HIA.out HBA.out.size (by rw [HJ.out.n]; decide) Av cv _ (wsP zk) rfl HWS.out (by have := wsP_70 zk; omega) (HT.out.below (HBW.out.trans (HBA.out.mono HBW.out.size)) hg) (by rw [HJ.out.more]; decide) _ d' HCM.out).mono ?_
      rintro e Wc ⟨rfl, hic, bc⟩
      have HIC := Lib.hid hic
      have HBC := Lib.hid (HBA.out.trans bc)
      clear hic bc
      go_wp2_with fail
      go_roundw
      case rel => exact ⟨k + 1, d', aft tgt (wsP zk), by omega, by omega, by go_num, HIC.out, HJ'.out, HF'.out, HBC.out⟩
      case measure => simp [intOf]; omega
    · obtain ⟨own1, hd1, ho1⟩ := HI.out
      have hol : ∀ k, own1 k → k < wr.heap.size := by
        obtain ⟨_, m, v, h1⟩ := hd1
        exact h1.2.2.2.2.2.2
      have HD1 := Lib.hid hd1
      have HO1 := Lib.hid ho1
      have HOL := Lib.hid hol
      clear hd1 ho1 hol
      obtain ⟨L, hL⟩ : ∃ L, wsP zs = L := ⟨_, rfl⟩
      have hL70 : L.length ≤ 70 := by rw [← hL]; exact wsP_70 zs
      obtain ⟨dq, hcq, hjq, hfq⟩ := commit_done HJ.out HF.out L
      obtain ⟨ps, hps⟩ : ∃ ps, KB tgt = ps := ⟨_, rfl⟩
      obtain ⟨qs, hqs⟩ : ∃ qs, KB (aft tgt L) = qs := ⟨_, rfl⟩
      have hpl : ps.length ≤ 1000000 := by rw [← hps]; simp [KB]
      have hql : qs.length ≤ 1000000 := by rw [← hqs]; simp [KB]
      have hkd : keptB d = ps := by rw [← hps]; exact kept_is HJ.out
      have hkq : keptB dq = qs := by rw [← hqs]; exact kept_is hjq
      obtain ⟨r, hr⟩ : ∃ r, ansJ 200 L = r := ⟨_, rfl⟩
      have hpq : r ≠ 0 → ps = qs := fun h => by rw [← hps, ← hqs]; unfold aft; rw [if_neg (by rw [hr]; exact h)]
      rw [hr] at hcq
      have HL := Lib.hid hL
      have HL70 := Lib.hid hL70
      have HCQ := Lib.hid hcq
      have HJQ := Lib.hid hjq
      have HPS := Lib.hid hps
      have HQS := Lib.hid hqs
      have HPL := Lib.hid hpl
      have HQL := Lib.hid hql
      have HKD := Lib.hid hkd
      have HKQ := Lib.hid hkq
      have HR := Lib.hid hr
      have HPQ := Lib.hid hpq
      clear hL hL70 hcq hjq hfq hps hqs hpl hql hkd hkq hr hpq
      have hcond : ((k : Int) < (zss.length : Int) ∧ ¬ (k : Int) < 4) ∨ ¬ (k : Int) < (zss.length : Int) := by omega
      clear hgo
      rcases hcond with ⟨hk0, hk1⟩ | hk0
      all_goals
        go_wp2_with fail
        refine (kept_any HD1.out HJ.out.on).mono ?_
        rintro e W2 ⟨vb, rfl, hob, b2⟩
        rw [HKD.out] at hob
        obtain ⟨Ab, cb, rfl, _, _, hsb, _, hbb⟩ := hob.view
        have HSB := Lib.hid hsb
        have HBB := Lib.hid hbb
        have HB2 := Lib.hid b2
        have HBW2 := Lib.hid (HBX.out.trans (b2.mono HBX.out.size))
        clear hob hsb hbb b2 hk0
        try clear hk1
        go_wp2_with fail
        have hwr : Calls Tryd.prog 9 #[s1] W2 (okWs L W2) := by
          rw [← HS1.out, ← HL.out]
          exact writes_any A1 c1 zs W2 (PutsAt3.below HT1.out (HBW2.out.mono (Nat.le_refl _))) hl1
        refine hwr.mono ?_
        rintro e W3 ⟨vw, rfl, how, b3⟩
        obtain ⟨Aw, cw, rfl, hws⟩ := how.view (by rw [← HL.out]; exact wsP_i64 HT1.out)
        have HWS := Lib.hid hws
        have HWB := Lib.hid how.block
        have HB3 := Lib.hid b3
        have HB23 := Lib.hid (below_step HB2.out b3)
        clear hwr hws how b3
        go_wp2_with fail
        refine (copy_any (HD1.out.below HB23.out) (by decide)).mono ?_
        rintro e W4 ⟨q, own2, rfl, hdq, b4, ho2⟩
        have HDQ := Lib.hid hdq
        have HB4 := Lib.hid b4
        have HO2 := Lib.hid ho2
        have HB24 := Lib.hid (below_step HB23.out b4)
        clear hdq b4 ho2
        go_wp2_with fail
        refine (commit_in HHW.out HHR.out (B := W3.heap.size) ⟨own2, HDQ.out, HO2.out⟩ HB4.out.size (by rw [HJ.out.n]; decide) Aw cw _ L rfl (HWS.out.below HB4.out (Nat.le_refl _)) (by have := HL70.out; omega) (HT.out.below (HBX.out.trans (HB24.out.mono HBX.out.size)) hg) (by rw [HJ.out.more]; decide) r dq HCQ.out).mono ?_
        rintro e W5 ⟨rfl, hi5, b5⟩
        have HI5 := Lib.hid hi5
        have HB35 := Lib.hid (HB4.out.trans b5)
        have HB25 := Lib.hid (HB23.out.trans (HB35.out.mono HB23.out.size))
        clear hi5 b5
        go_wp2_with fail
        obtain ⟨own3, hd3, _⟩ := HI5.out
        refine (kept_any hd3 HJQ.out.on).mono ?_
        rintro e W6 ⟨va, rfl, hoa, b6⟩
        rw [HKQ.out] at hoa
        obtain ⟨Aa, ca, rfl, _, _, hsa, _, haa⟩ := hoa.view
        have HSA := Lib.hid hsa
        have HAA := Lib.hid haa
        have HB6 := Lib.hid b6
        have HB36 := Lib.hid (HB35.out.trans (b6.mono HB35.out.size))
        have HB26 := Lib.hid (HB23.out.trans (HB36.out.mono HB23.out.size))
        have HBW6 := Lib.hid (HBX.out.trans (HB26.out.mono HBX.out.size))
        clear hd3 hoa hsa haa b6
        have e2 := HS2.out
        subst e2
        obtain ⟨B3, hB3⟩ : ∃ b, bs.take 300 = b := ⟨_, rfl⟩
        have HF7 : Hid (∀ W, Below W6.heap.size W6 W → W.cell? ⟨w0.heap.size, 0, none⟩ = some (.int .u8 f0) ∧ w0.heap.size < W.heap.size) := by
          intro W hW
          have hb := HB.out.trans ((HB26.out.trans (hW.mono HB26.out.size)).mono HB.out.size)
          have hlt := HK6.out.lt
          have hk := HK6.out.of_block (hb.block _ hlt)
          exact ⟨hk.cell 0, Nat.lt_of_lt_of_le hlt hb.size⟩
        have HN3 : Hid (B3.length = (min (bs.length : Int) 300).toNat) := by
          unfold Hid
          rw [← hB3, List.length_take]
          omega
        have HT3 : Hid (BoolsAt w A2 B3) := fun i hi => by
          subst hB3
          have hi' : i < bs.length := by rw [List.length_take] at hi; omega
          have := HT2.out i hi'
          rw [List.getElem_take]
          exact this
        clear hB3
        have hc2 : (bs.length : Int) ≤ (c2 : Int) := by omega
        by_cases hr0 : r = 0
        rotate_left
        obtain ⟨hfu, hfl⟩ := HF7.out W6 (Below.refl _ _)
        have hrb : (r != 0) = true := by rw [bne_iff_ne]; exact hr0
        focus go_wp2_with fail
        have hsb6 := strsAt_but (G := fun _ => False) HSB.out (But.of_below (HB3.out.trans (HB36.out.mono HB3.out.size))) (fun _ _ _ h => h)
        have HAL := Lib.hid (alike_any Ab Aa cb ca ps qs W6 hsb6 HSA.out HPL.out)
        clear hsb6 hfu hfl
        have hde : decide (ps = qs) = true := by rw [decide_eq_true_eq]; exact HPQ.out hr0
        rw [hde] at HAL
        refine HAL.out.mono ?_
        rintro e W7 ⟨rfl, b7⟩
        have HB67 := Lib.hid b7
        clear b7 HAL hde
        obtain ⟨hfu, hfl⟩ := HF7.out W7 HB67.out
        focus go_wp2_with fail
        rotate_left
        subst hr0
        obtain ⟨W7, HB67, hW7⟩ : ∃ x, Hid (Below W6.heap.size W6 x) ∧ W6 = x := ⟨_, Lib.hid (Below.refl _ _), rfl⟩
        obtain ⟨hfu, hfl⟩ := HF7.out W7 HB67.out
        rw [hW7]
        clear hW7
        focus go_wp2_with fail
        all_goals
          clear hfu hfl
          have hb27 := (HB3.out.trans (HB36.out.mono HB3.out.size)).trans (HB67.out.mono (Nat.le_trans HB3.out.size HB36.out.size))
          have hb37 := HB36.out.trans (HB67.out.mono HB36.out.size)
          have hbr7 := HB26.out.trans (HB67.out.mono HB26.out.size)
          have hb17 := HB.out.trans (hbr7.mono HB.out.size)
          have hbw7 := HBW.out.trans (hb17.mono HBW.out.size)
          obtain ⟨G, hg1, hg2, hg3, hg4⟩ : ∃ G : Nat → Prop, (∀ k, own1 k → G k) ∧ (∀ k, W7.heap.size ≤ k → G k) ∧ (∀ k, G k → W1.heap.size ≤ k) ∧ (∀ k, wr.heap.size ≤ k → k < W7.heap.size → ¬ G k) := ⟨fun k => own1 k ∨ W7.heap.size ≤ k, fun k h => .inl h, fun k h => .inr h, fun k h => h.elim (HO1.out k) (fun h => Nat.le_trans hb17.size h), fun k h1 h2 h => h.elim (fun h => absurd (HOL.out k h) (by omega)) (fun h => by omega)⟩
          have sb7 : StrsAt W7 Ab ps := strsAt_but (G := fun _ => False) HSB.out (But.of_below hb27) (fun _ _ _ h => h)
          have sa7 : StrsAt W7 Aa qs := strsAt_but (G := fun _ => False) HSA.out (But.of_below HB67.out) (fun _ _ _ h => h)
          have ws7 : WsAt W7 Aw L := HWS.out.below hb37 (Nat.le_refl _)
          have nb : ∀ b o, Ab = some ⟨b, o, none⟩ → ¬ G b := fun b o h => by
            obtain ⟨g, hx, h1, h2⟩ := HBB.out _ h
            cases hx
            exact hg4 _ h1 (Nat.lt_of_lt_of_le h2 hb27.size)
          have na : ∀ b o, Aa = some ⟨b, o, none⟩ → ¬ G b := fun b o h => by
            obtain ⟨g, hx, h1, h2⟩ := HAA.out _ h
            cases hx
            exact hg4 _ (Nat.le_trans HB25.out.size h1) (Nat.lt_of_lt_of_le h2 HB67.out.size)
          have nw : ∀ b o, Aw = some ⟨b, o, none⟩ → ¬ G b := fun b o h => by
            obtain ⟨h1, h2⟩ := HWB.out _ _ h
            exact hg4 _ (Nat.le_trans HB2.out.size h1) (Nat.lt_of_lt_of_le h2 hb37.size)
          have hlo : ∀ b o, A2 = some ⟨b, o, none⟩ → 0 < B3.length → b < w.heap.size := fun b o h h0 => by
            obtain ⟨b', o', h1, h2, _⟩ := HT3.out 0 h0
            rw [h] at h1
            cases h1
            exact h2
          have HNB : Hid (∀ b o, A2 = some ⟨b, o, none⟩ → 0 < B3.length → ¬ G b) := fun b o h h0 hG => by
            have h1 := hlo b o h h0
            have h2 := hg3 b hG
            have h3 := HBW.out.size
            omega
          have HRS : Hid (∀ W, But G W7 W → CTab W ∧ WsAt W Aw L ∧ StrsAt W Ab ps ∧ StrsAt W Aa qs ∧ BoolsAt W A2 B3 ∧ (∀ k, W.heap.size ≤ k → G k) ∧ Below w.heap.size w W) := by
            intro W hW
            have hbw : Below w.heap.size w W := hbw7.trans (hW.below (fun i h => Nat.le_trans HBW.out.size (hg3 i h)) hbw7.size)
            exact ⟨HT.out.below hbw hg, wsAt_but ws7 hW nw, strsAt_but sb7 hW nb, strsAt_but sa7 hW na, bools_keep HT3.out hlo hbw, fun k h => hg2 k (Nat.le_trans hW.size h), hbw⟩
          have HFU : Hid (∀ W, But G W7 W → W.cell? ⟨w0.heap.size, 1, none⟩ = some (.int .u8 f1) ∧ w0.heap.size < W.heap.size) := by
            intro W hW
            have hb := hb17.trans (hW.below hg3 hb17.size)
            have hlt := HK6.out.lt
            exact ⟨(HK6.out.of_block (hb.block _ hlt)).cell 1, Nat.lt_of_lt_of_le hlt hb.size⟩
          have hig : InG 400 W7 G p d := ⟨own1, HD1.out.below hbr7, hg1⟩
          have HIG := Lib.hid hig
          clear hig hb27 hb37 hbr7 hb17 hbw7 sb7 sa7 ws7 nb na nw hlo hg1 hg3 hg4
          have harm := arm_g HIG.out hg2 f0 (by omega) _ rfl
          clear hg2
          refine harm.mono ?_
          rintro e W8 ⟨rfl, hi8, bt8⟩
          have HI8 := Lib.hid hi8
          have HT8 := Lib.hid bt8
          clear hi8 bt8 harm
          go_wp2_with fail
          rcases all_pure HJ.out L f0 f1 hf0.1 hf1.1 B3 with ⟨d2, c1, c2, c3⟩ | ⟨c0, d2, kq, c1, c2, c3, c4⟩
          · rw [HR.out] at c1
            rw [HQS.out] at c3
            refine (commit_g HHW.out HHR.out HI8.out (HRS.out W8 HT8.out).2.2.2.2.2.1 (by rw [(HJ.out.arm f0).n]; decide) Aw cw _ L rfl (HRS.out W8 HT8.out).2.1 (by have := HL70.out; omega) (HRS.out W8 HT8.out).1 (by rw [(HJ.out.arm f0).more]; decide) _ d2 c1).mono ?_
            have C2 := Lib.hid c2
            have C3 := Lib.hid c3
            clear c1 c2 c3
            rintro e W9 ⟨rfl, hi9, bt9⟩
            have HI9 := Lib.hid hi9
            have HT9 := Lib.hid (HT8.out.trans bt9 (fun i h => .inl h))
            clear hi9 bt9
            go_wp2_with fail
            refine (on_g HI9.out true C2.out).mono ?_
            rintro e W9' ⟨rfl, rfl⟩
            go_wp2_with fail
            refine (kept_g HI9.out C2.out qs C3.out).mono ?_
            rintro e W10 ⟨v, rfl, ho, b10⟩
            obtain ⟨Ad, cd, rfl, _, _, hsd, _, _⟩ := ho.view
            have HSD := Lib.hid hsd
            have HT10 := Lib.hid (HT9.out.trans (S' := G) (But.of_below b10) (fun i h => .inl h))
            clear ho hsd b10
            go_wp2_with fail
            have hal := alike_any Ad Aa cd ca qs qs W10 HSD.out (HRS.out W10 HT10.out).2.2.2.1 HQL.out
            rw [decide_eq_true rfl] at hal
            refine hal.mono ?_
            rintro e W11 ⟨rfl, b11⟩
            have HT11 := Lib.hid (HT10.out.trans (S' := G) (But.of_below b11) (fun i h => .inl h))
            clear hal b11
            go_wp2_with fail
            refine (works_any HHW.out HHR.out W11 (HRS.out W11 HT11.out).1).mono ?_
            rintro e W12 ⟨rfl, b12⟩
            have HBE := Lib.hid (below_step (HRS.out W11 HT11.out).2.2.2.2.2.2 b12)
            clear b12
            go_wp2_with fail
            go_ret
            exact ⟨rfl, HBE.out⟩
          · rw [HPS.out, HQS.out] at c3
            refine (commit_g HHW.out HHR.out HI8.out (HRS.out W8 HT8.out).2.2.2.2.2.1 (by rw [(HJ.out.arm f0).n]; decide) Aw cw _ L rfl (HRS.out W8 HT8.out).2.1 (by have := HL70.out; omega) (HRS.out W8 HT8.out).1 (by rw [(HJ.out.arm f0).more]; decide) _ d2 c1).mono ?_
            have C2 := Lib.hid c2
            have C3 := Lib.hid c3
            have C4 := Lib.hid c4
            clear c0 c1 c2 c3 c4
            rintro e W9 ⟨rfl, hi9, bt9⟩
            have HI9 := Lib.hid hi9
            have HT9 := Lib.hid (HT8.out.trans bt9 (fun i h => .inl h))
            clear hi9 bt9
            go_wp2_with fail
            refine (on_g HI9.out false C2.out).mono ?_
            rintro e W9' ⟨rfl, rfl⟩
            go_wp2_with fail
            refine (wake_g HI9.out (HRS.out W9 HT9.out).2.2.2.2.2.1 (by decide) A2 _ c2 B3 HN3.out (HRS.out W9 HT9.out).2.2.2.2.1 HNB.out _ rfl).mono ?_
            rintro e W10 ⟨rfl, hi10, bt10⟩
            have HI10 := Lib.hid hi10
            have HT10 := Lib.hid (HT9.out.trans bt10 (fun i h => .inl h))
            clear hi10 bt10
            obtain ⟨hfu, hfl⟩ := HFU.out W10 HT10.out
            go_wp2_with fail
            clear hfu hfl
            refine (arm_g HI10.out (HRS.out W10 HT10.out).2.2.2.2.2.1 f1 (by omega) _ rfl).mono ?_
            rintro e W11 ⟨rfl, hi11, bt11⟩
            have HI11 := Lib.hid hi11
            have HT11 := Lib.hid (HT10.out.trans bt11 (fun i h => .inl h))
            clear hi11 bt11
            go_wp2_with fail
            obtain ⟨⟨cn, cm⟩, c4⟩ := C4.out
            rcases c4 with ⟨dz, r1, ron, rk⟩ | ⟨d5, dz, r1, r2, ⟨r3, r4⟩, r5, rk, ron⟩
            refine (recover_g HHR.out HI11.out (HRS.out W11 HT11.out).2.2.2.2.2.1 (by rw [cn]; decide) (HRS.out W11 HT11.out).1 (by rw [cm]; decide) 0 dz r1).mono ?_
            have RON := Lib.hid ron
            have RK := Lib.hid rk
            clear cn cm r1 ron rk
            rintro e W14 ⟨rfl, hi14, bt14⟩
            have HI14 := Lib.hid hi14
            have HT14 := Lib.hid (HT11.out.trans bt14 (fun i h => .inl h))
            clear hi14 bt14
            focus go_wp2_with fail
            refine (on_g HI14.out true RON.out).mono ?_
            rintro e W14' ⟨rfl, rfl⟩
            focus go_wp2_with fail
            rotate_left
            refine (recover_g HHR.out HI11.out (HRS.out W11 HT11.out).2.2.2.2.2.1 (by rw [cn]; decide) (HRS.out W11 HT11.out).1 (by rw [cm]; decide) 6 d5 r1).mono ?_
            have RON := Lib.hid ron
            have RK := Lib.hid rk
            have R2 := Lib.hid r2
            have R3 := Lib.hid r3
            have R4 := Lib.hid r4
            have R5 := Lib.hid r5
            clear cn cm r1 ron rk r2 r3 r4 r5
            rintro e W12 ⟨rfl, hi12, bt12⟩
            have HI12 := Lib.hid hi12
            have HT12 := Lib.hid (HT11.out.trans bt12 (fun i h => .inl h))
            clear hi12 bt12
            focus go_wp2_with fail
            refine (on_g HI12.out false R2.out).mono ?_
            rintro e W12' ⟨rfl, rfl⟩
            focus go_wp2_with fail
            refine (wake_g HI12.out (HRS.out W12 HT12.out).2.2.2.2.2.1 (by decide) A2 _ c2 B3 HN3.out (HRS.out W12 HT12.out).2.2.2.2.1 HNB.out _ rfl).mono ?_
            rintro e W13 ⟨rfl, hi13, bt13⟩
            have HI13 := Lib.hid hi13
            have HT13 := Lib.hid (HT12.out.trans bt13 (fun i h => .inl h))
            clear hi13 bt13
            focus go_wp2_with fail
            refine (recover_g HHR.out HI13.out (HRS.out W13 HT13.out).2.2.2.2.2.1 (by rw [R3.out]; decide) (HRS.out W13 HT13.out).1 (by rw [R4.out]; decide) 0 dz R5.out).mono ?_
            rintro e W14 ⟨rfl, hi14, bt14⟩
            have HI14 := Lib.hid hi14
            have HT14 := Lib.hid (HT13.out.trans bt14 (fun i h => .inl h))
            clear hi14 bt14
            focus go_wp2_with fail
            all_goals
              refine (kept_g HI14.out RON.out kq RK.out).mono ?_
              rintro e W15 ⟨v, rfl, ho, b15⟩
              obtain ⟨Ad, cd, rfl, _, _, hsd, _, _⟩ := ho.view
              have HSD := Lib.hid hsd
              have HT15 := Lib.hid (HT14.out.trans (S' := G) (But.of_below b15) (fun i h => .inl h))
              clear ho hsd b15
              go_wp2_with fail
              rcases C3.out with e3 | e3
              · subst e3
                have hal := alike_any Ad Ab cd cb _ _ W15 HSD.out (HRS.out W15 HT15.out).2.2.1 HPL.out
                rw [decide_eq_true rfl] at hal
                refine hal.mono ?_
                rintro e W16 ⟨rfl, b16⟩
                have HT16 := Lib.hid (HT15.out.trans (S' := G) (But.of_below b16) (fun i h => .inl h))
                clear hal b16
                go_wp2_with fail
                refine (works_any HHW.out HHR.out W16 (HRS.out W16 HT16.out).1).mono ?_
                rintro e W17 ⟨rfl, b17⟩
                have HBE := Lib.hid (below_step (HRS.out W16 HT16.out).2.2.2.2.2.2 b17)
                clear b17
                go_wp2_with fail
                go_ret
                exact ⟨rfl, HBE.out⟩
              · subst e3
                have hal := alike_any Ad Ab cd cb _ _ W15 HSD.out (HRS.out W15 HT15.out).2.2.1 HQL.out
                refine hal.mono ?_
                rintro e W16 ⟨he, b16⟩
                have B1516 := Lib.hid b16
                have HT16 := Lib.hid (HT15.out.trans (S' := G) (But.of_below b16) (fun i h => .inl h))
                clear hal b16
                cases hdq : decide (kq = ps) with
                | true =>
                  rw [hdq] at he
                  subst he
                  clear hdq
                  go_wp2_with fail
                  refine (works_any HHW.out HHR.out W16 (HRS.out W16 HT16.out).1).mono ?_
                  rintro e W17 ⟨rfl, b17⟩
                  have HBE := Lib.hid (below_step (HRS.out W16 HT16.out).2.2.2.2.2.2 b17)
                  clear b17
                  go_wp2_with fail
                  go_ret
                  exact ⟨rfl, HBE.out⟩
                | false =>
                  rw [hdq] at he
                  subst he
                  clear hdq
                  go_wp2_with fail
                  have hal := alike_any Ad Aa cd ca _ _ W16 (strsAt_but (G := fun _ => False) HSD.out (But.of_below B1516.out) (fun _ _ _ h => h)) (HRS.out W16 HT16.out).2.2.2.1 HQL.out
                  rw [decide_eq_true rfl] at hal
                  refine hal.mono ?_
                  rintro e W17 ⟨rfl, b17⟩
                  have HT17 := Lib.hid (HT16.out.trans (S' := G) (But.of_below b17) (fun i h => .inl h))
                  clear hal b17
                  go_wp2_with fail
                  refine (works_any HHW.out HHR.out W17 (HRS.out W17 HT17.out).1).mono ?_
                  rintro e W18 ⟨rfl, b18⟩
                  have HBE := Lib.hid (below_step (HRS.out W17 HT17.out).2.2.2.2.2.2 b18)
                  clear b18
                  go_wp2_with fail
                  go_ret
                  exact ⟨rfl, HBE.out⟩
end Go.Proofs.YtjllpbckmioiiaaDoor.jr

