/- StWorks, WiRefP, WiRef, CRSum, CRef, StREnc, StSld, WiRefR, WiRefT0, AppAt, StShort, StKnP. -/
import Derived.Test.YtdpbdkacngaemaaDoorQ0
import Derived.Test.YtdpbdkacngaemaaDoorQ1
import Derived.Test.YtdpbdkacngaemaaDoorQ2
import Derived.Test.YtdpbdkacngaemaaDoorQ4
import Derived.Test.YtdpbdkacngaemaaDoorQ6
import Derived.Test.YtdpbdkacngaemaaDoorQ7
import Derived.Test.YtdpbdkacngaemaaDoorQ8
import Derived.Test.YtdpbdkacngaemaaDoorQ9
import Derived.Laws.AppendOwnNone
import Derived.BigQuiet
import Derived.Deep.QuietTactic
import Derived.Lib.QuietBelow
import Derived.Deep.DeepCutAuto
import Derived.LoopTactic
import Derived.Maps.AppendAt
import Derived.Tactics
set_option linter.unusedVariables false
set_option linter.unusedSimpArgs false
/- Two parts that are made, laid and read. -/
namespace Go.Proofs.YtdpbdkacngaemaaDoor.st
open Go Go.RowKit Go.Proofs.YtdpbdkacngaemaaDoor.ib Go.Proofs.YtdpbdkacngaemaaDoor.wi Go.Proofs.YtdpbdkacngaemaaDoor.mt
open Go.Proofs.YtdpbdkacngaemaaDoor.ch (ChL OChs chVals infoCh)
set_option maxRecDepth 100000

def m3 : List Mk := [⟨0, 97, false⟩, ⟨3, 98, false⟩, ⟨7, 99, false⟩]
def c3 : List Ch := mdOf m3
def P0 : Pa := ⟨(1, 1), (1, 2), 0, 3, c3.take 2⟩
def P2 : Pa := ⟨(1, 1), (1, 2), 2, 3, c3.drop 2⟩
theorem cut0 : pCut (1, 1) (1, 2) c3 0 = (P0, 0) := by kernel_rfl
theorem cut2 : pCut (1, 1) (1, 2) c3 2 = (P2, 0) := by kernel_rfl
theorem chk0 : pCheck P0 = 0 := by kernel_rfl
theorem chk2 : pCheck P2 = 0 := by kernel_rfl
theorem sguid_any (e c : Nat) (w : World) : Calls Tryd.prog 5 #[.int .u64 (e : Int), .int .u64 (c : Int)] w fun x w' => x = .returned (gv (e, c)) ∧ Below w.heap.size w w' := by
  go_enter Tryd.func5, Tryd.ntmps5
  go_wp2_with fail
  have q0 : (w.alloc (.cells #[.int .u64 (e : Int), .int .u64 (c : Int)] 24)).cell? ⟨w.heap.size, 0, none⟩ = some (.int .u64 (e : Int)) := (Blk.new w _ _).cell 0
  have q1 : (w.alloc (.cells #[.int .u64 (e : Int), .int .u64 (c : Int)] 24)).cell? ⟨w.heap.size, 1, none⟩ = some (.int .u64 (c : Int)) := (Blk.new w _ _).cell 1
  refine bodyPost_ret (v := gv (e, c)) (by simp [results, Tryd.results5, go_sem, q0, q1, gv]) rfl ?_
  exact ⟨rfl, (Below.refl w.heap.size w).alloc (Nat.le_refl _) _⟩
/-- A row that a call owns, as its cells lie. -/
theorem ochs_cut {w : World} {B : Nat} {v : Value} {l : List Ch} (h : OChs w B v l) (hz : ∀ x ∈ l, b64 x.1) : ∃ A cp, v = .slice A l.length cp ∧ ChL w A l ∧ l.length ≤ cp ∧ ((A = none ∧ cp = 0) ∨ ∃ b o, A = some ⟨b, o, none⟩) ∧ ∀ b o, A = some ⟨b, o, none⟩ → B ≤ b ∧ b < w.heap.size := by
  obtain ⟨a, c, rfl, h1, h2⟩ := ochs_chl h hz
  rcases h.2 with ⟨e1, e2⟩ | ⟨g, cap, cur, e1, e2, e3, e4, e5⟩
  · simp only [Value.slice.injEq] at e1
    obtain ⟨rfl, e3, rfl⟩ := e1
    exact ⟨none, 0, rfl, h1, by omega, .inl ⟨rfl, rfl⟩, h2⟩
  · simp only [Value.slice.injEq] at e1
    obtain ⟨rfl, e3, rfl⟩ := e1
    exact ⟨_, _, rfl, h1, e4, .inr ⟨g, 0, rfl⟩, h2⟩
theorem m3_b : ∀ m ∈ m3, b64 m.b := by
  intro m hm
  simp only [m3, List.mem_cons, List.not_mem_nil, or_false] at hm
  rcases hm with rfl | rfl | rfl
  · exact ⟨by decide, by decide⟩
  · exact ⟨by decide, by decide⟩
  · exact ⟨by decide, by decide⟩
theorem c3_b : ∀ x ∈ c3, b64 x.1 := fun x hx => by
  unfold c3 mdOf at hx
  obtain ⟨m, hm, rfl⟩ := List.mem_map.1 hx
  exact m3_b m (List.mem_of_mem_take hm)
theorem three_any (w : World) : Calls Tryd.prog 8 #[] w (endO c3 w) := by
  have hc := Blk.new w 36 #[.int .i64 0, .int .u8 97, .bool false, .int .i64 3, .int .u8 98, .bool false, .int .i64 7, .int .u8 99, .bool false]
  have hb := (Below.refl w.heap.size w).alloc (Nat.le_refl _) (.cells #[.int .i64 0, .int .u8 97, .bool false, .int .i64 3, .int .u8 98, .bool false, .int .i64 7, .int .u8 99, .bool false] 36)
  obtain ⟨W, hW⟩ : ∃ z, w.alloc (.cells #[.int .i64 0, .int .u8 97, .bool false, .int .i64 3, .int .u8 98, .bool false, .int .i64 7, .int .u8 99, .bool false] 36) = z := ⟨_, rfl⟩
  rw [hW] at hc hb
  have hm : MkL W (some ⟨w.heap.size, 0, none⟩) m3 := by
    intro i hi
    have hi3 : i < 3 := hi
    refine ⟨w.heap.size, 0, rfl, hc.lt, ?_, ?_, ?_, ?_⟩
    · rw [hc.cell]
      match i, hi3 with
      | 0, _ => rfl
      | 1, _ => rfl
      | 2, _ => rfl
    · rw [hc.cell]
      match i, hi3 with
      | 0, _ => rfl
      | 1, _ => rfl
      | 2, _ => rfl
    · rw [hc.cell]
      match i, hi3 with
      | 0, _ => rfl
      | 1, _ => rfl
      | 2, _ => rfl
    · exact m3_b _ (List.getElem_mem hi)
  have HM := Lib.hid (made_any (some ⟨w.heap.size, 0, none⟩) 3 m3 W hm (by decide))
  have HB := Lib.hid hb
  clear hm hb hc
  go_enter Tryd.func8, Tryd.ntmps8
  go_wp2_with fail
  try rw [hW]
  clear hW
  refine HM.out.mono ?_
  rintro e W2 ⟨v, rfl, h1, h2⟩
  have H1 := Lib.hid h1
  have H2 := Lib.hid h2
  clear h1 h2
  go_wp2_with fail
  go_ret
  exact ⟨v, rfl, Go.Proofs.YtdpbdkacngaemaaDoor.ib.row_base H1.out HB.out.size, below_step HB.out H2.out⟩
theorem c3_d : ∀ x ∈ c3, x.2.length ≤ 1000000 := fun x hx => by
  have := mdOf_len32 m3 x hx
  omega
set_option maxHeartbeats 6400000 in
theorem works_any (w : World) (ht : CTab w) : Calls Tryd.prog 27 #[] w fun e w' => e = .returned (.bool true) ∧ Below w.heap.size w w' := by
  have HT := Lib.hid ht
  clear ht
  go_enter Tryd.func27, Tryd.ntmps27
  go_wp2_with fail
  refine (sguid_any 1 1 _).mono ?_
  rintro e W1 ⟨rfl, c1⟩
  have HB1 := Lib.hid c1
  clear c1
  go_wp2_with fail
  refine (sguid_any 1 2 _).mono ?_
  rintro e W2 ⟨rfl, c2⟩
  have HB2 := Lib.hid (below_step HB1.out c2)
  clear c2 HB1
  go_wp2_with fail
  refine (three_any _).mono ?_
  rintro e W3 ⟨v, rfl, h1, c3'⟩
  have HB3 := Lib.hid (below_step HB2.out c3')
  obtain ⟨A, cp, rfl, k1, k2, k3, k4⟩ := ochs_cut h1 c3_b
  have HC := Lib.hid (cut_any (1, 1) (1, 2) A cp c3 0 W3 ⟨by decide, by decide⟩ ⟨by decide, by decide⟩ k1 (by decide) k2 k3 c3_d ⟨by decide, by decide⟩)
  rw [cut0] at HC
  clear h1 c3' k1 k2 k3 k4 HB2
  go_wp2_with fail
  refine HC.out.mono ?_
  rintro e W4 ⟨A1, d1, rfl, hq5, _, cq⟩
  have HBc := Lib.hid (below_step HB3.out cq)
  have hlit : paC P0 A1 d1 = #[.int .u64 1, .int .u64 1, .int .u64 1, .int .u64 2, .int .i64 0, .int .i64 3, .slice A1 2 d1] := rfl
  rw [hlit]
  have cb := (Below.refl W4.heap.size W4).alloc (Nat.le_refl _) (.cells #[.int .u64 1, .int .u64 1, .int .u64 1, .int .u64 2, .int .i64 0, .int .i64 3, .slice A1 2 d1] 27)
  have kb := Blk.new W4 27 #[.int .u64 1, .int .u64 1, .int .u64 1, .int .u64 2, .int .i64 0, .int .i64 3, .slice A1 2 d1]
  obtain ⟨W5, hWn⟩ : ∃ z, W4.alloc (.cells #[.int .u64 1, .int .u64 1, .int .u64 1, .int .u64 2, .int .i64 0, .int .i64 3, .slice A1 2 d1] 27) = z := ⟨_, rfl⟩
  rw [hWn] at cb kb
  obtain ⟨g1, hg⟩ : ∃ z, W4.heap.size = z := ⟨_, rfl⟩
  have HWn := Lib.hid hWn
  have HGn := Lib.hid hg
  have HB5 := Lib.hid (below_step HBc.out cb)
  have HQ5 := Lib.hid (hq5.below cb)
  rw [hg] at kb
  have HK5 := Lib.hid kb
  clear hlit cq cb kb hWn hg hq5 HBc HC HB3
  go_upto_region 2 with fail
  try rw [HWn.out]
  try rw [HGn.out]
  clear HWn HGn
  go_wp2_with fail
  refine (sguid_any 1 1 _).mono ?_
  rintro e W6 ⟨rfl, c6⟩
  have HB6 := Lib.hid (below_step HB5.out c6)
  have HQ6 := Lib.hid (HQ5.out.below c6)
  have HK6 := Lib.hid (HK5.out.below c6)
  clear c6 HB5 HQ5 HK5
  go_wp2_with fail
  refine (sguid_any 1 2 _).mono ?_
  rintro e W7 ⟨rfl, c7⟩
  have HB7 := Lib.hid (below_step HB6.out c7)
  have HQ7 := Lib.hid (HQ6.out.below c7)
  have HK7 := Lib.hid (HK6.out.below c7)
  clear c7 HB6 HQ6 HK6
  go_wp2_with fail
  refine (three_any _).mono ?_
  rintro e W8 ⟨v, rfl, h1, c8⟩
  have HB8 := Lib.hid (below_step HB7.out c8)
  have HQ8 := Lib.hid (HQ7.out.below c8)
  have HK8 := Lib.hid (HK7.out.below c8)
  obtain ⟨A', cp', rfl, k1, k2, k3, k4⟩ := ochs_cut h1 c3_b
  have HC := Lib.hid (cut_any (1, 1) (1, 2) A' cp' c3 2 W8 ⟨by decide, by decide⟩ ⟨by decide, by decide⟩ k1 (by decide) k2 k3 c3_d ⟨by decide, by decide⟩)
  rw [cut2] at HC
  clear h1 c8 k1 k2 k3 k4 HB7 HQ7 HK7
  go_wp2_with fail
  refine HC.out.mono ?_
  rintro e W9 ⟨A2, d2, rfl, hq10, _, cq⟩
  have HBc := Lib.hid (below_step HB8.out cq)
  have HQ8' := Lib.hid (HQ8.out.below cq)
  have HK8' := Lib.hid (HK8.out.below cq)
  have hlit : paC P2 A2 d2 = #[.int .u64 1, .int .u64 1, .int .u64 1, .int .u64 2, .int .i64 2, .int .i64 3, .slice A2 1 d2] := rfl
  rw [hlit]
  have cb := (Below.refl W9.heap.size W9).alloc (Nat.le_refl _) (.cells #[.int .u64 1, .int .u64 1, .int .u64 1, .int .u64 2, .int .i64 2, .int .i64 3, .slice A2 1 d2] 27)
  have kb := Blk.new W9 27 #[.int .u64 1, .int .u64 1, .int .u64 1, .int .u64 2, .int .i64 2, .int .i64 3, .slice A2 1 d2]
  obtain ⟨W10, hWn⟩ : ∃ z, W9.alloc (.cells #[.int .u64 1, .int .u64 1, .int .u64 1, .int .u64 2, .int .i64 2, .int .i64 3, .slice A2 1 d2] 27) = z := ⟨_, rfl⟩
  rw [hWn] at cb kb
  obtain ⟨g2, hg⟩ : ∃ z, W9.heap.size = z := ⟨_, rfl⟩
  have HWn := Lib.hid hWn
  have HGn := Lib.hid hg
  have HB10 := Lib.hid (below_step HBc.out cb)
  have HQ10 := Lib.hid (hq10.below cb)
  have HQ8_ := Lib.hid (HQ8'.out.below cb)
  clear HQ8 HQ8'
  have HK8_ := Lib.hid (HK8'.out.below cb)
  clear HK8 HK8'
  rw [hg] at kb
  have HK10 := Lib.hid kb
  clear hlit cq cb kb hWn hg hq10 HBc HC HB8
  go_upto_region 3 with fail
  try rw [HWn.out]
  try rw [HGn.out]
  clear HWn HGn
  have HT10 := Lib.hid (HT.out.below HB10.out HT.out.1)
  have HEN := Lib.hid (enc_any A2 d2 P2 W10 HQ10.out (by decide) HT10.out)
  rw [enc_of chk2, show paC P2 A2 d2 = #[.int .u64 1, .int .u64 1, .int .u64 1, .int .u64 2, .int .i64 2, .int .i64 3, .slice A2 1 d2] from rfl] at HEN
  have hk := HK10.out
  have m0 := hk.cell 0
  have m1 := hk.cell 1
  have m2 := hk.cell 2
  have m3 := hk.cell 3
  have m4 := hk.cell 4
  have m5 := hk.cell 5
  have m6 := hk.cell 6
  have ml := hk.lt
  simp only [List.getElem?_toArray, List.getElem?_cons_zero, List.getElem?_cons_succ] at m0 m1 m2 m3 m4 m5 m6
  clear hk
  go_wp2_with fail
  refine HEN.out.mono ?_
  rintro e W11 ⟨rfl, c11⟩
  have HB11 := Lib.hid (below_step HB10.out c11)
  have HT11 := Lib.hid (HT.out.below HB11.out HT.out.1)
  have HQa := Lib.hid (HQ8_.out.below c11)
  have HKa := Lib.hid (HK8_.out.below c11)
  have HQb := Lib.hid (HQ10.out.below c11)
  have HKb := Lib.hid (HK10.out.below c11)
  clear c11 HB10 HT10 HEN HQ8_ HK8_ HQ10 HK10 m0 m1 m2 m3 m4 m5 m6 ml
  have hsz : (str (sealB (pBytes P2))).size ≤ 100000 := by
    rw [str_size, sealB_length]
    have : (pBytes P2).length ≤ 1000 := by decide
    omega
  have HDE := Lib.hid (dec_any (str (sealB (pBytes P2))) W11 hsz HT11.out)
  rw [bl_str, dec_enc (p := P2) ⟨by decide, by decide⟩ ⟨by decide, by decide⟩ chk2] at HDE
  dsimp only
  obtain ⟨S, hS⟩ : ∃ z, str (sealB (pBytes P2)) = z := ⟨_, rfl⟩
  rw [hS] at HDE ⊢
  clear hsz hS
  go_wp2_with fail
  refine HDE.out.mono ?_
  rintro e W12 ⟨A3, d3, rfl, hq12, _, c12⟩
  have HB12 := Lib.hid (below_step HB11.out c12)
  have HQa2 := Lib.hid (HQa.out.below c12)
  have HKa2 := Lib.hid (HKa.out.below c12)
  have HQb2 := Lib.hid (HQb.out.below c12)
  have HKb2 := Lib.hid (HKb.out.below c12)
  rw [show paC P2 A3 d3 = #[.int .u64 1, .int .u64 1, .int .u64 1, .int .u64 2, .int .i64 2, .int .i64 3, .slice A3 1 d3] from rfl]
  have cb := (Below.refl W12.heap.size W12).alloc (Nat.le_refl _) (.cells #[.int .u64 1, .int .u64 1, .int .u64 1, .int .u64 2, .int .i64 2, .int .i64 3, .slice A3 1 d3] 27)
  have kb := Blk.new W12 27 #[.int .u64 1, .int .u64 1, .int .u64 1, .int .u64 2, .int .i64 2, .int .i64 3, .slice A3 1 d3]
  obtain ⟨W13, hWn⟩ : ∃ z, W12.alloc (.cells #[.int .u64 1, .int .u64 1, .int .u64 1, .int .u64 2, .int .i64 2, .int .i64 3, .slice A3 1 d3] 27) = z := ⟨_, rfl⟩
  rw [hWn] at cb kb
  obtain ⟨g3, hg⟩ : ∃ z, W12.heap.size = z := ⟨_, rfl⟩
  have HWn := Lib.hid hWn
  have HGn := Lib.hid hg
  have HB13 := Lib.hid (below_step HB12.out cb)
  have HQa3 := Lib.hid (HQa2.out.below cb)
  have HKa3 := Lib.hid (HKa2.out.below cb)
  have HQb3 := Lib.hid (HQb2.out.below cb)
  have HKb3 := Lib.hid (HKb2.out.below cb)
  have HQc3 := Lib.hid (hq12.below cb)
  rw [hg] at kb
  have HKc3 := Lib.hid kb
  clear c12 cb kb hWn hg hq12 HDE HB11 HT11 HB12 HQa HKa HQb HKb HQa2 HKa2 HQb2 HKb2
  go_upto_region 5 with fail
  try rw [HWn.out]
  try rw [HGn.out]
  clear HWn HGn
  have ah := HKa3.out
  have a0 := ah.cell 0
  have a1 := ah.cell 1
  have a2 := ah.cell 2
  have a3 := ah.cell 3
  have a4 := ah.cell 4
  have a5 := ah.cell 5
  have a6 := ah.cell 6
  have al := ah.lt
  have bh := HKb3.out
  have b0 := bh.cell 0
  have b1 := bh.cell 1
  have b2 := bh.cell 2
  have b3 := bh.cell 3
  have b4 := bh.cell 4
  have b5 := bh.cell 5
  have b6 := bh.cell 6
  have bl := bh.lt
  have ch := HKc3.out
  have c0 := ch.cell 0
  have c1 := ch.cell 1
  have c2 := ch.cell 2
  have c3 := ch.cell 3
  have c4 := ch.cell 4
  have c5 := ch.cell 5
  have c6 := ch.cell 6
  have cl := ch.lt
  simp only [List.getElem?_toArray, List.getElem?_cons_zero, List.getElem?_cons_succ] at a0 a1 a2 a3 a4 a5 a6 b0 b1 b2 b3 b4 b5 b6 c0 c1 c2 c3 c4 c5 c6
  clear ah bh ch
  have HSA := Lib.hid (same_any A2 A3 d2 d3 P2 P2 W13 HQb3.out HQc3.out (by decide) (by decide))
  rw [show paC P2 A2 d2 = #[.int .u64 1, .int .u64 1, .int .u64 1, .int .u64 2, .int .i64 2, .int .i64 3, .slice A2 1 d2] from rfl, show paC P2 A3 d3 = #[.int .u64 1, .int .u64 1, .int .u64 1, .int .u64 2, .int .i64 2, .int .i64 3, .slice A3 1 d3] from rfl, decide_eq_true (rfl : P2 = P2)] at HSA
  go_wp2_with fail
  refine HSA.out.mono ?_
  rintro e W14 ⟨rfl, c14⟩
  have HB14 := Lib.hid (below_step HB13.out c14)
  have HQa4 := Lib.hid (HQa3.out.below c14)
  have ah := HKa3.out.below c14
  clear a0 a1 a2 a3 a4 a5 a6 b0 b1 b2 b3 b4 b5 b6 c0 c1 c2 c3 c4 c5 c6 al bl cl
  have a0 := ah.cell 0
  have a1 := ah.cell 1
  have a2 := ah.cell 2
  have a3 := ah.cell 3
  have a4 := ah.cell 4
  have a5 := ah.cell 5
  have a6 := ah.cell 6
  have al := ah.lt
  simp only [List.getElem?_toArray, List.getElem?_cons_zero, List.getElem?_cons_succ] at a0 a1 a2 a3 a4 a5 a6
  have HCK := Lib.hid (check_any A1 d1 P0 W14 HQa4.out (by decide))
  rw [show paC P0 A1 d1 = #[.int .u64 1, .int .u64 1, .int .u64 1, .int .u64 2, .int .i64 0, .int .i64 3, .slice A1 2 d1] from rfl, chk0] at HCK
  clear ah HSA HB13 HQa3 HKa3 HQb3 HKb3 HQc3 HKc3 c14
  go_wp2_with fail
  refine HCK.out.mono ?_
  rintro e W15 ⟨rfl, c15⟩
  have HB15 := Lib.hid (below_step HB14.out c15)
  clear c15 HCK a0 a1 a2 a3 a4 a5 a6 al
  go_wp2_with fail
  go_ret
  exact ⟨rfl, HB15.out⟩
end Go.Proofs.YtdpbdkacngaemaaDoor.st

/- What the document's own calls that lay numbers and texts as bytes do: PutNum and PutText of package stemmaref01. -/
namespace Go.Proofs.YtdpbdkacngaemaaDoor.wi
open Go.RowKit
set_option maxRecDepth 100000

def RefRel (n0 : Nat) (w : World) (n b : Value) (wr : World) : Prop :=
  ∃ (m : Nat) (L : List UInt8), n = .int .u64 (m : Int) ∧ m < 18446744073709551616 ∧ digs n0 = digs m ++ L ∧
    wr.ownsRow w.heap.size 5 1 b L.length (Lib.byteCells L) ∧ Below w.heap.size w wr

theorem conv_row (L : List UInt8) (v : Value) (B : Nat) (wr : World) (h : wr.ownsRow B 5 1 v L.length (Lib.byteCells L)) :
    (convert 60 9 v).run Tryd.prog wr = .ok (.string (str L)) wr := by
  rcases h.2 with ⟨rfl, hn⟩ | ⟨g, cap, cur, rfl, _⟩
  · have : L = [] := List.length_eq_zero_iff.1 hn
    subst this
    exact run_convert_bytes_nil (P := Tryd.prog) wr 60 5 Tryd.underlying60 Tryd.underlying5 0 0 9 Tryd.underlying9
  · refine run_convert_bytes_back (P := Tryd.prog) wr 60 9 5 ⟨g, 0, none⟩ cap L Tryd.underlying60 Tryd.underlying5 Tryd.underlying9 ?_
    intro j hj
    have := h.cellAt j (by omega)
    rw [addr_add, Nat.zero_add, this]
    simp [Lib.byteCells, List.getElem?_eq_getElem hj]

theorem add_str (a b : ByteArray) (h : a.size + b.size ≤ 9223372036854775807) (w : World) : (Op.stringOp .add a b).run Tryd.prog w = .ok (.string (str (bl a ++ bl b))) w := by
  rw [run_string_add_sum (P := Tryd.prog) w a b h]
  obtain ⟨⟨x⟩⟩ := a
  obtain ⟨⟨y⟩⟩ := b
  congr 2

theorem row_form {B : Nat} {wr : World} {v : Value} {L : List UInt8} (h : wr.ownsRow B 5 1 v L.length (Lib.byteCells L)) : ∃ a c, v = .slice a L.length c := by
  rcases h.2 with ⟨rfl, hn⟩ | ⟨g, cap, cur, rfl, _⟩
  · exact ⟨none, 0, by rw [hn]⟩
  · exact ⟨_, _, rfl⟩

end Go.Proofs.YtdpbdkacngaemaaDoor.wi

/- What the document's own PutText does. -/
namespace Go.Proofs.YtdpbdkacngaemaaDoor.wi
open Go.RowKit
set_option maxRecDepth 100000

end Go.Proofs.YtdpbdkacngaemaaDoor.wi

/- What the document's own sum does. -/
namespace Go.Proofs.YtdpbdkacngaemaaDoor
open Go.RowKit
set_option maxRecDepth 100000

theorem bsteps_succ (k n : Nat) : bsteps (k + 1) n = bstep (bsteps k n) := bsteps_add 1 k n

/-- In a round over the eight bits. -/
def RBitRel (s : ByteArray) (x k : Nat) (n j : Value) : Prop :=
  ∃ i : Nat, i ≤ 8 ∧ j = .int .i64 (i : Int) ∧ n = .int .u32 (bsteps i x : Int) ∧ k < s.size

/-- In a round over the bytes. -/
def RSumRel (s : ByteArray) (n i : Value) : Prop :=
  ∃ k : Nat, k ≤ s.size ∧ i = .int .i64 (k : Int) ∧ n = .int .u32 (crcF 4294967295 ((bl s).take k) : Int)

theorem and_one (m : Nat) (hm : m < 4294967296) : bits .and .u32 (m : Int) 1 = ((m % 2 : Nat) : Int) := by
  rw [show (1 : Int) = ((1 : Nat) : Int) from rfl, u32_and_nat _ _ hm (by omega), nat_mask1]

end Go.Proofs.YtdpbdkacngaemaaDoor

/- What the document's own seal does. -/
namespace Go.Proofs.YtdpbdkacngaemaaDoor
open Go.RowKit
set_option maxRecDepth 100000

end Go.Proofs.YtdpbdkacngaemaaDoor

/- A part's bytes: the document's Encode. -/
namespace Go.Proofs.YtdpbdkacngaemaaDoor.st
open Go Go.RowKit Go.Sort Go.Proofs.YtdpbdkacngaemaaDoor.ib Go.Proofs.YtdpbdkacngaemaaDoor.wi Go.Proofs.YtdpbdkacngaemaaDoor.mt
open Go.Proofs.YtdpbdkacngaemaaDoor.ch (ChL OChs chVals infoCh)
set_option maxRecDepth 100000

theorem rmixed : Tryd.prog.follows .mixedOrders = true := by kernel_rfl
def nums7 (p : Pa) : List Nat := [p.base.1, p.base.2, p.target.1, p.target.2, p.fr.toNat, p.all.toNat, p.chs.length]
def u64s (l : List Nat) : Array Value := (l.map fun (n : Nat) => Value.int .u64 (n : Int)).toArray
theorem u64s_at (l : List Nat) (k : Nat) (h : k < l.length) : (u64s l)[k]? = some (.int .u64 (l[k] : Int)) := by
  unfold u64s
  rw [List.getElem?_toArray, List.getElem?_map, List.getElem?_eq_getElem h]
  rfl
def numsB (l : List Nat) : List UInt8 := l.flatMap numB
theorem nums7_head (p : Pa) : numsB (nums7 p) = headB p := by
  unfold numsB nums7 headB gdBs intB
  simp
theorem numB9 (n : Nat) : (numB n).length ≤ 9 := by
  have := digs_len n
  simp [numB]
  omega
theorem numsB_len : ∀ l : List Nat, (numsB l).length ≤ 9 * l.length
  | [] => by simp [numsB]
  | n :: r => by
    have := numsB_len r
    have := numB9 n
    show (numB n ++ numsB r).length ≤ 9 * (r.length + 1)
    rw [List.length_append]
    omega
theorem numsB_snoc (l : List Nat) (k : Nat) (h : k < l.length) : numsB (l.take (k + 1)) = numsB (l.take k) ++ numB l[k] := by
  unfold numsB
  rw [List.take_succ_eq_append_getElem h, List.flatMap_append]
  simp
theorem chsB_snoc (l : List Ch) (k : Nat) (h : k < l.length) : chsB (l.take (k + 1)) = chsB (l.take k) ++ chB l[k] := by
  unfold chsB
  rw [List.take_succ_eq_append_getElem h, List.flatMap_append]
  simp
theorem chsB_len : ∀ l : List Ch, (∀ c ∈ l, c.2.length = 32) → (chsB l).length ≤ 50 * l.length
  | [], _ => by simp [chsB]
  | c :: r, h => by
    have := chsB_len r (fun x hx => h x (by simp [hx]))
    have h1 := numB9 c.1.toNat
    have h2 := numB9 c.2.length
    have h3 := h c (by simp)
    show (chB c ++ chsB r).length ≤ 50 * (r.length + 1)
    unfold chB intB textB
    simp only [List.length_append]
    omega
def R1 (w : World) (p : Pa) (gp g : Nat) (A : Option Addr) (cp : Nat) (s i : Value) (wr : World) : Prop :=
  ∃ k : Nat, k ≤ 7 ∧ s = .string (str (numsB ((nums7 p).take k))) ∧ i = .int .i64 (k : Int) ∧ Below w.heap.size w wr ∧ Blk wr gp 27 (paC p A cp) ∧ Blk wr g 22 (u64s (nums7 p))
def R2 (w : World) (p : Pa) (gp : Nat) (A : Option Addr) (cp : Nat) (s i : Value) (wr : World) : Prop :=
  ∃ k : Nat, k ≤ p.chs.length ∧ s = .string (str (headB p ++ chsB (p.chs.take k))) ∧ i = .int .i64 (k : Int) ∧ Below w.heap.size w wr ∧ Blk wr gp 27 (paC p A cp)

end Go.Proofs.YtdpbdkacngaemaaDoor.st

/- The statements' sealed: bytes without their last four, sealed anew. -/
namespace Go.Proofs.YtdpbdkacngaemaaDoor.st
open Go Go.RowKit Go.Sort Go.Proofs.YtdpbdkacngaemaaDoor.ib Go.Proofs.YtdpbdkacngaemaaDoor.wi Go.Proofs.YtdpbdkacngaemaaDoor.mt
set_option maxRecDepth 100000

theorem ex_upto (s : ByteArray) (n : Nat) : s.extract 0 n = str ((bl s).take n) := by rw [← bl_upto, str_bl]
/-- Sealed anew. -/
def sldB (l : List UInt8) : List UInt8 := sealB (l.take (l.length - 4))
theorem sldB_len (l : List UInt8) : (sldB l).length ≤ l.length + 4 := by
  unfold sldB
  rw [sealB_length, List.length_take]
  omega
end Go.Proofs.YtdpbdkacngaemaaDoor.st

/- What the document's own reader does: OK, End. -/
namespace Go.Proofs.YtdpbdkacngaemaaDoor.wi
open Go.RowKit
set_option maxRecDepth 100000

end Go.Proofs.YtdpbdkacngaemaaDoor.wi

/- What reading a text off the document's own reader does: Text of package stemmaref01. -/
namespace Go.Proofs.YtdpbdkacngaemaaDoor.wi
open Go.RowKit
set_option maxRecDepth 100000

theorem bl_take (s : ByteArray) (n : Nat) : s.extract 0 n = str ((bl s).take n) := by
  obtain ⟨⟨l⟩⟩ := s
  apply ByteArray.ext
  simp [str, bl]

end Go.Proofs.YtdpbdkacngaemaaDoor.wi

/- append, and where the list then lies. -/
namespace Go.Proofs.YtdpbdkacngaemaaDoor
open Go Go.RowKit
set_option maxRecDepth 100000

theorem wpList_append_at {P : Program} {ops : Array Oper} {rest : List Oper} {o : Oper} {a : Act} {w : World} {Q : Exit → Act → World → Prop} (hgd : o.guard = none) (s x : Operand) (t : TypeId)
    (ho : o.op = .call { callee := .builtin .append, args := #[s, x], argTypes := #[t, t] })
    (base : Nat) (e : TypeId) (i : TypeInfo) (z : Value) (size bytes : Nat) (ht : P.underlying t = some (.slice e)) (hi : P.info? e = some i) (hz : i.zero = some z)
    (hsize : i.size = size) (hby : i.bytes = bytes) (hzs : z.cells.size = size) (hsz : 0 < size)
    (v : Value) (n : Nat) (xs : List Value) (hs : a.eval s = v) (hown : w.ownsRow base e size v n xs)
    (ad : Addr) (m c : Nat) (news : List Value) (hx : a.eval x = .slice (some ad) m c) (hl : news.length = m * size) (hnews : ∀ j u, news[j]? = some u → w.cell? (ad.add j) = some u) (h1 : ∀ u ∈ news, u.oneCell' = true)
    (h63 : n + m ≤ maxLen) (hbytes : (n + m) * bytes ≤ 140737488355328) (hbase : base ≤ w.heap.size)
    (h : ∀ v' w', w'.ownsRow base e size v' (n + m) (xs ++ news) → w.grownBy w' v.ownBlock → (v'.ownBlock = v.ownBlock ∨ v'.ownBlock = some w.heap.size) → wpList P ops Q rest (a.put o.dst v') w') : wpList P ops Q (o :: rest) a w := by
  refine wpList_plain hgd fun K hK => ?_
  obtain ⟨v', w', hrun, h2, h3, _, h5⟩ := run_append_own_at (P := P) w base t o.type e i z size bytes ht hi hz hsize hby hzs hsz v n xs hown ad m c news hl hnews h1 h63 hbytes hbase
  unfold Oper.wp
  simp [execOp, ho, resolve, invoke, builtin, hs, hx, hrun, Result.andThen]
  exact hK _ _ (h v' w' h2 h3 h5)
end Go.Proofs.YtdpbdkacngaemaaDoor

/- The statements' parts, made short: thirty changes of forty bytes at most, in memory of their own. -/
namespace Go.Proofs.YtdpbdkacngaemaaDoor.st
open Go Go.RowKit Go.Sort Go.Proofs.YtdpbdkacngaemaaDoor.ib Go.Proofs.YtdpbdkacngaemaaDoor.wi Go.Proofs.YtdpbdkacngaemaaDoor.mt
open Go.Proofs.YtdpbdkacngaemaaDoor.ch (ChL OChs chVals infoCh)
set_option maxRecDepth 100000

def shC (c : Ch) : Ch := (c.1, c.2.take 40)
def shL (l : List Ch) : List Ch := (l.take 30).map shC
def shP (p : Pa) : Pa := ⟨p.base, p.target, p.fr, p.all, shL p.chs⟩
theorem shL_len (l : List Ch) : (shL l).length = min 30 l.length := by unfold shL; rw [List.length_map, List.length_take]
theorem shL_snoc (l : List Ch) (k : Nat) (h : k < l.length) (h30 : k < 30) : shL (l.take (k + 1)) = shL (l.take k) ++ [shC l[k]] := by
  unfold shL
  rw [List.take_take, List.take_take, Nat.min_eq_right (by omega), Nat.min_eq_right (by omega), List.take_succ_eq_append_getElem h, List.map_append]
  rfl
theorem shL_done (l : List Ch) (k : Nat) (h : k ≤ l.length) (h30 : k ≤ 30) (he : ¬ (k < l.length ∧ k < 30)) : shL (l.take k) = shL l := by
  unfold shL
  rw [List.take_take]
  congr 1
  by_cases h : k = l.length
  · subst h
    rw [← List.take_take, List.take_length]
  · obtain rfl : k = 30 := by omega
    rw [Nat.min_self]
theorem ex_take (S : ByteArray) (x : List UInt8) (hS : str x = S) (n : Nat) (hn : n = min x.length 40) : S.extract 0 n = str (x.take 40) := by
  subst hS
  rw [bl_take, bl_str, hn]
  congr 1
  by_cases h : 40 ≤ x.length
  · rw [Nat.min_eq_right h]
  · rw [Nat.min_eq_left (by omega), List.take_of_length_le (Nat.le_refl _), List.take_of_length_le (by omega)]

structure ShS (w W : World) (gp g2 : Nat) (p : Pa) (A : Option Addr) (cp : Nat) (v : Value) (l : List Ch) : Prop where
  m : Blk W gp 27 (paC p A cp)
  res : Blk W g2 27 pZ
  row : OChs W w.heap.size v l
  below : Below w.heap.size w W
  ne : gp ≠ g2
  lo : w.heap.size ≤ gp ∧ w.heap.size ≤ g2
section
variable {w W W' : World} {gp g2 : Nat} {p : Pa} {A : Option Addr} {cp : Nat} {v : Value} {l : List Ch}
theorem ShS.grow (h : ShS w W gp g2 p A cp v l) (hb : Below W.heap.size W W') : ShS w W' gp g2 p A cp v l :=
  ⟨h.m.below hb, h.res.below hb, row_of_block h.row (fun j hj => hb.block j (h.row.lt j hj).2), below_step h.below hb, h.ne, h.lo⟩
theorem ShS.own {j : Nat} (h : ShS w W gp g2 p A cp v l) (hl : l.length = j) : W.ownsRow w.heap.size 46 2 v j (chVals l) := by
  have := h.row
  unfold OChs at this
  rwa [hl] at this
theorem ShS.push {x : Ch} {v' : Value} {j : Nat} (h : ShS w W gp g2 p A cp v l) (hl : l.length = j) (ho : W'.ownsRow w.heap.size 46 2 v' (j + 1) (chVals l ++ [.int .i64 x.1, .string (str x.2)])) (hg : W.grownBy W' v.ownBlock) : ShS w W' gp g2 p A cp v' (l ++ [x]) := by
  have hk := Kp.of_grown hg h.row
  exact ⟨hk _ _ _ (by decide) h.m, hk _ _ _ (by decide) h.res, ochs_snoc (by rw [hl]; exact ho), h.below.grown hg h.below.size (fun j hj => (h.row.lt j hj).1), h.ne, h.lo⟩
end
def ShRel (w : World) (gp g2 : Nat) (p : Pa) (A : Option Addr) (cp : Nat) (v i : Value) (wr : World) : Prop :=
  ∃ k : Nat, k ≤ p.chs.length ∧ k ≤ 30 ∧ i = .int .i64 (k : Int) ∧ ShS w wr gp g2 p A cp v (shL (p.chs.take k))
/-- A part by value, in memory of its own. -/
def endPa (p : Pa) (w : World) (e : Ending) (w' : World) : Prop := ∃ A c, e = .returned (.agg (paC p A c)) ∧ PaL w' A c p ∧ OChs w' w.heap.size (.slice A p.chs.length c) p.chs ∧ Below w.heap.size w w'

set_option maxHeartbeats 6400000 in
theorem short_any (A : Option Addr) (cp : Nat) (p : Pa) (w : World) (h : PaL w A cp p) (hl : p.chs.length ≤ 9223372036854775807) (hd : ∀ c ∈ p.chs, c.2.length ≤ 9223372036854775807) :
    Calls Tryd.prog 10 #[.agg (paC p A cp)] w (endPa (shP p) w) := by
  obtain ⟨i0, hi, hz0, hz1, hz2⟩ := info_parts infoCh
  have c1 := (Below.refl w.heap.size w).alloc (Nat.le_refl _) (.cells (paC p A cp) 27)
  have k1 := Blk.new w 27 (paC p A cp)
  obtain ⟨W1, hW1⟩ : ∃ z, w.alloc (.cells (paC p A cp) 27) = z := ⟨_, rfl⟩
  rw [hW1] at c1 k1
  have c2 := (Below.refl W1.heap.size W1).alloc (Nat.le_refl _) (.cells pZ 27)
  have k2 := Blk.new W1 27 pZ
  obtain ⟨W2, hW2⟩ : ∃ z, W1.alloc (.cells pZ 27) = z := ⟨_, rfl⟩
  rw [hW2] at c2 k2
  obtain ⟨gp, hgp⟩ : ∃ q, w.heap.size = q := ⟨_, rfl⟩
  obtain ⟨gR, hgR⟩ : ∃ q, W1.heap.size = q := ⟨_, rfl⟩
  have H1 : Hid (ShS w W2 gp gR p A cp nlS []) := by
    have e1 := k1.below c2
    rw [hgp] at e1
    rw [hgR] at k2
    refine ⟨e1, k2, World.ownsRow_nil _ _ _ _, below_step c1 c2, ?_, ?_⟩
    · have := k1.lt; omega
    · have := c1.size; omega
  have HCH := Lib.hid h.chs
  have HP := Lib.hid h
  have HD := Lib.hid hd
  have HW1 := Lib.hid hW1
  have HW2 := Lib.hid hW2
  have HGP := Lib.hid hgp
  have HGR := Lib.hid hgR
  unfold paC at HW1 hW1
  unfold pZ at HW2 hW2
  clear h c1 c2 k1 k2 hd hW2 hgp hgR
  unfold paC
  obtain ⟨len, hlen⟩ : ∃ z, p.chs.length = z := ⟨_, rfl⟩
  have HLN := Lib.hid hlen
  rw [hlen] at hl hW1 HW1 ⊢
  clear hlen
  go_enter Tryd.func10, Tryd.ntmps10
  go_upto_region 1 with fail
  try rw [HW2.out]
  rw [HGR.out, HGP.out]
  clear HW1 HW2 HGP HGR hW1
  go_wp2_with fail
  go_loopw [3, 4] (fun v i wr => ShRel w gp gR p A cp v i wr) (fun _ i _ => 30 - (intOf i).toNat)
  case atStart => exact ⟨0, by omega, by omega, rfl, H1.out⟩
  case round =>
    clear H1
    obtain ⟨k, hk, hk30, rfl, hS⟩ := hrel
    have HS := Lib.hid hS
    have hm := hS.m
    have m6 := hm.cell 6
    have ml := hm.lt
    simp only [paC, List.getElem?_toArray, List.getElem?_cons_zero, List.getElem?_cons_succ] at m6
    rw [HLN.out] at hk m6
    obtain ⟨A5, c5, rfl⟩ := own_form hS.row
    have HLK : Hid ((shL (p.chs.take k)).length = k) := by unfold Hid; rw [shL_len, List.length_take, HLN.out]; omega
    rw [HLK.out] at HS ⊢
    clear hS hm
    by_cases hlt : k < len
    · have hki : (k : Int) < (len : Int) := by omega
      by_cases h30 : k < 30
      · have h30i : (k : Int) < 30 := by omega
        have hkl : k < p.chs.length := by rw [HLN.out]; exact hlt
        obtain ⟨bb, bo, rfl, hbb, q0, q1, qb⟩ := HCH.out k hkl
        have HSN := Lib.hid (shL_snoc p.chs k hkl h30)
        have hth := HD.out _ (List.getElem_mem hkl)
        obtain ⟨x, hx⟩ : ∃ x, p.chs[k] = x := ⟨_, rfl⟩
        rw [hx] at q0 q1 HSN hth qb
        have e0 : wr.cell? ⟨bb, bo + k * 2, none⟩ = some (.int .i64 x.1) := by rw [HS.out.below.cell (p := ⟨bb, bo + k * 2, none⟩) hbb]; exact q0
        have e1 : wr.cell? ⟨bb, bo + k * 2 + 1, none⟩ = some (.string (str x.2)) := by rw [HS.out.below.cell (p := ⟨bb, bo + k * 2 + 1, none⟩) hbb]; exact q1
        have lb : bb < wr.heap.size := Nat.lt_of_lt_of_le hbb HS.out.below.size
        have hsz : (str x.2).size ≤ 9223372036854775807 := by rw [str_size]; exact hth
        obtain ⟨x1, hx1⟩ : ∃ z, x.1 = z := ⟨_, rfl⟩
        obtain ⟨S, hSS⟩ : ∃ z, str x.2 = z := ⟨_, rfl⟩
        have hn : ∃ n : Nat, n = min x.2.length 40 := ⟨_, rfl⟩
        obtain ⟨n, hn⟩ := hn
        have hss : S.size = x.2.length := by rw [← hSS, str_size]
        have hn1 : min (S.size : Int) 40 = (n : Int) := by rw [hss]; omega
        have hn2 : (if (40 : Int) < (S.size : Int) then (40 : Int) else (S.size : Int)) = (n : Int) := by
          rw [hss]
          split <;> omega
        have hn3 : n ≤ S.size := by rw [hss]; omega
        have hn4 : (n : Int) ≤ (S.size : Int) := by omega
        have HE := Lib.hid (ex_take S x.2 hSS n hn)
        rw [hx1] at e0
        rw [hSS] at e1 hsz
        have HX1 := Lib.hid hx1
        clear hx q0 q1 qb hth hbb hx1 hSS hn hss
        go_upto_region 7 with fail
        obtain ⟨E, hE⟩ : ∃ z, S.extract 0 n = z := ⟨_, rfl⟩
        rw [hE] at HE ⊢
        clear hE e0 e1 lb hn1 hn2 hn3 hn4 hsz m6 ml
        obtain ⟨W3, hW3⟩ : ∃ z, wr.alloc (.cells #[.int .i64 x1, .string E] 46) = z := ⟨_, rfl⟩
        have b3 : Below wr.heap.size wr W3 := by rw [← hW3]; exact (Below.refl _ _).alloc (Nat.le_refl _) _
        have g3 : Blk W3 wr.heap.size 46 #[.int .i64 x1, .string E] := by rw [← hW3]; exact Blk.new _ _ _
        rw [hW3]
        obtain ⟨gd, hgd⟩ : ∃ z, wr.heap.size = z := ⟨_, rfl⟩
        rw [hgd] at g3 ⊢
        have HS3 := Lib.hid (HS.out.grow b3)
        have c0 := g3.cell 0
        have c1 := g3.cell 1
        have cl := g3.lt
        simp only [List.getElem?_toArray, List.getElem?_cons_zero, List.getElem?_cons_succ] at c0 c1
        clear b3 g3 hW3 hgd HS
        have b4 : Below W3.heap.size W3 (W3.alloc (.cells #[.int .i64 x1, .string E] 46)) := (Below.refl _ _).alloc (Nat.le_refl _) _
        have HNW := Lib.hid (news_blk (Blk.new W3 46 #[.int .i64 x1, .string E]))
        have HS4 := Lib.hid (HS3.out.grow b4)
        clear b4 HS3
        have HO4 := Lib.hid (HS4.out.own HLK.out)
        have HONE : Hid (∀ u ∈ ([.int .i64 x1, .string E] : List Value), u.oneCell' = true) := by
          intro u hu
          simp only [List.mem_cons, List.not_mem_nil, or_false] at hu
          rcases hu with rfl | rfl <;> rfl
        go_wp2_with (at_builtin; refine wpList_append_own _ rfl (.tmp 30) (.tmp 32) 25 rfl w.heap.size 46 i0 (.agg #[.int .i64 0, .string ByteArray.empty]) 2 24 Tryd.underlying25 hi hz0 hz1 hz2 rfl (by decide) _ k _ rfl HO4.out ⟨W3.heap.size, 0, none⟩ 1 1 [.int .i64 x1, .string E] rfl rfl HNW.out HONE.out ?_ ?_ HS4.out.below.size ?_)
        · unfold maxLen; omega
        · omega
        · intro v' w1 hown hgrow _
          have HS5 : Hid (ShS w w1 gp gR p (some ⟨bb, bo, none⟩) cp v' (shL (p.chs.take (k + 1)))) := by
            unfold Hid
            rw [HSN.out]
            refine HS4.out.push HLK.out ?_ hgrow
            unfold shC
            dsimp only
            rw [HX1.out, ← HE.out]
            exact hown
          clear hown hgrow HS4 HO4 HNW c0 c1 cl
          obtain ⟨A6, c6, rfl⟩ := own_form HS5.out.row
          go_wp2_with fail
          go_roundw
          case rel => exact ⟨k + 1, by rw [HLN.out]; omega, by omega, by go_num, HS5.out⟩
          case measure => simp [intOf]; omega
      · have h30i : ¬ (k : Int) < 30 := by omega
        have hdone : shL (p.chs.take k) = shL p.chs := shL_done p.chs k (by rw [HLN.out]; omega) hk30 (by omega)
        have hlk := HLK.out
        rw [hdone] at hlk
        have HDN := Lib.hid hdone
        have HLF := Lib.hid hlk
        have hs := HS.out
        have f6 := hs.m.frozen 6
        have hm5 : Blk (wr.setCell ⟨gp, 6, none⟩ (.slice A5 k c5)) gp 27 (pC p.base p.target p.fr p.all (.slice A5 k c5)) := by
          have h9 := hs.m.set_ 6 (.slice A5 k c5)
          simp only [paC, List.setIfInBounds_toArray, List.set_cons_succ, List.set_cons_zero] at h9
          exact h9
        have hr5 : Blk (wr.setCell ⟨gp, 6, none⟩ (.slice A5 k c5)) gR 27 (pC (0, 0) (0, 0) 0 0 nlS) := by
          rw [← pZ_is]
          exact hs.res.of_block (set_oth _ _ _ _ _ hs.ne.symm)
        have ho5 : OChs (wr.setCell ⟨gp, 6, none⟩ (.slice A5 k c5)) w.heap.size (.slice A5 k c5) (shL p.chs) := by
          rw [← hdone]
          exact row_of_block hs.row (fun j hj => set_oth _ _ _ _ _ (own_type hs.row hs.m (by decide) j hj))
        have hb5 : Below w.heap.size w (wr.setCell ⟨gp, 6, none⟩ (.slice A5 k c5)) := hs.below.setCell (p := ⟨gp, 6, none⟩) hs.lo.1 _
        have hlo := hs.lo.2
        obtain ⟨W5, hW5⟩ : ∃ z, wr.setCell ⟨gp, 6, none⟩ (.slice A5 k c5) = z := ⟨_, rfl⟩
        rw [hW5] at hm5 hr5 ho5 hb5
        have HW5 := Lib.hid hW5
        have HM5 := Lib.hid hm5
        have HR5 := Lib.hid hr5
        have HO5 := Lib.hid ho5
        have HB5 := Lib.hid hb5
        clear hs hm5 hr5 ho5 hb5 hdone hlk hW5 HS HLK
        go_upto_region 9 with fail
        try rw [HW5.out]
        clear HW5 m6 ml f6
        have hm := HM5.out
        have hr := HR5.out
        have a0 := hm.cell 0
        have b0 := hr.cell 0
        have f0 := hr.frozen 0
        have a1 := hm.cell 1
        have b1 := hr.cell 1
        have f1 := hr.frozen 1
        have a2 := hm.cell 2
        have b2 := hr.cell 2
        have f2 := hr.frozen 2
        have a3 := hm.cell 3
        have b3 := hr.cell 3
        have f3 := hr.frozen 3
        have a4 := hm.cell 4
        have b4 := hr.cell 4
        have f4 := hr.frozen 4
        have a5 := hm.cell 5
        have b5 := hr.cell 5
        have f5 := hr.frozen 5
        have a6 := hm.cell 6
        have b6 := hr.cell 6
        have f6 := hr.frozen 6
        have al := hm.lt
        have bl' := hr.lt
        simp only [pC, nlS, List.getElem?_toArray, List.getElem?_cons_zero, List.getElem?_cons_succ] at a0 b0 a1 b1 a2 b2 a3 b3 a4 b4 a5 b5 a6 b6
        clear hm hr
        go_wp2_with fail
        have HF : Blk (setPa W5 gR p.base p.target p.fr p.all (.slice A5 k c5)) gR 27 (pC p.base p.target p.fr p.all (.slice A5 k c5)) := setPa_blk HR5.out
        have HOF : OChs (setPa W5 gR p.base p.target p.fr p.all (.slice A5 k c5)) w.heap.size (.slice A5 k c5) (shL p.chs) := row_of_block HO5.out (fun j hj => setPa_oth _ _ _ _ _ _ _ _ (own_type HO5.out HR5.out (by decide) j hj))
        have hzb : ∀ x ∈ shL p.chs, b64 x.1 := fun x hx => by
          unfold shL at hx
          obtain ⟨y, hy, rfl⟩ := List.mem_map.1 hx
          exact chl_b64 HCH.out y (List.mem_of_mem_take hy)
        obtain ⟨a9, c9, hv9, hc9, _⟩ := ochs_chl HOF hzb
        simp only [Value.slice.injEq] at hv9
        obtain ⟨rfl, hkk, rfl⟩ := hv9
        show bodyPost _ _ _ _ _ (setPa W5 gR p.base p.target p.fr p.all (.slice A5 k c5))
        refine bodyPost_ret (load_res Tryd.results10 HF _ (by simp)) rfl ⟨A5, c5, ?_, ⟨hc9, HP.out.base, HP.out.target, HP.out.fr, HP.out.all⟩, ?_, setPa_below HB5.out hlo⟩
        · show _ = Ending.returned (.agg (pC p.base p.target p.fr p.all (.slice A5 (shL p.chs).length c5)))
          rw [← hkk]
        · show OChs _ _ (.slice A5 (shL p.chs).length c5) (shL p.chs)
          rw [← hkk]
          exact HOF
    · have hki : ¬ (k : Int) < (len : Int) := by omega
      have hdone : shL (p.chs.take k) = shL p.chs := shL_done p.chs k (by rw [HLN.out]; omega) hk30 (by rw [HLN.out]; omega)
      have hlk := HLK.out
      rw [hdone] at hlk
      have HDN := Lib.hid hdone
      have HLF := Lib.hid hlk
      have hs := HS.out
      have f6 := hs.m.frozen 6
      have hm5 : Blk (wr.setCell ⟨gp, 6, none⟩ (.slice A5 k c5)) gp 27 (pC p.base p.target p.fr p.all (.slice A5 k c5)) := by
        have h9 := hs.m.set_ 6 (.slice A5 k c5)
        simp only [paC, List.setIfInBounds_toArray, List.set_cons_succ, List.set_cons_zero] at h9
        exact h9
      have hr5 : Blk (wr.setCell ⟨gp, 6, none⟩ (.slice A5 k c5)) gR 27 (pC (0, 0) (0, 0) 0 0 nlS) := by
        rw [← pZ_is]
        exact hs.res.of_block (set_oth _ _ _ _ _ hs.ne.symm)
      have ho5 : OChs (wr.setCell ⟨gp, 6, none⟩ (.slice A5 k c5)) w.heap.size (.slice A5 k c5) (shL p.chs) := by
        rw [← hdone]
        exact row_of_block hs.row (fun j hj => set_oth _ _ _ _ _ (own_type hs.row hs.m (by decide) j hj))
      have hb5 : Below w.heap.size w (wr.setCell ⟨gp, 6, none⟩ (.slice A5 k c5)) := hs.below.setCell (p := ⟨gp, 6, none⟩) hs.lo.1 _
      have hlo := hs.lo.2
      obtain ⟨W5, hW5⟩ : ∃ z, wr.setCell ⟨gp, 6, none⟩ (.slice A5 k c5) = z := ⟨_, rfl⟩
      rw [hW5] at hm5 hr5 ho5 hb5
      have HW5 := Lib.hid hW5
      have HM5 := Lib.hid hm5
      have HR5 := Lib.hid hr5
      have HO5 := Lib.hid ho5
      have HB5 := Lib.hid hb5
      clear hs hm5 hr5 ho5 hb5 hdone hlk hW5 HS HLK
      go_upto_region 9 with fail
      try rw [HW5.out]
      clear HW5 m6 ml f6
      have hm := HM5.out
      have hr := HR5.out
      have a0 := hm.cell 0
      have b0 := hr.cell 0
      have f0 := hr.frozen 0
      have a1 := hm.cell 1
      have b1 := hr.cell 1
      have f1 := hr.frozen 1
      have a2 := hm.cell 2
      have b2 := hr.cell 2
      have f2 := hr.frozen 2
      have a3 := hm.cell 3
      have b3 := hr.cell 3
      have f3 := hr.frozen 3
      have a4 := hm.cell 4
      have b4 := hr.cell 4
      have f4 := hr.frozen 4
      have a5 := hm.cell 5
      have b5 := hr.cell 5
      have f5 := hr.frozen 5
      have a6 := hm.cell 6
      have b6 := hr.cell 6
      have f6 := hr.frozen 6
      have al := hm.lt
      have bl' := hr.lt
      simp only [pC, nlS, List.getElem?_toArray, List.getElem?_cons_zero, List.getElem?_cons_succ] at a0 b0 a1 b1 a2 b2 a3 b3 a4 b4 a5 b5 a6 b6
      clear hm hr
      go_wp2_with fail
      have HF : Blk (setPa W5 gR p.base p.target p.fr p.all (.slice A5 k c5)) gR 27 (pC p.base p.target p.fr p.all (.slice A5 k c5)) := setPa_blk HR5.out
      have HOF : OChs (setPa W5 gR p.base p.target p.fr p.all (.slice A5 k c5)) w.heap.size (.slice A5 k c5) (shL p.chs) := row_of_block HO5.out (fun j hj => setPa_oth _ _ _ _ _ _ _ _ (own_type HO5.out HR5.out (by decide) j hj))
      have hzb : ∀ x ∈ shL p.chs, b64 x.1 := fun x hx => by
        unfold shL at hx
        obtain ⟨y, hy, rfl⟩ := List.mem_map.1 hx
        exact chl_b64 HCH.out y (List.mem_of_mem_take hy)
      obtain ⟨a9, c9, hv9, hc9, _⟩ := ochs_chl HOF hzb
      simp only [Value.slice.injEq] at hv9
      obtain ⟨rfl, hkk, rfl⟩ := hv9
      show bodyPost _ _ _ _ _ (setPa W5 gR p.base p.target p.fr p.all (.slice A5 k c5))
      refine bodyPost_ret (load_res Tryd.results10 HF _ (by simp)) rfl ⟨A5, c5, ?_, ⟨hc9, HP.out.base, HP.out.target, HP.out.fr, HP.out.all⟩, ?_, setPa_below HB5.out hlo⟩
      · show _ = Ending.returned (.agg (pC p.base p.target p.fr p.all (.slice A5 (shL p.chs).length c5)))
        rw [← hkk]
      · show OChs _ _ (.slice A5 (shL p.chs).length c5) (shL p.chs)
        rw [← hkk]
        exact HOF
end Go.Proofs.YtdpbdkacngaemaaDoor.st

/- The examples of StreamKnown as plain data. -/
namespace Go.Proofs.YtdpbdkacngaemaaDoor.st
open Go Go.RowKit Go.Proofs.YtdpbdkacngaemaaDoor.ib Go.Proofs.YtdpbdkacngaemaaDoor.wi Go.Proofs.YtdpbdkacngaemaaDoor.mt
set_option maxRecDepth 100000

def wrL : List Mk := [⟨3, 97, false⟩, ⟨0, 98, false⟩]
def twL : List Mk := [⟨3, 97, false⟩, ⟨3, 98, false⟩]
def faL : List Mk := [⟨8, 97, false⟩]
def thL : List Mk := [⟨1, 97, true⟩]
def nP : Pa := ⟨(1, 1), (1, 2), 0, 0, []⟩
theorem kn_cut : pCut (1, 1) (1, 2) [] 0 = (nP, 0) := by kernel_rfl
theorem kn_chk : pCheck nP = 0 := by kernel_rfl
def nB : List UInt8 := sealB (pBytes nP)
theorem kn_enc : pEnc nP = (nB, 0) := enc_of kn_chk
theorem kn_nb : nB.length = 15 ∧ nB.take 11 = [1, 1, 1, 1, 1, 1, 1, 2, 0, 0, 0] := by decide +kernel
theorem kn_ndec : pDec nB = (nP, 0) := dec_enc (p := nP) ⟨by decide, by decide⟩ ⟨by decide, by decide⟩ kn_chk
/-- What cannot be cut. -/
def kA : List (Gd × Gd × List Ch × Int) := [((1, 1), (1, 2), c3, 3), ((1, 1), (1, 2), c3, -1), ((1, 2), (1, 2), c3, 0), ((2, 1), (1, 9), c3, 0), ((0, 0), (0, 0), c3, 0), ((0, 0), (1, 1), mdOf wrL, 0), ((0, 0), (1, 1), mdOf twL, 1), ((0, 0), (1, 1), mdOf faL, 0), ((0, 0), (1, 1), mdOf thL, 0), ((0, 0), (1, 1), [], 1)]
theorem kA_bad : ∀ x ∈ kA, pCut x.1 x.2.1 x.2.2.1 x.2.2.2 = (pa0, 2) := by decide +kernel
def gdP : Pa := ⟨(1, 1), (2, 1), 1, 3, c3.drop 1⟩
theorem gd_short : shP gdP = gdP := by decide +kernel
theorem gd_chk : pCheck gdP = 0 := by kernel_rfl
def p1 : Pa := ⟨(1, 1), (2, 1), 1, 3, []⟩
def p2 : Pa := ⟨(1, 1), (2, 1), 2, 3, c3.drop 1⟩
def p3 : Pa := ⟨(1, 1), (2, 1), 1, 9, c3.drop 1⟩
def p4 : Pa := ⟨(1, 1), (2, 1), 1, 2, c3.drop 1⟩
def p5 : Pa := ⟨(1, 1), (2, 1), -1, 3, c3.drop 1⟩
def p6 : Pa := ⟨(1, 1), (2, 1), 1, 3, c3⟩
def p7 : Pa := ⟨(1, 1), (1, 1), 1, 3, c3.drop 1⟩
def d1 : List Ch := [(7, rep 98 32), (7, rep 99 32)]
def p8 : Pa := ⟨(1, 1), (2, 1), 1, 3, d1⟩
def d2 : List Ch := [(3, rep 98 32), (7, [120])]
def p9 : Pa := ⟨(1, 1), (2, 1), 1, 3, d2⟩
def p10 : Pa := ⟨(1, 1), (2, 1), 0, 0, c3.take 1⟩
def p11 : Pa := ⟨(1, 1), (2, 1), 3, 3, []⟩
def kB : List Pa := [p1, p2, p3, p4, p5, p6, p7, p8, p9, p10, p11]
theorem kB_bad : ∀ p ∈ kB, pCheck p = 2 := by decide +kernel
theorem kB_few : ∀ p ∈ kB, p.chs.length ≤ 3 := by decide +kernel
def tB : List UInt8 := sealB (pBytes gdP)
theorem kn_tenc : pEnc gdP = (tB, 0) := enc_of gd_chk
theorem kn_tlen : 1 ≤ tB.length ∧ tB.length ≤ 200 := by decide +kernel
def rwL : List Nat := [1, 1, 1, 2, 0, 0, 0]
def rwB : List UInt8 := numsB rwL
theorem kn_rw : rwB ++ [] = pBytes nP := by decide +kernel
theorem kn_rlen : rwB.length = 11 := by decide +kernel
/-- What cannot be read. -/
def kS : List (List UInt8) := [[], tB.take (tB.length - 1), tB ++ [120], 120 :: tB, sealB (rwB ++ [0]), sealB (rwB.take 9), sealB [], rwB]
theorem kS_bad : ∀ s ∈ kS, pDec s = (pa0, 4) := by decide +kernel
theorem kS_len : ∀ s ∈ kS, s.length ≤ 1000 := by decide +kernel
def oth : List Ch := [(3, rep 98 32), (7, rep 98 32)]
theorem kn_oth : decide (gdP = (⟨(1, 1), (2, 1), 1, 3, oth⟩ : Pa)) = false := by decide +kernel
end Go.Proofs.YtdpbdkacngaemaaDoor.st

