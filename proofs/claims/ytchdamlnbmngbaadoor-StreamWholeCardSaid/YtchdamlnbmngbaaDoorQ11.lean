/- StWorks, WiRefP, WiRef, CRSum, CRef, StREnc, WiRefR, WiRefT0, CRefO. -/
import Derived.Test.YtchdamlnbmngbaaDoorQ10
import Derived.Test.YtchdamlnbmngbaaDoorQ2
import Derived.Test.YtchdamlnbmngbaaDoorQ4
import Derived.Test.YtchdamlnbmngbaaDoorQ6
import Derived.Test.YtchdamlnbmngbaaDoorQ7
import Derived.Test.YtchdamlnbmngbaaDoorQ8
import Derived.Test.YtchdamlnbmngbaaDoorQ9
import Derived.Laws.AppendOwnNone
import Derived.BigQuiet
import Derived.Deep.QuietTactic
import Derived.Lib.QuietBelow
import Derived.Deep.DeepCutAuto
import Derived.LoopTactic
set_option linter.unusedVariables false
set_option linter.unusedSimpArgs false
/- Two parts that are made, laid and read. -/
namespace Go.Proofs.YtchdamlnbmngbaaDoor.st
open Go Go.RowKit Go.Proofs.YtchdamlnbmngbaaDoor.ib Go.Proofs.YtchdamlnbmngbaaDoor.wi Go.Proofs.YtchdamlnbmngbaaDoor.mt
open Go.Proofs.YtchdamlnbmngbaaDoor.ch (ChL OChs chVals infoCh)
set_option maxRecDepth 100000

def m3 : List Mk := [⟨0, 97, false⟩, ⟨3, 98, false⟩, ⟨7, 99, false⟩]
def c3 : List Ch := mdOf m3
def P0 : Pa := ⟨(1, 1), (1, 2), 0, 3, c3.take 2⟩
def P2 : Pa := ⟨(1, 1), (1, 2), 2, 3, c3.drop 2⟩
theorem cut0 : pCut (1, 1) (1, 2) c3 0 = (P0, 0) := by kernel_rfl
theorem cut2 : pCut (1, 1) (1, 2) c3 2 = (P2, 0) := by kernel_rfl
theorem chk0 : pCheck P0 = 0 := by kernel_rfl
theorem chk2 : pCheck P2 = 0 := by kernel_rfl
theorem sguid_any (e c : Nat) (w : World) : Calls Tryd.prog 23 #[.int .u64 (e : Int), .int .u64 (c : Int)] w fun x w' => x = .returned (gv (e, c)) ∧ Below w.heap.size w w' := by
  go_enter Tryd.func23, Tryd.ntmps23
  go_wp2_with fail
  have q0 : (w.alloc (.cells #[.int .u64 (e : Int), .int .u64 (c : Int)] 24)).cell? ⟨w.heap.size, 0, none⟩ = some (.int .u64 (e : Int)) := (Blk.new w _ _).cell 0
  have q1 : (w.alloc (.cells #[.int .u64 (e : Int), .int .u64 (c : Int)] 24)).cell? ⟨w.heap.size, 1, none⟩ = some (.int .u64 (c : Int)) := (Blk.new w _ _).cell 1
  refine bodyPost_ret (v := gv (e, c)) (by simp [results, Tryd.results23, go_sem, q0, q1, gv]) rfl ?_
  exact ⟨rfl, (Below.refl w.heap.size w).alloc (Nat.le_refl _) _⟩
/-- A row that a call owns, as its cells lie. -/
theorem ochs_cut {w : World} {B : Nat} {v : Value} {l : List Ch} (h : OChs w B v l) (hz : ∀ x ∈ l, b64 x.1) : ∃ A cp, v = .slice A l.length cp ∧ ChL w A l ∧ l.length ≤ cp ∧ ((A = none ∧ cp = 0) ∨ ∃ b o, A = some ⟨b, o, none⟩) ∧ ∀ b o, A = some ⟨b, o, none⟩ → B ≤ b ∧ b < w.heap.size := by
  obtain ⟨a, c, rfl, h1, h2⟩ := ochs_chl h hz
  rcases h.2 with ⟨e1, e2⟩ | ⟨g, cap, cur, e1, e2, e3, e4, e5⟩
  · simp only [Value.slice.injEq] at e1
    obtain ⟨rfl, e3, rfl⟩ := e1
    exact ⟨none, 0, rfl, h1, by omega, .inl ⟨rfl, rfl⟩, h2⟩
  · simp only [Value.slice.injEq] at e1
    obtain ⟨rfl, e3, rfl⟩ := e1
    exact ⟨_, _, rfl, h1, e4, .inr ⟨g, 0, rfl⟩, h2⟩
theorem m3_b : ∀ m ∈ m3, b64 m.b := by
  intro m hm
  simp only [m3, List.mem_cons, List.not_mem_nil, or_false] at hm
  rcases hm with rfl | rfl | rfl
  · exact ⟨by decide, by decide⟩
  · exact ⟨by decide, by decide⟩
  · exact ⟨by decide, by decide⟩
theorem c3_b : ∀ x ∈ c3, b64 x.1 := fun x hx => by
  unfold c3 mdOf at hx
  obtain ⟨m, hm, rfl⟩ := List.mem_map.1 hx
  exact m3_b m (List.mem_of_mem_take hm)
theorem three_any (w : World) : Calls Tryd.prog 24 #[] w (endO c3 w) := by
  have hc := Blk.new w 51 #[.int .i64 0, .int .u8 97, .bool false, .int .i64 3, .int .u8 98, .bool false, .int .i64 7, .int .u8 99, .bool false]
  have hb := (Below.refl w.heap.size w).alloc (Nat.le_refl _) (.cells #[.int .i64 0, .int .u8 97, .bool false, .int .i64 3, .int .u8 98, .bool false, .int .i64 7, .int .u8 99, .bool false] 51)
  obtain ⟨W, hW⟩ : ∃ z, w.alloc (.cells #[.int .i64 0, .int .u8 97, .bool false, .int .i64 3, .int .u8 98, .bool false, .int .i64 7, .int .u8 99, .bool false] 51) = z := ⟨_, rfl⟩
  rw [hW] at hc hb
  have hm : MkL W (some ⟨w.heap.size, 0, none⟩) m3 := by
    intro i hi
    have hi3 : i < 3 := hi
    refine ⟨w.heap.size, 0, rfl, hc.lt, ?_, ?_, ?_, ?_⟩
    · rw [hc.cell]
      match i, hi3 with
      | 0, _ => rfl
      | 1, _ => rfl
      | 2, _ => rfl
    · rw [hc.cell]
      match i, hi3 with
      | 0, _ => rfl
      | 1, _ => rfl
      | 2, _ => rfl
    · rw [hc.cell]
      match i, hi3 with
      | 0, _ => rfl
      | 1, _ => rfl
      | 2, _ => rfl
    · exact m3_b _ (List.getElem_mem hi)
  have HM := Lib.hid (made_any (some ⟨w.heap.size, 0, none⟩) 3 m3 W hm (by decide))
  have HB := Lib.hid hb
  clear hm hb hc
  go_enter Tryd.func24, Tryd.ntmps24
  go_wp2_with fail
  try rw [hW]
  clear hW
  refine HM.out.mono ?_
  rintro e W2 ⟨v, rfl, h1, h2⟩
  have H1 := Lib.hid h1
  have H2 := Lib.hid h2
  clear h1 h2
  go_wp2_with fail
  go_ret
  exact ⟨v, rfl, Go.Proofs.YtchdamlnbmngbaaDoor.ib.row_base H1.out HB.out.size, below_step HB.out H2.out⟩
theorem c3_d : ∀ x ∈ c3, x.2.length ≤ 1000000 := fun x hx => by
  have := mdOf_len32 m3 x hx
  omega
set_option maxHeartbeats 6400000 in
theorem works_any (w : World) (ht : CTab w) : Calls Tryd.prog 13 #[] w fun e w' => e = .returned (.bool true) ∧ Below w.heap.size w w' := by
  have HT := Lib.hid ht
  clear ht
  go_enter Tryd.func13, Tryd.ntmps13
  go_wp2_with fail
  refine (sguid_any 1 1 _).mono ?_
  rintro e W1 ⟨rfl, c1⟩
  have HB1 := Lib.hid c1
  clear c1
  go_wp2_with fail
  refine (sguid_any 1 2 _).mono ?_
  rintro e W2 ⟨rfl, c2⟩
  have HB2 := Lib.hid (below_step HB1.out c2)
  clear c2 HB1
  go_wp2_with fail
  refine (three_any _).mono ?_
  rintro e W3 ⟨v, rfl, h1, c3'⟩
  have HB3 := Lib.hid (below_step HB2.out c3')
  obtain ⟨A, cp, rfl, k1, k2, k3, k4⟩ := ochs_cut h1 c3_b
  have HC := Lib.hid (cut_any (1, 1) (1, 2) A cp c3 0 W3 ⟨by decide, by decide⟩ ⟨by decide, by decide⟩ k1 (by decide) k2 k3 c3_d ⟨by decide, by decide⟩)
  rw [cut0] at HC
  clear h1 c3' k1 k2 k3 k4 HB2
  go_wp2_with fail
  refine HC.out.mono ?_
  rintro e W4 ⟨A1, d1, rfl, hq5, _, cq⟩
  have HBc := Lib.hid (below_step HB3.out cq)
  have hlit : paC P0 A1 d1 = #[.int .u64 1, .int .u64 1, .int .u64 1, .int .u64 2, .int .i64 0, .int .i64 3, .slice A1 2 d1] := rfl
  rw [hlit]
  have cb := (Below.refl W4.heap.size W4).alloc (Nat.le_refl _) (.cells #[.int .u64 1, .int .u64 1, .int .u64 1, .int .u64 2, .int .i64 0, .int .i64 3, .slice A1 2 d1] 30)
  have kb := Blk.new W4 30 #[.int .u64 1, .int .u64 1, .int .u64 1, .int .u64 2, .int .i64 0, .int .i64 3, .slice A1 2 d1]
  obtain ⟨W5, hWn⟩ : ∃ z, W4.alloc (.cells #[.int .u64 1, .int .u64 1, .int .u64 1, .int .u64 2, .int .i64 0, .int .i64 3, .slice A1 2 d1] 30) = z := ⟨_, rfl⟩
  rw [hWn] at cb kb
  obtain ⟨g1, hg⟩ : ∃ z, W4.heap.size = z := ⟨_, rfl⟩
  have HWn := Lib.hid hWn
  have HGn := Lib.hid hg
  have HB5 := Lib.hid (below_step HBc.out cb)
  have HQ5 := Lib.hid (hq5.below cb)
  rw [hg] at kb
  have HK5 := Lib.hid kb
  clear hlit cq cb kb hWn hg hq5 HBc HC HB3
  go_upto_region 2 with fail
  try rw [HWn.out]
  try rw [HGn.out]
  clear HWn HGn
  go_wp2_with fail
  refine (sguid_any 1 1 _).mono ?_
  rintro e W6 ⟨rfl, c6⟩
  have HB6 := Lib.hid (below_step HB5.out c6)
  have HQ6 := Lib.hid (HQ5.out.below c6)
  have HK6 := Lib.hid (HK5.out.below c6)
  clear c6 HB5 HQ5 HK5
  go_wp2_with fail
  refine (sguid_any 1 2 _).mono ?_
  rintro e W7 ⟨rfl, c7⟩
  have HB7 := Lib.hid (below_step HB6.out c7)
  have HQ7 := Lib.hid (HQ6.out.below c7)
  have HK7 := Lib.hid (HK6.out.below c7)
  clear c7 HB6 HQ6 HK6
  go_wp2_with fail
  refine (three_any _).mono ?_
  rintro e W8 ⟨v, rfl, h1, c8⟩
  have HB8 := Lib.hid (below_step HB7.out c8)
  have HQ8 := Lib.hid (HQ7.out.below c8)
  have HK8 := Lib.hid (HK7.out.below c8)
  obtain ⟨A', cp', rfl, k1, k2, k3, k4⟩ := ochs_cut h1 c3_b
  have HC := Lib.hid (cut_any (1, 1) (1, 2) A' cp' c3 2 W8 ⟨by decide, by decide⟩ ⟨by decide, by decide⟩ k1 (by decide) k2 k3 c3_d ⟨by decide, by decide⟩)
  rw [cut2] at HC
  clear h1 c8 k1 k2 k3 k4 HB7 HQ7 HK7
  go_wp2_with fail
  refine HC.out.mono ?_
  rintro e W9 ⟨A2, d2, rfl, hq10, _, cq⟩
  have HBc := Lib.hid (below_step HB8.out cq)
  have HQ8' := Lib.hid (HQ8.out.below cq)
  have HK8' := Lib.hid (HK8.out.below cq)
  have hlit : paC P2 A2 d2 = #[.int .u64 1, .int .u64 1, .int .u64 1, .int .u64 2, .int .i64 2, .int .i64 3, .slice A2 1 d2] := rfl
  rw [hlit]
  have cb := (Below.refl W9.heap.size W9).alloc (Nat.le_refl _) (.cells #[.int .u64 1, .int .u64 1, .int .u64 1, .int .u64 2, .int .i64 2, .int .i64 3, .slice A2 1 d2] 30)
  have kb := Blk.new W9 30 #[.int .u64 1, .int .u64 1, .int .u64 1, .int .u64 2, .int .i64 2, .int .i64 3, .slice A2 1 d2]
  obtain ⟨W10, hWn⟩ : ∃ z, W9.alloc (.cells #[.int .u64 1, .int .u64 1, .int .u64 1, .int .u64 2, .int .i64 2, .int .i64 3, .slice A2 1 d2] 30) = z := ⟨_, rfl⟩
  rw [hWn] at cb kb
  obtain ⟨g2, hg⟩ : ∃ z, W9.heap.size = z := ⟨_, rfl⟩
  have HWn := Lib.hid hWn
  have HGn := Lib.hid hg
  have HB10 := Lib.hid (below_step HBc.out cb)
  have HQ10 := Lib.hid (hq10.below cb)
  have HQ8_ := Lib.hid (HQ8'.out.below cb)
  clear HQ8 HQ8'
  have HK8_ := Lib.hid (HK8'.out.below cb)
  clear HK8 HK8'
  rw [hg] at kb
  have HK10 := Lib.hid kb
  clear hlit cq cb kb hWn hg hq10 HBc HC HB8
  go_upto_region 3 with fail
  try rw [HWn.out]
  try rw [HGn.out]
  clear HWn HGn
  have HT10 := Lib.hid (HT.out.below HB10.out HT.out.1)
  have HEN := Lib.hid (enc_any A2 d2 P2 W10 HQ10.out (by decide) HT10.out)
  rw [enc_of chk2, show paC P2 A2 d2 = #[.int .u64 1, .int .u64 1, .int .u64 1, .int .u64 2, .int .i64 2, .int .i64 3, .slice A2 1 d2] from rfl] at HEN
  have hk := HK10.out
  have m0 := hk.cell 0
  have m1 := hk.cell 1
  have m2 := hk.cell 2
  have m3 := hk.cell 3
  have m4 := hk.cell 4
  have m5 := hk.cell 5
  have m6 := hk.cell 6
  have ml := hk.lt
  simp only [List.getElem?_toArray, List.getElem?_cons_zero, List.getElem?_cons_succ] at m0 m1 m2 m3 m4 m5 m6
  clear hk
  go_wp2_with fail
  refine HEN.out.mono ?_
  rintro e W11 ⟨rfl, c11⟩
  have HB11 := Lib.hid (below_step HB10.out c11)
  have HT11 := Lib.hid (HT.out.below HB11.out HT.out.1)
  have HQa := Lib.hid (HQ8_.out.below c11)
  have HKa := Lib.hid (HK8_.out.below c11)
  have HQb := Lib.hid (HQ10.out.below c11)
  have HKb := Lib.hid (HK10.out.below c11)
  clear c11 HB10 HT10 HEN HQ8_ HK8_ HQ10 HK10 m0 m1 m2 m3 m4 m5 m6 ml
  have hsz : (str (sealB (pBytes P2))).size ≤ 100000 := by
    rw [str_size, sealB_length]
    have : (pBytes P2).length ≤ 1000 := by decide
    omega
  have HDE := Lib.hid (dec_any (str (sealB (pBytes P2))) W11 hsz HT11.out)
  rw [bl_str, dec_enc (p := P2) ⟨by decide, by decide⟩ ⟨by decide, by decide⟩ chk2] at HDE
  dsimp only
  obtain ⟨S, hS⟩ : ∃ z, str (sealB (pBytes P2)) = z := ⟨_, rfl⟩
  rw [hS] at HDE ⊢
  clear hsz hS
  go_wp2_with fail
  refine HDE.out.mono ?_
  rintro e W12 ⟨A3, d3, rfl, hq12, _, c12⟩
  have HB12 := Lib.hid (below_step HB11.out c12)
  have HQa2 := Lib.hid (HQa.out.below c12)
  have HKa2 := Lib.hid (HKa.out.below c12)
  have HQb2 := Lib.hid (HQb.out.below c12)
  have HKb2 := Lib.hid (HKb.out.below c12)
  rw [show paC P2 A3 d3 = #[.int .u64 1, .int .u64 1, .int .u64 1, .int .u64 2, .int .i64 2, .int .i64 3, .slice A3 1 d3] from rfl]
  have cb := (Below.refl W12.heap.size W12).alloc (Nat.le_refl _) (.cells #[.int .u64 1, .int .u64 1, .int .u64 1, .int .u64 2, .int .i64 2, .int .i64 3, .slice A3 1 d3] 30)
  have kb := Blk.new W12 30 #[.int .u64 1, .int .u64 1, .int .u64 1, .int .u64 2, .int .i64 2, .int .i64 3, .slice A3 1 d3]
  obtain ⟨W13, hWn⟩ : ∃ z, W12.alloc (.cells #[.int .u64 1, .int .u64 1, .int .u64 1, .int .u64 2, .int .i64 2, .int .i64 3, .slice A3 1 d3] 30) = z := ⟨_, rfl⟩
  rw [hWn] at cb kb
  obtain ⟨g3, hg⟩ : ∃ z, W12.heap.size = z := ⟨_, rfl⟩
  have HWn := Lib.hid hWn
  have HGn := Lib.hid hg
  have HB13 := Lib.hid (below_step HB12.out cb)
  have HQa3 := Lib.hid (HQa2.out.below cb)
  have HKa3 := Lib.hid (HKa2.out.below cb)
  have HQb3 := Lib.hid (HQb2.out.below cb)
  have HKb3 := Lib.hid (HKb2.out.below cb)
  have HQc3 := Lib.hid (hq12.below cb)
  rw [hg] at kb
  have HKc3 := Lib.hid kb
  clear c12 cb kb hWn hg hq12 HDE HB11 HT11 HB12 HQa HKa HQb HKb HQa2 HKa2 HQb2 HKb2
  go_upto_region 5 with fail
  try rw [HWn.out]
  try rw [HGn.out]
  clear HWn HGn
  have ah := HKa3.out
  have a0 := ah.cell 0
  have a1 := ah.cell 1
  have a2 := ah.cell 2
  have a3 := ah.cell 3
  have a4 := ah.cell 4
  have a5 := ah.cell 5
  have a6 := ah.cell 6
  have al := ah.lt
  have bh := HKb3.out
  have b0 := bh.cell 0
  have b1 := bh.cell 1
  have b2 := bh.cell 2
  have b3 := bh.cell 3
  have b4 := bh.cell 4
  have b5 := bh.cell 5
  have b6 := bh.cell 6
  have bl := bh.lt
  have ch := HKc3.out
  have c0 := ch.cell 0
  have c1 := ch.cell 1
  have c2 := ch.cell 2
  have c3 := ch.cell 3
  have c4 := ch.cell 4
  have c5 := ch.cell 5
  have c6 := ch.cell 6
  have cl := ch.lt
  simp only [List.getElem?_toArray, List.getElem?_cons_zero, List.getElem?_cons_succ] at a0 a1 a2 a3 a4 a5 a6 b0 b1 b2 b3 b4 b5 b6 c0 c1 c2 c3 c4 c5 c6
  clear ah bh ch
  have HSA := Lib.hid (same_any A2 A3 d2 d3 P2 P2 W13 HQb3.out HQc3.out (by decide) (by decide))
  rw [show paC P2 A2 d2 = #[.int .u64 1, .int .u64 1, .int .u64 1, .int .u64 2, .int .i64 2, .int .i64 3, .slice A2 1 d2] from rfl, show paC P2 A3 d3 = #[.int .u64 1, .int .u64 1, .int .u64 1, .int .u64 2, .int .i64 2, .int .i64 3, .slice A3 1 d3] from rfl, decide_eq_true (rfl : P2 = P2)] at HSA
  go_wp2_with fail
  refine HSA.out.mono ?_
  rintro e W14 ⟨rfl, c14⟩
  have HB14 := Lib.hid (below_step HB13.out c14)
  have HQa4 := Lib.hid (HQa3.out.below c14)
  have ah := HKa3.out.below c14
  clear a0 a1 a2 a3 a4 a5 a6 b0 b1 b2 b3 b4 b5 b6 c0 c1 c2 c3 c4 c5 c6 al bl cl
  have a0 := ah.cell 0
  have a1 := ah.cell 1
  have a2 := ah.cell 2
  have a3 := ah.cell 3
  have a4 := ah.cell 4
  have a5 := ah.cell 5
  have a6 := ah.cell 6
  have al := ah.lt
  simp only [List.getElem?_toArray, List.getElem?_cons_zero, List.getElem?_cons_succ] at a0 a1 a2 a3 a4 a5 a6
  have HCK := Lib.hid (check_any A1 d1 P0 W14 HQa4.out (by decide))
  rw [show paC P0 A1 d1 = #[.int .u64 1, .int .u64 1, .int .u64 1, .int .u64 2, .int .i64 0, .int .i64 3, .slice A1 2 d1] from rfl, chk0] at HCK
  clear ah HSA HB13 HQa3 HKa3 HQb3 HKb3 HQc3 HKc3 c14
  go_wp2_with fail
  refine HCK.out.mono ?_
  rintro e W15 ⟨rfl, c15⟩
  have HB15 := Lib.hid (below_step HB14.out c15)
  clear c15 HCK a0 a1 a2 a3 a4 a5 a6 al
  go_wp2_with fail
  go_ret
  exact ⟨rfl, HB15.out⟩
end Go.Proofs.YtchdamlnbmngbaaDoor.st

/- What the document's own calls that lay numbers and texts as bytes do: PutNum and PutText of package stemmaref01. -/
namespace Go.Proofs.YtchdamlnbmngbaaDoor.wi
open Go.RowKit
set_option maxRecDepth 100000

def RefRel (n0 : Nat) (w : World) (n b : Value) (wr : World) : Prop :=
  ∃ (m : Nat) (L : List UInt8), n = .int .u64 (m : Int) ∧ m < 18446744073709551616 ∧ digs n0 = digs m ++ L ∧
    wr.ownsRow w.heap.size 5 1 b L.length (Lib.byteCells L) ∧ Below w.heap.size w wr

theorem conv_row (L : List UInt8) (v : Value) (B : Nat) (wr : World) (h : wr.ownsRow B 5 1 v L.length (Lib.byteCells L)) :
    (convert 61 9 v).run Tryd.prog wr = .ok (.string (str L)) wr := by
  rcases h.2 with ⟨rfl, hn⟩ | ⟨g, cap, cur, rfl, _⟩
  · have : L = [] := List.length_eq_zero_iff.1 hn
    subst this
    exact run_convert_bytes_nil (P := Tryd.prog) wr 61 5 Tryd.underlying61 Tryd.underlying5 0 0 9 Tryd.underlying9
  · refine run_convert_bytes_back (P := Tryd.prog) wr 61 9 5 ⟨g, 0, none⟩ cap L Tryd.underlying61 Tryd.underlying5 Tryd.underlying9 ?_
    intro j hj
    have := h.cellAt j (by omega)
    rw [addr_add, Nat.zero_add, this]
    simp [Lib.byteCells, List.getElem?_eq_getElem hj]

theorem add_str (a b : ByteArray) (h : a.size + b.size ≤ 9223372036854775807) (w : World) : (Op.stringOp .add a b).run Tryd.prog w = .ok (.string (str (bl a ++ bl b))) w := by
  rw [run_string_add_sum (P := Tryd.prog) w a b h]
  obtain ⟨⟨x⟩⟩ := a
  obtain ⟨⟨y⟩⟩ := b
  congr 2

theorem row_form {B : Nat} {wr : World} {v : Value} {L : List UInt8} (h : wr.ownsRow B 5 1 v L.length (Lib.byteCells L)) : ∃ a c, v = .slice a L.length c := by
  rcases h.2 with ⟨rfl, hn⟩ | ⟨g, cap, cur, rfl, _⟩
  · exact ⟨none, 0, by rw [hn]⟩
  · exact ⟨_, _, rfl⟩

set_option maxHeartbeats 400000 in
theorem refPutNum_any (s : ByteArray) (n : Nat) (w : World) (h1 : n < 18446744073709551616) (hs : s.size ≤ 140737488355000) :
    Calls Tryd.prog 47 #[.string s, .int .u64 (n : Int)] w (okPutNum s n w) := by
  have hl := digs_len n
  obtain ⟨i0, hi, hz0, hz1, hz2⟩ := info_parts Tryd.info5
  have hbl := bl_len s
  have Hbl := Lib.hid hbl
  clear hbl
  go_enter Tryd.func47, Tryd.ntmps47
  go_wp2
  go_loopw [1, 5] (fun n' b wr => RefRel n w n' b wr) (fun n' _ _ => (intOf n').toNat)
  case atStart => exact ⟨n, [], rfl, h1, by simp, World.ownsRow_nil _ _ _ _, Below.refl _ _⟩
  case round =>
    obtain ⟨m, L, rfl, hm, hd, hown, hB⟩ := hrel
    by_cases h0 : m = 0
    · subst h0
      have hL : digs n = L := by simpa [digs_zero] using hd
      subst hL
      clear hd
      have hcv := conv_row (digs n) _ _ _ (hown.alloc (.cells #[.int .u8 ((digs n).length : Int)] 5))
      have hc1 := conv1 (digs n).length (by omega) wr
      have ha1 := add_str s (str [UInt8.ofNat (digs n).length]) (by rw [str_size]; simp; omega)
      have ha2 := add_str (str (bl s ++ bl (str [UInt8.ofNat (digs n).length]))) (str (digs n)) (by rw [str_size, str_size]; have := Hbl.out; simp [bl_str]; omega)
      rw [bl_str, bl_str, bl_str] at ha2
      rw [bl_str] at ha1
      obtain ⟨a, c, rfl⟩ := row_form hown
      clear hi hz0 hz1 hz2
      go_wp2
      go_ret
      exact ⟨rfl, below_new hB _⟩
    · have hpos : (0 : Int) < (m : Int) := by omega
      have hdp := digs_pos m h0 hm
      have hD : digs n = digs (m / 256) ++ (UInt8.ofNat (m % 256) :: L) := by rw [hd, hdp]; simp
      have hLl : L.length ≤ 8 := by have := congrArg List.length hd; simp at this; omega
      have hm1 : m / 256 < 18446744073709551616 := by omega
      have hz : (UInt8.ofNat (m % 256)).toNat = m % 256 := ofNat_small _ (by omega)
      have hdst : (wr.alloc (.cells #[.int .u8 ((m : Int) % 256)] 5)).ownsRow w.heap.size 5 1 (.slice (some ⟨wr.heap.size, 0, none⟩) 1 1) 1 [.int .u8 ((m : Int) % 256)] :=
        World.ownsRow_lit wr #[.int .u8 ((m : Int) % 256)] 1 hB.size (by unfold maxLen; omega) (by simp)
      have hcat : Value.int .u8 ((m : Int) % 256) :: Lib.byteCells L = Lib.byteCells (UInt8.ofNat (m % 256) :: L) := by
        simp [Lib.byteCells, hz]
      have Hcat := Lib.hid hcat
      have HD := Lib.hid hD
      have hbn := below_new hB (.cells #[.int .u8 ((m : Int) % 256)] 5)
      clear hcat hD hd hdp hz
      rcases hown.2 with ⟨rfl, hn⟩ | ⟨g, cap, cur, rfl, hrest⟩
      · have : L = [] := List.length_eq_zero_iff.1 hn
        subst this
        clear hown hn
        go_wp2
        exact ⟨⟨m / 256, [UInt8.ofNat (m % 256)], rfl, hm1, HD.out, by rw [← Hcat.out]; exact hdst, hbn⟩, by simp [intOf]; omega⟩
      · have hnews : ∀ j u, (Lib.byteCells L)[j]? = some u → (wr.alloc (.cells #[.int .u8 ((m : Int) % 256)] 5)).cell? ((⟨g, 0, none⟩ : Addr).add j) = some u :=
          (hown.alloc _).cells rfl
        have h1c : ∀ u ∈ Lib.byteCells L, u.oneCell' = true := by
          intro u hu
          obtain ⟨x, _, rfl⟩ := List.mem_map.1 hu
          rfl
        have hlen := Lib.byteCells_length L
        have Hnews := Lib.hid hnews
        have Hlen := Lib.hid hlen
        have H1c := Lib.hid h1c
        clear hnews hlen h1c hrest hown
        go_wp2_with (at_builtin; refine wpList_append_own _ rfl _ _ 61 rfl w.heap.size 5 i0 (.int .u8 0) 1 1 Tryd.underlying61 hi hz0 hz1 hz2 rfl (by decide) _ 1 _ rfl hdst ⟨g, 0, none⟩ L.length cap (Lib.byteCells L) rfl ?_ Hnews.out H1c.out ?_ ?_ hbn.size ?_)
        · rw [Hlen.out]; omega
        · unfold maxLen; omega
        · omega
        · intro v' w1 hown1 hgrow _
          rw [Hcat.out, show 1 + L.length = (UInt8.ofNat (m % 256) :: L).length from by simp; omega] at hown1
          have hb1 := hbn.grown hgrow hbn.size (fun j hj => by simp [Value.ownBlock] at hj; have := hB.size; omega)
          have Hown1 := Lib.hid hown1
          clear hown1 hgrow hdst
          go_wp2
          exact ⟨⟨m / 256, _, rfl, hm1, HD.out, Hown1.out, hb1⟩, by simp [intOf]; omega⟩

end Go.Proofs.YtchdamlnbmngbaaDoor.wi

/- What the document's own PutText does. -/
namespace Go.Proofs.YtchdamlnbmngbaaDoor.wi
open Go.RowKit
set_option maxRecDepth 100000

theorem refPutText_any (s t : ByteArray) (w : World) (hs : s.size ≤ 70368744177000) (ht : t.size ≤ 70368744177000) :
    Calls Tryd.prog 48 #[.string s, .string t] w (okPutText s t w) := by
  have hl := digs_len t.size
  have hbs := bl_len s
  have hbl := bl_len t
  have ha1 := add_str (str (bl s ++ numB t.size)) t (by rw [str_size]; simp [numB]; omega)
  rw [bl_str] at ha1
  have Hbl := Lib.hid hbl
  clear hbl hbs
  go_enter Tryd.func48, Tryd.ntmps48
  go_wp2_with (go_at_call 47; refine (refPutNum_any s t.size _ (by omega) (by omega)).mono ?_)
  rintro e W1 ⟨rfl, b1⟩
  go_wp2
  go_ret
  exact ⟨by rw [textB, Hbl.out]; simp, b1⟩

end Go.Proofs.YtchdamlnbmngbaaDoor.wi

/- What the document's own sum does. -/
namespace Go.Proofs.YtchdamlnbmngbaaDoor
open Go.RowKit
set_option maxRecDepth 100000

theorem bsteps_succ (k n : Nat) : bsteps (k + 1) n = bstep (bsteps k n) := bsteps_add 1 k n

/-- In a round over the eight bits. -/
def RBitRel (s : ByteArray) (x k : Nat) (n j : Value) : Prop :=
  ∃ i : Nat, i ≤ 8 ∧ j = .int .i64 (i : Int) ∧ n = .int .u32 (bsteps i x : Int) ∧ k < s.size

/-- In a round over the bytes. -/
def RSumRel (s : ByteArray) (n i : Value) : Prop :=
  ∃ k : Nat, k ≤ s.size ∧ i = .int .i64 (k : Int) ∧ n = .int .u32 (crcF 4294967295 ((bl s).take k) : Int)

theorem and_one (m : Nat) (hm : m < 4294967296) : bits .and .u32 (m : Int) 1 = ((m % 2 : Nat) : Int) := by
  rw [show (1 : Int) = ((1 : Nat) : Int) from rfl, u32_and_nat _ _ hm (by omega), nat_mask1]

set_option maxHeartbeats 800000 in
theorem rsum_any (s : ByteArray) (w : World) (hs : s.size ≤ 9223372036854775807) :
    Calls Tryd.prog 69 #[.string s] w fun e w' => e = .returned (.int .u32 (crcSum (bl s) : Int)) ∧ w = w' := by
  go_enter Tryd.func69, Tryd.ntmps69
  go_wp2
  go_loop [3, 4] (fun n i => RSumRel s n i) (fun _ i => s.size - (intOf i).toNat)
  case atStart => exact ⟨0, Nat.zero_le _, rfl, rfl⟩
  case round =>
    obtain ⟨k, hk, rfl, rfl⟩ := hrel
    have hn := crcF_lt ((bl s).take k) 4294967295 (by omega)
    by_cases hlt : k < s.size
    · have hb := u8_lt s[k]
      have hx : bits .xor .u32 (crcF 4294967295 ((bl s).take k) : Int) (s[k].toNat : Int) = ((crcF 4294967295 ((bl s).take k) ^^^ s[k].toNat : Nat) : Int) := u32_xor_nat _ _ hn (by omega)
      have hst : crcF 4294967295 ((bl s).take (k + 1)) = bsteps 8 (crcF 4294967295 ((bl s).take k) ^^^ s[k].toNat) := by
        rw [ctake_snoc s k hlt, crcF_snoc]; rfl
      have hxl := xor_byte_lt _ s[k] hn
      have Hst := Lib.hid hst
      clear hst
      go_wp2
      generalize (crcF 4294967295 ((bl s).take k) ^^^ s[k].toNat) = x at *
      clear hx
      go_loop [3, 5] (fun n j => RBitRel s x k n j) (fun _ j => 8 - (intOf j).toNat)
      case atStart => exact ⟨0, by omega, rfl, rfl, hlt⟩
      case round =>
        obtain ⟨i, hi, rfl, rfl, _⟩ := hrel
        by_cases hlt8 : i < 8
        · have hm := bsteps_lt i x hxl
          have ha := and_one _ hm
          have hsu := bsteps_succ i x
          have hsb := bstep_eq (bsteps i x)
          rw [← hsu] at hsb
          have Hsb := Lib.hid hsb
          clear hsu hsb
          rcases (show bsteps i x % 2 = 1 ∨ bsteps i x % 2 = 0 from by omega) with h2 | h2
          · rw [h2] at ha
            have hx2 : bits .xor .u32 ((bsteps i x : Int) / 2) 3988292384 = ((bsteps (i + 1) x : Nat) : Int) := by
              rw [Hsb.out, if_pos h2, show (bsteps i x : Int) / 2 = ((bsteps i x / 2 : Nat) : Int) from by omega, show (3988292384 : Int) = ((3988292384 : Nat) : Int) from rfl, u32_xor_nat _ _ (by omega) (by omega)]
            clear h2
            go_wp2
            go_round
            case rel => exact ⟨i + 1, by omega, by go_num, rfl, hlt⟩
            case measure => simp [intOf]; omega
          · rw [h2] at ha
            have hx2 : ((bsteps (i + 1) x : Nat) : Int) = (bsteps i x : Int) / 2 := by
              rw [Hsb.out, if_neg (by omega)]; simp
            have Hx2 := Lib.hid hx2
            clear h2 hx2
            go_wp2
            go_round
            case rel => exact ⟨i + 1, by omega, by go_num, by rw [Hx2.out], hlt⟩
            case measure => simp [intOf]; omega
        · have hi8 : i = 8 := by omega
          have H8 := Lib.hid hi8
          clear hi8
          go_wp2
          go_round
          case rel => exact ⟨k + 1, by omega, by go_num, by rw [Hst.out, H8.out]⟩
          case measure => simp [intOf]; omega
    · have hk' : k = s.size := by omega
      subst hk'
      rw [List.take_of_length_le (by rw [bl_len]; omega)] at *
      have hx : bits .xor .u32 (crcF 4294967295 (bl s) : Int) 4294967295 = (crcSum (bl s) : Int) := by
        rw [show (4294967295 : Int) = ((4294967295 : Nat) : Int) from rfl, u32_xor_nat _ _ hn (by omega)]; rfl
      go_wp2
      go_ret
      exact ⟨rfl, rfl⟩

end Go.Proofs.YtchdamlnbmngbaaDoor

/- What the document's own seal does. -/
namespace Go.Proofs.YtchdamlnbmngbaaDoor
open Go.RowKit
set_option maxRecDepth 100000

set_option maxHeartbeats 400000 in
theorem rbytes_any (n : Nat) (w : World) (hn : n < 4294967296) :
    Calls Tryd.prog 68 #[.int .u32 (n : Int)] w (okStr (str (be4 n)) w) := by
  have hcv := conv4 n hn w
  go_enter Tryd.func68, Tryd.ntmps68
  go_wp2
  go_ret
  exact ⟨rfl, below_new (Below.refl _ _) _⟩

set_option maxHeartbeats 400000 in
theorem rseal_any (s : ByteArray) (w : World) (hs : s.size ≤ 9223372036854775000) :
    Calls Tryd.prog 49 #[.string s] w (okStr (str (sealB (bl s))) w) := by
  have hn := crcSum_lt (bl s)
  have hz : (str (be4 (crcSum (bl s)))).size = 4 := rfl
  have Hz := Lib.hid hz
  have hap : s ++ str (be4 (crcSum (bl s))) = str (sealB (bl s)) := str_append _ _
  have Hap := Lib.hid hap
  clear hz hap
  go_enter Tryd.func49, Tryd.ntmps49
  go_wp2_with (go_at_call 69; refine (rsum_any s _ (by omega)).mono ?_; rintro e w' ⟨rfl, rfl⟩)
  refine (rbytes_any _ _ hn).mono ?_
  rintro e W2 ⟨rfl, b2⟩
  generalize str (be4 (crcSum (bl s))) = t at *
  have hz := Hz.out
  go_wp2
  go_ret
  exact ⟨by rw [← Hap.out]; rfl, b2⟩

end Go.Proofs.YtchdamlnbmngbaaDoor

/- A part's bytes: the document's Encode. -/
namespace Go.Proofs.YtchdamlnbmngbaaDoor.st
open Go Go.RowKit Go.Sort Go.Proofs.YtchdamlnbmngbaaDoor.ib Go.Proofs.YtchdamlnbmngbaaDoor.wi Go.Proofs.YtchdamlnbmngbaaDoor.mt
open Go.Proofs.YtchdamlnbmngbaaDoor.ch (ChL OChs chVals infoCh)
set_option maxRecDepth 100000

theorem rmixed : Tryd.prog.follows .mixedOrders = true := by kernel_rfl
def nums7 (p : Pa) : List Nat := [p.base.1, p.base.2, p.target.1, p.target.2, p.fr.toNat, p.all.toNat, p.chs.length]
def u64s (l : List Nat) : Array Value := (l.map fun (n : Nat) => Value.int .u64 (n : Int)).toArray
theorem u64s_at (l : List Nat) (k : Nat) (h : k < l.length) : (u64s l)[k]? = some (.int .u64 (l[k] : Int)) := by
  unfold u64s
  rw [List.getElem?_toArray, List.getElem?_map, List.getElem?_eq_getElem h]
  rfl
def numsB (l : List Nat) : List UInt8 := l.flatMap numB
theorem nums7_head (p : Pa) : numsB (nums7 p) = headB p := by
  unfold numsB nums7 headB gdBs intB
  simp
theorem numB9 (n : Nat) : (numB n).length ≤ 9 := by
  have := digs_len n
  simp [numB]
  omega
theorem numsB_len : ∀ l : List Nat, (numsB l).length ≤ 9 * l.length
  | [] => by simp [numsB]
  | n :: r => by
    have := numsB_len r
    have := numB9 n
    show (numB n ++ numsB r).length ≤ 9 * (r.length + 1)
    rw [List.length_append]
    omega
theorem numsB_snoc (l : List Nat) (k : Nat) (h : k < l.length) : numsB (l.take (k + 1)) = numsB (l.take k) ++ numB l[k] := by
  unfold numsB
  rw [List.take_succ_eq_append_getElem h, List.flatMap_append]
  simp
theorem chsB_snoc (l : List Ch) (k : Nat) (h : k < l.length) : chsB (l.take (k + 1)) = chsB (l.take k) ++ chB l[k] := by
  unfold chsB
  rw [List.take_succ_eq_append_getElem h, List.flatMap_append]
  simp
theorem chsB_len : ∀ l : List Ch, (∀ c ∈ l, c.2.length = 32) → (chsB l).length ≤ 50 * l.length
  | [], _ => by simp [chsB]
  | c :: r, h => by
    have := chsB_len r (fun x hx => h x (by simp [hx]))
    have h1 := numB9 c.1.toNat
    have h2 := numB9 c.2.length
    have h3 := h c (by simp)
    show (chB c ++ chsB r).length ≤ 50 * (r.length + 1)
    unfold chB intB textB
    simp only [List.length_append]
    omega
def R1 (w : World) (p : Pa) (gp g : Nat) (A : Option Addr) (cp : Nat) (s i : Value) (wr : World) : Prop :=
  ∃ k : Nat, k ≤ 7 ∧ s = .string (str (numsB ((nums7 p).take k))) ∧ i = .int .i64 (k : Int) ∧ Below w.heap.size w wr ∧ Blk wr gp 30 (paC p A cp) ∧ Blk wr g 22 (u64s (nums7 p))
def R2 (w : World) (p : Pa) (gp : Nat) (A : Option Addr) (cp : Nat) (s i : Value) (wr : World) : Prop :=
  ∃ k : Nat, k ≤ p.chs.length ∧ s = .string (str (headB p ++ chsB (p.chs.take k))) ∧ i = .int .i64 (k : Int) ∧ Below w.heap.size w wr ∧ Blk wr gp 30 (paC p A cp)

set_option maxHeartbeats 6400000 in
theorem renc_any (A : Option Addr) (cp : Nat) (p : Pa) (w : World) (h : PaL w A cp p) (hs : p.chs.length ≤ 1000) : Calls Tryd.prog 16 #[.agg (paC p A cp)] w (endS (pEnc p) w) := by
  have hb := (Below.refl w.heap.size w).alloc (Nat.le_refl _) (.cells (paC p A cp) 30)
  have ha := Blk.new w 30 (paC p A cp)
  obtain ⟨W, hW⟩ : ∃ z, w.alloc (.cells (paC p A cp) 30) = z := ⟨_, rfl⟩
  rw [hW] at hb ha
  obtain ⟨gp, hgp⟩ : ∃ z, w.heap.size = z := ⟨_, rfl⟩
  rw [hgp] at ha
  have HP := Lib.hid (h.below hb)
  have HB := Lib.hid hb
  have HA := Lib.hid ha
  have hl := ha.lt
  have a0 := ha.cell 0
  have a1 := ha.cell 1
  have a2 := ha.cell 2
  have a3 := ha.cell 3
  have a4 := ha.cell 4
  have a5 := ha.cell 5
  have a6 := ha.cell 6
  simp only [paC, List.getElem?_toArray, List.getElem?_cons_zero, List.getElem?_cons_succ] at a0 a1 a2 a3 a4 a5 a6
  have HCK := Lib.hid (rcheck_any A cp p W HP.out hs)
  have HA0 := Lib.hid h.chs
  have HGB := Lib.hid h.base
  have HGT := Lib.hid h.target
  have HE : Hid (pEnc p = if pCheck p ≠ 0 then ([], 2) else (sealB (pBytes p), 0)) := rfl
  have h2 := check_two p
  have HOK := Lib.hid (fun e => check_ok (p := p) e)
  have HGP := Lib.hid hgp
  clear h hb ha hs hgp
  obtain ⟨E, hE⟩ : ∃ z, pEnc p = z := ⟨_, rfl⟩
  obtain ⟨K, hK⟩ : ∃ z, pCheck p = z := ⟨_, rfl⟩
  rw [hE] at HE ⊢
  rw [hK] at HE HCK h2 HOK
  clear hE hK
  unfold paC at hW HCK
  unfold paC
  go_enter Tryd.func16, Tryd.ntmps16
  go_upto_region 1 with fail
  try rw [hW]
  clear hW
  rw [HGP.out]
  clear HGP
  go_wp2_with fail
  refine HCK.out.mono ?_
  rintro e W1 ⟨rfl, c1⟩
  have HB1 := Lib.hid (below_step HB.out c1)
  have HA1 := Lib.hid (HA.out.below c1)
  clear c1 HP HB HA HCK a0 a1 a2 a3 a4 a5 a6 hl
  rcases h2 with rfl | rfl
  · have hok := HOK.out rfl
    have HE0 : Hid (E = (sealB (pBytes p), 0)) := HE.out
    have ha := HA1.out
    have hl := ha.lt
    have a0 := ha.cell 0
    have a1 := ha.cell 1
    have a2 := ha.cell 2
    have a3 := ha.cell 3
    have a4 := ha.cell 4
    have a5 := ha.cell 5
    have a6 := ha.cell 6
    simp only [paC, List.getElem?_toArray, List.getElem?_cons_zero, List.getElem?_cons_succ] at a0 a1 a2 a3 a4 a5 a6
    have hw1 : IntKind.u64.wrap p.fr = p.fr := by
      have h1 := hok.fr
      have h2 := hok.all
      simp only [IntKind.wrap, IntKind.bits, IntKind.signed]
      simp
      omega
    have hw2 : IntKind.u64.wrap p.all = p.all := by
      have h2 := hok.all
      simp only [IntKind.wrap, IntKind.bits, IntKind.signed]
      simp
      omega
    have hw3 : IntKind.u64.wrap (p.chs.length : Int) = (p.chs.length : Int) := by
      have h2 := hok.few
      simp only [IntKind.wrap, IntKind.bits, IntKind.signed]
      simp
      omega
    have HOK2 := Lib.hid hok
    clear HE HOK ha hok
    have hcs : (#[Value.int .u64 (p.base.1 : Int), .int .u64 (p.base.2 : Int), .int .u64 (p.target.1 : Int), .int .u64 (p.target.2 : Int), .int .u64 p.fr, .int .u64 p.all, .int .u64 (p.chs.length : Int)] : Array Value) = u64s (nums7 p) := by
      have e1 : ((p.fr.toNat : Nat) : Int) = p.fr := Int.toNat_of_nonneg HOK2.out.fr.1
      have e2 : ((p.all.toNat : Nat) : Int) = p.all := Int.toNat_of_nonneg HOK2.out.all.1
      show _ = #[Value.int .u64 (p.base.1 : Int), .int .u64 (p.base.2 : Int), .int .u64 (p.target.1 : Int), .int .u64 (p.target.2 : Int), .int .u64 ((p.fr.toNat : Nat) : Int), .int .u64 ((p.all.toNat : Nat) : Int), .int .u64 (p.chs.length : Int)]
      rw [e1, e2]
    have HCS := Lib.hid hcs
    clear hcs
    go_wp2_with fail
    clear hw1 hw2 hw3 a0 a1 a2 a3 a4 a5 a6 hl
    rw [HCS.out]
    obtain ⟨W2, hW2⟩ : ∃ z, W1.alloc (.cells (u64s (nums7 p)) 22) = z := ⟨_, rfl⟩
    have c2 : Below W1.heap.size W1 W2 := by rw [← hW2]; exact (Below.refl _ _).alloc (Nat.le_refl _) _
    have hU : Blk W2 W1.heap.size 22 (u64s (nums7 p)) := by rw [← hW2]; exact Blk.new _ _ _
    rw [hW2]
    obtain ⟨g, hg⟩ : ∃ z, W1.heap.size = z := ⟨_, rfl⟩
    rw [hg] at hU ⊢
    have HU := Lib.hid hU
    have HB2 := Lib.hid (below_step HB1.out c2)
    have HA2 := Lib.hid (HA1.out.below c2)
    clear hW2 c2 hU hg HB1 HA1 HCS
    go_loopw [6, 7] (fun s i wr => R1 w p gp g A cp s i wr) (fun _ i _ => 7 - (intOf i).toNat)
    case atStart => exact ⟨0, by omega, rfl, rfl, HB2.out, HA2.out, HU.out⟩
    case round =>
      clear HU HB2 HA2
      obtain ⟨k, hk, rfl, rfl, hb, hA, hU⟩ := hrel
      have HB := Lib.hid hb
      have HA := Lib.hid hA
      have HU := Lib.hid hU
      clear hb hA
      by_cases hlt : k < 7
      · have hki : (k : Int) < 7 := by omega
        have hkl : k < (nums7 p).length := hlt
        have g0 := hU.cell k
        rw [u64s_at _ _ hkl] at g0
        have gl := hU.lt
        have hsn := numsB_snoc (nums7 p) k hkl
        have hln := numsB_len ((nums7 p).take k)
        have hu : (nums7 p)[k] < 18446744073709551616 := by
          have h1 := HGB.out
          have h2 := HGT.out
          have h3 := HOK2.out.fr
          have h4 := HOK2.out.all
          have h5 := HOK2.out.few
          have hm : ∀ x ∈ nums7 p, x < 18446744073709551616 := by
            intro x hx
            simp only [nums7, List.mem_cons, List.not_mem_nil, or_false] at hx
            rcases hx with rfl | rfl | rfl | rfl | rfl | rfl | rfl
            · exact h1.1
            · exact h1.2
            · exact h2.1
            · exact h2.2
            · omega
            · omega
            · omega
          exact hm _ (List.getElem_mem hkl)
        have HSN := Lib.hid hsn
        have hsz : (str (numsB ((nums7 p).take k))).size ≤ 140737488355000 := by
          rw [str_size]
          have : ((nums7 p).take k).length ≤ 7 := by rw [List.length_take]; show min k 7 ≤ 7; omega
          omega
        have HSZ := Lib.hid hsz
        have HPU := Lib.hid (refPutNum_any (str (numsB ((nums7 p).take k))) (nums7 p)[k] wr hu hsz)
        obtain ⟨u, hu'⟩ : ∃ z, (nums7 p)[k] = z := ⟨_, rfl⟩
        rw [hu'] at g0 HPU HSN
        obtain ⟨S, hS⟩ : ∃ z, str (numsB ((nums7 p).take k)) = z := ⟨_, rfl⟩
        have HS := Lib.hid hS
        rw [hS] at HPU ⊢
        clear hU hsn hln hu hsz hu' hS hkl
        go_wp2_with fail
        refine HPU.out.mono ?_
        rintro e W3 ⟨rfl, c3⟩
        have HB3 := Lib.hid (below_step HB.out c3)
        have HA3 := Lib.hid (HA.out.below c3)
        have HU3 := Lib.hid (HU.out.below c3)
        have hnew : str (bl S ++ numB u) = str (numsB ((nums7 p).take (k + 1))) := by rw [HSN.out, ← HS.out, bl_str]
        rw [hnew]
        clear c3 hnew g0 gl HB HA HU HPU
        go_wp2_with fail
        go_roundw
        case rel => exact ⟨k + 1, by omega, rfl, by go_num, HB3.out, HA3.out, HU3.out⟩
        case measure => simp [intOf]; omega
      · have hki : ¬ (k : Int) < 7 := by omega
        obtain rfl : k = 7 := by omega
        have e7 : numsB ((nums7 p).take 7) = headB p ++ chsB (p.chs.take 0) := by
          rw [List.take_of_length_le (show (nums7 p).length ≤ 7 from Nat.le_refl _), nums7_head]
          simp [chsB]
        rw [e7]
        clear hU HU e7
        go_wp2_with fail
        go_loopw [6, 8] (fun s i wr => R2 w p gp A cp s i wr) (fun _ i _ => p.chs.length - (intOf i).toNat)
        case atStart => exact ⟨0, by omega, rfl, rfl, HB.out, HA.out⟩
        case round =>
          clear HB HA
          obtain ⟨k, hk, rfl, rfl, hb, hA⟩ := hrel
          have HB := Lib.hid hb
          have HA := Lib.hid hA
          clear hb
          have a6 := hA.cell 6
          have hpl := hA.lt
          simp only [paC, List.getElem?_toArray, List.getElem?_cons_zero, List.getElem?_cons_succ] at a6
          clear hA
          by_cases hlt : k < p.chs.length
          · have hlti : (k : Int) < (p.chs.length : Int) := by omega
            obtain ⟨b, o, rfl, hbl, hc1, hc2, hc3⟩ := HA0.out k hlt
            have e1 : wr.cell? ⟨b, o + k * 2, none⟩ = some (.int .i64 p.chs[k].1) := by rw [HB.out.cell (p := ⟨b, o + k * 2, none⟩) hbl]; exact hc1
            have e2 : wr.cell? ⟨b, o + k * 2 + 1, none⟩ = some (.string (str p.chs[k].2)) := by rw [HB.out.cell (p := ⟨b, o + k * 2 + 1, none⟩) hbl]; exact hc2
            have hcb := HOK2.out.chs p.chs[k] (List.getElem_mem hlt)
            have hsn := chsB_snoc p.chs k hlt
            have hsz : (headB p ++ chsB (p.chs.take k)).length ≤ 10000 := by
              rw [← nums7_head, List.length_append]
              have h1 := numsB_len (nums7 p)
              have h2 := chsB_len (p.chs.take k) (fun c hc => (HOK2.out.chs c (List.mem_of_mem_take hc)).2.2)
              have h3 : (p.chs.take k).length ≤ p.chs.length := by rw [List.length_take]; omega
              have h4 := HOK2.out.few
              have h5 : (nums7 p).length = 7 := rfl
              omega
            obtain ⟨x, hx⟩ : ∃ z, p.chs[k] = z := ⟨_, rfl⟩
            rw [hx] at e1 e2 hcb hsn
            clear hx hc1 hc2 hc3 hbl
            obtain ⟨x1, x2⟩ := x
            dsimp only at e1 e2 hcb
            obtain ⟨u, rfl⟩ := Int.eq_ofNat_of_zero_le hcb.1
            have hu8 : (u : Int) < 8 := hcb.2.1
            have hwr : IntKind.u64.wrap (u : Int) = (u : Int) := by
              simp only [IntKind.wrap, IntKind.bits, IntKind.signed]
              simp
              omega
            obtain ⟨L, hL⟩ : ∃ z, headB p ++ chsB (p.chs.take k) = z := ⟨_, rfl⟩
            have hnew : headB p ++ chsB (p.chs.take (k + 1)) = L ++ numB u ++ textB x2 := by
              rw [hsn, ← List.append_assoc, hL, List.append_assoc]
              rfl
            rw [hL] at hsz ⊢
            have HNEW := Lib.hid hnew
            have h9 := numB9 u
            have hPN : ∀ W, Calls Tryd.prog 47 #[.string (str L), .int .u64 (u : Int)] W (okStr (str (L ++ numB u)) W) := fun W => by
              refine (refPutNum_any (str L) u W (by omega) (by rw [str_size]; omega)).mono ?_
              rintro e w' ⟨rfl, hb⟩
              exact ⟨by rw [bl_str], hb⟩
            have hPT : ∀ W, Calls Tryd.prog 48 #[.string (str (L ++ numB u)), .string (str x2)] W (okStr (str (L ++ numB u ++ textB x2)) W) := fun W => by
              refine (refPutText_any (str (L ++ numB u)) (str x2) W (by rw [str_size, List.length_append]; omega) (by rw [str_size]; omega)).mono ?_
              rintro e w' ⟨rfl, hb⟩
              exact ⟨by rw [bl_str, bl_str], hb⟩
            obtain ⟨S0, hS0⟩ : ∃ z, str L = z := ⟨_, rfl⟩
            obtain ⟨S1, hS1⟩ : ∃ z, str (L ++ numB u) = z := ⟨_, rfl⟩
            obtain ⟨S2, hS2⟩ : ∃ z, str (L ++ numB u ++ textB x2) = z := ⟨_, rfl⟩
            obtain ⟨D, hD⟩ : ∃ z, str x2 = z := ⟨_, rfl⟩
            rw [hS0, hS1] at hPN
            rw [hS1, hS2, hD] at hPT
            rw [hD] at e2
            rw [hS0]
            have HS2 := Lib.hid hS2
            have cP : ∀ d os, Calls Tryd.prog 47 #[.string S0, .int .u64 (u : Int)] (grow (redrawn wr d) os) fun e w'' => e = .returned (.string S1) ∧ ∃ p : Regrown, w'' = grow (redrawn wr p.d) p.os := fun d os => Calls.regrown_of (hPN _)
            have cT : ∀ d os, Calls Tryd.prog 48 #[.string S1, .string D] (grow (redrawn wr d) os) fun e w'' => e = .returned (.string S2) ∧ ∃ p : Regrown, w'' = grow (redrawn wr p.d) p.os := fun d os => Calls.regrown_of (hPT _)
            clear hPN hPT hS0 hS1 hS2 hD hL hnew hsn hsz hcb h9 hu8
            go_wp2_with fail
            have cR6 : ∀ d os, (grow (redrawn wr d) os).cell? ⟨gp, 6, none⟩ = some (.slice (some ⟨b, o, none⟩) p.chs.length cp) := fun d os => cell_regrown a6 d os
            have cR1 : ∀ d os, (grow (redrawn wr d) os).cell? ⟨b, o + k * 2, none⟩ = some (.int .i64 (u : Int)) := fun d os => cell_regrown e1 d os
            have cR2 : ∀ d os, (grow (redrawn wr d) os).cell? ⟨b, o + k * 2 + 1, none⟩ = some (.string D) := fun d os => cell_regrown e2 d os
            clear a6 e1 e2
            refine wp_region_quiet_below rmixed (by kernel_rfl) ?_
            repeat (any_goals (first | go_big_quiet_step (first | exact cP _ _ | exact cT _ _) | quiet_step (first | exact cP _ _ | exact cT _ _)))
            refine wpQuiet_nil ?_
            intro _ hw'
            obtain ⟨⟨dq, osq⟩, hw''⟩ := hw'
            subst hw''
            have HB2 := Lib.hid (below_step HB.out (below_regrown wr dq osq))
            have HA2 := Lib.hid (HA.out.below (below_regrown wr dq osq))
            obtain ⟨W5, hW5⟩ : ∃ z, grow (redrawn wr dq) osq = z := ⟨_, rfl⟩
            rw [hW5] at HB2 HA2 ⊢
            rw [← HS2.out, ← HNEW.out]
            clear hW5 cP cT cR6 cR1 cR2 HB HA HS2 hwr
            have hfew := HOK2.out.few
            go_wp2_with fail
            go_roundw
            case rel => exact ⟨k + 1, by omega, rfl, by go_num, HB2.out, HA2.out⟩
            case measure => simp [intOf]; omega
          · have hlti : ¬ (k : Int) < (p.chs.length : Int) := by omega
            have ek : k = p.chs.length := by omega
            have hls : headB p ++ chsB (p.chs.take k) = pBytes p := by rw [List.take_of_length_le (by omega)]; rfl
            have hpz : (pBytes p).length ≤ 10000 := by
              rw [← hls, ← nums7_head, List.length_append]
              have h1 := numsB_len (nums7 p)
              have h2 := chsB_len (p.chs.take k) (fun c hc => (HOK2.out.chs c (List.mem_of_mem_take hc)).2.2)
              have h3 : (p.chs.take k).length ≤ p.chs.length := by rw [List.length_take]; omega
              have h4 := HOK2.out.few
              have h5 : (nums7 p).length = 7 := rfl
              omega
            rw [hls]
            have HSE := Lib.hid (rseal_any (str (pBytes p)) wr (by rw [str_size]; omega))
            clear hls hpz
            go_wp2_with fail
            refine HSE.out.mono ?_
            rintro e W4 ⟨rfl, c4⟩
            have HB4 := Lib.hid (below_step HB.out c4)
            clear c4 HSE a6 hpl
            go_wp2_with fail
            go_ret2
            rw [HE0.out]
            exact ⟨by rw [bl_str]; rfl, HB4.out⟩
  · have HE2 : Hid (E = ([], 2)) := HE.out
    clear HE HOK
    go_wp2_with fail
    go_ret2
    rw [HE2.out]
    exact ⟨rfl, HB1.out⟩
end Go.Proofs.YtchdamlnbmngbaaDoor.st

/- What the document's own reader does: OK, End. -/
namespace Go.Proofs.YtchdamlnbmngbaaDoor.wi
open Go.RowKit
set_option maxRecDepth 100000

end Go.Proofs.YtchdamlnbmngbaaDoor.wi

/- What reading a text off the document's own reader does: Text of package stemmaref01. -/
namespace Go.Proofs.YtchdamlnbmngbaaDoor.wi
open Go.RowKit
set_option maxRecDepth 100000

theorem bl_take (s : ByteArray) (n : Nat) : s.extract 0 n = str ((bl s).take n) := by
  obtain ⟨⟨l⟩⟩ := s
  apply ByteArray.ext
  simp [str, bl]

def okQText (c : Nat) (s : ByteArray) (w : World) (e : Ending) (w' : World) : Prop :=
  w.grownBy w' (some c) ∧
    ((∃ t r s', rdText (bl s) = some (t, r) ∧ e = .returned (.string (str t)) ∧ bl s' = r ∧ QAt c s' false w') ∨
     (rdText (bl s) = none ∧ e = .returned (.string (str [])) ∧ QAt c ⟨#[]⟩ true w'))

def okQTNo (c : Nat) (w : World) (e : Ending) (w' : World) : Prop :=
  w.grownBy w' (some c) ∧ e = .returned (.string (str [])) ∧ QAt c ⟨#[]⟩ true w'

set_option maxHeartbeats 800000 in
theorem q_text_bad (c : Nat) (s : ByteArray) (w : World) (h : QAt c s true w) :
    Calls Tryd.prog 57 #[.pointer (some ⟨c, 0, none⟩)] w (okQTNo c w) := by
  go_enter Tryd.func57, Tryd.ntmps57
  go_wp2_with (go_at_call 56; refine (q_bad c s _ h).mono ?_)
  rintro e w1 ⟨hg, rfl, hq⟩
  obtain ⟨h1, h2, h3, h4⟩ := hq.cells
  have Hg := Lib.hid hg
  clear hg
  go_wp2_with (go_at_call 74; refine (fail_any c ⟨#[]⟩ true _ hq).mono ?_)
  rintro e w2 ⟨rfl, hq2, hg2⟩
  have Hg2 := Lib.hid (grown_trans Hg.out hg2)
  clear hg2 h1 h2 h3 h4 hq
  go_wp2
  go_ret
  exact ⟨Hg2.out, rfl, hq2⟩

set_option maxHeartbeats 800000 in
theorem q_text (c : Nat) (s : ByteArray) (w : World) (h : QAt c s false w) :
    Calls Tryd.prog 57 #[.pointer (some ⟨c, 0, none⟩)] w (okQText c s w) := by
  go_enter Tryd.func57, Tryd.ntmps57
  go_wp2_with (go_at_call 56; refine (q_num c s _ h).mono ?_)
  rintro e w1 ⟨hg, ⟨n, r, s', hn, rfl, hr, hq⟩ | ⟨hn, rfl, hq⟩⟩
  · obtain ⟨h1, h2, h3, h4⟩ := hq.cells
    have hn64 := (rdNum_is _ n r hn).2
    have hs' := hq.2
    have hrl : r.length = s'.size := by rw [← hr, bl_len]
    by_cases hlt : s'.size < n
    · have hT : rdText (bl s) = none := by unfold rdText; rw [hn]; simp; omega
      have HT := Lib.hid hT
      have Hg := Lib.hid hg
      have hgt : (s'.size : Int) < (n : Int) := by omega
      clear hg hn hr hT hrl
      go_wp2_with (go_at_call 74; refine (fail_any c s' false _ hq).mono ?_)
      rintro e w2 ⟨rfl, hq2, hg2⟩
      have Hg2 := Lib.hid (grown_trans Hg.out hg2)
      clear hg2 h1 h2 h3 h4 hq
      go_wp2
      go_ret
      exact ⟨Hg2.out, .inr ⟨HT.out, rfl, hq2⟩⟩
    · have hT : rdText (bl s) = some (r.take n, r.drop n) := by unfold rdText; rw [hn]; simp; omega
      have HT := Lib.hid hT
      have hle : (n : Int) ≤ (s'.size : Int) := by omega
      have hx : (s'.extract n s'.size).size ≤ 1000000 := by simp; omega
      have HQ := Lib.hid (hq.set0 _ hx)
      have HG := Lib.hid (grown_trans hg (grown_set c 0 w1 (.string (s'.extract n s'.size))))
      have HE := Lib.hid (show s'.extract 0 n = str (r.take n) by rw [bl_take, hr])
      have HD := Lib.hid (show bl (s'.extract n s'.size) = r.drop n by rw [bl_extract, hr])
      clear hg hn hr hT hrl hq
      go_wp2
      go_ret
      exact ⟨HG.out, .inl ⟨_, _, _, HT.out, by rw [← HE.out]; rfl, HD.out, HQ.out⟩⟩
  · obtain ⟨h1, h2, h3, h4⟩ := hq.cells
    have hT : rdText (bl s) = none := by unfold rdText; rw [hn]
    have HT := Lib.hid hT
    have Hg := Lib.hid hg
    clear hg hn hT
    go_wp2_with (go_at_call 74; refine (fail_any c ⟨#[]⟩ true _ hq).mono ?_)
    rintro e w2 ⟨rfl, hq2, hg2⟩
    have Hg2 := Lib.hid (grown_trans Hg.out hg2)
    clear hg2 h1 h2 h3 h4 hq
    go_wp2
    go_ret
    exact ⟨Hg2.out, .inr ⟨HT.out, rfl, hq2⟩⟩
end Go.Proofs.YtchdamlnbmngbaaDoor.wi

/- What the document's own Open does. -/
namespace Go.Proofs.YtchdamlnbmngbaaDoor
open Go.RowKit Go.Sort
set_option maxRecDepth 100000

set_option maxHeartbeats 400000 in
theorem ropen_short (s : ByteArray) (w : World) (hs : s.size < 4) : Calls Tryd.prog 55 #[.string s] w (OpenIs (bl s) w) := by
  have ho : openB (bl s) = none := by unfold openB; rw [if_pos (by rw [bl_len]; exact hs)]
  have Ho := Lib.hid ho
  clear ho
  go_enter Tryd.func55, Tryd.ntmps55
  go_wp2
  go_ret2
  refine ⟨?_, Below.refl _ _⟩
  rw [Ho.out]
  rfl

set_option maxHeartbeats 400000 in
theorem ropen_4 (s : ByteArray) (w : World) (hs : 4 ≤ s.size) (hr : s.size ≤ 140737488355328) : Calls Tryd.prog 55 #[.string s] w (OpenIs (bl s) w) := by
  have hz : (s.extract 0 (s.size - 4)).size ≤ s.size := by simp
  have cS : ∀ d os, Calls Tryd.prog 69 #[.string (s.extract 0 (s.size - 4))] (grow (redrawn w d) os) fun e w'' => e = .returned (.int .u32 (crcSum (bl (s.extract 0 (s.size - 4))) : Int)) ∧ ∃ p : Regrown, w'' = grow (redrawn w p.d) p.os :=
    fun d os => (rsum_any _ _ (by omega)).mono fun _ _ ⟨he, hw⟩ => ⟨he, ⟨d, os⟩, hw.symm⟩
  have cB : ∀ d os, Calls Tryd.prog 68 #[.int .u32 (crcSum (bl (s.extract 0 (s.size - 4))) : Int)] (grow (redrawn w d) os) fun e w'' => e = .returned (.string (str (tailB (bl (s.extract 0 (s.size - 4)))))) ∧ ∃ p : Regrown, w'' = grow (redrawn w p.d) p.os :=
    fun d os => Calls.regrown_of (rbytes_any _ _ (crcSum_lt _))
  have hn := crcSum_lt (bl (s.extract 0 (s.size - 4)))
  clear hz
  go_enter Tryd.func55, Tryd.ntmps55
  go_wp2
  refine wp_region_quiet_below cmixed (by kernel_rfl) ?_
  repeat (any_goals (first | go_big_quiet_step (first | exact cS _ _ | exact cB _ _) | quiet_step (first | exact cS _ _ | exact cB _ _)))
  refine wpQuiet_nil ?_
  intro _ hw'
  obtain ⟨⟨dq, osq⟩, hw''⟩ := hw'
  subst hw''
  clear cS cB
  cases hx : openB (bl s) with
  | none =>
    have hq : ((s.extract (s.size - 4) s.size).toList == (str (tailB (bl (s.extract 0 (s.size - 4))))).toList) = false := by
      rw [beq_bl, bl_from, bl_upto]
      simp only [openB, bl_len] at hx
      rw [if_neg (by omega)] at hx
      split at hx
      · cases hx
      · rename_i h; simpa using h
    have Hx := Lib.hid hx
    clear hx
    generalize ((s.extract (s.size - 4) s.size).toList == (str (tailB (bl (s.extract 0 (s.size - 4))))).toList) = q at *
    subst hq
    go_wp2
    go_ret2
    refine ⟨?_, below_regrown w dq osq⟩
    rw [Hx.out]
    rfl
  | some m =>
    have hq : ((s.extract (s.size - 4) s.size).toList == (str (tailB (bl (s.extract 0 (s.size - 4))))).toList) = true ∧ s.extract 0 (s.size - 4) = str m := by
      rw [beq_bl, bl_from, bl_upto]
      simp only [openB, bl_len] at hx
      rw [if_neg (by omega)] at hx
      split at hx
      · rename_i h
        refine ⟨by simpa using h, ?_⟩
        simp only [Option.some.injEq] at hx
        rw [← hx, ← bl_upto, str_bl]
      · cases hx
    obtain ⟨hq, hm⟩ := hq
    have Hx := Lib.hid hx
    have Hm := Lib.hid hm
    clear hx hm
    generalize ((s.extract (s.size - 4) s.size).toList == (str (tailB (bl (s.extract 0 (s.size - 4))))).toList) = q at *
    subst hq
    go_wp2
    go_ret2
    refine ⟨?_, below_regrown w dq osq⟩
    rw [Hx.out]
    simp [Hm.out]

theorem ropen_any (s : ByteArray) (w : World) (hr : s.size ≤ 140737488355328) : Calls Tryd.prog 55 #[.string s] w (OpenIs (bl s) w) := by
  by_cases h : s.size < 4
  · exact ropen_short s w h
  · exact ropen_4 s w (by omega) hr

end Go.Proofs.YtchdamlnbmngbaaDoor

