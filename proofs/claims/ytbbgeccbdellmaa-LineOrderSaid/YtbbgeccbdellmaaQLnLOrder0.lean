/- LnWOr. -/
import Derived.Test.YtbbgeccbdellmaaQ2
import Derived.Test.YtbbgeccbdellmaaQ6
set_option linter.unusedVariables false
set_option linter.unusedSimpArgs false
/- The walk of LineOrder. -/
namespace Go.Proofs.Ytbbgeccbdellmaa.ln
open Go Go.RowKit Go.Sort Go.Proofs.Ytbbgeccbdellmaa Go.Proofs.Ytbbgeccbdellmaa.ib Go.Proofs.Ytbbgeccbdellmaa.lg
set_option maxRecDepth 100000

def WO3G (La Lb R Q : Ln) (A B : Option Addr) (c d B0 : Nat) : Nat → Value → World → Prop
  | 0, v, _ => v = .agg #[.int .u64 (La.ep : Int), .int .i64 La.bf, .bool La.ls, .slice A La.gs.length c]
  | 1, v, _ => v = .agg #[.int .u64 (Lb.ep : Int), .int .i64 Lb.bf, .bool Lb.ls, .slice B Lb.gs.length d]
  | 2, v, W => ∃ A c, v = .agg #[.int .u64 (R.ep : Int), .int .i64 R.bf, .bool R.ls, .slice A R.gs.length c] ∧ OGd W 0 (.slice A R.gs.length c) R.gs
  | 3, v, _ => v = .agg #[.int .u64 (Lb.ep : Int), .int .i64 Lb.bf, .bool Lb.ls, .slice B Lb.gs.length d]
  | 4, v, _ => v = .agg #[.int .u64 (La.ep : Int), .int .i64 La.bf, .bool La.ls, .slice A La.gs.length c]
  | 5, v, W => ∃ A c, v = .agg #[.int .u64 (Q.ep : Int), .int .i64 Q.bf, .bool Q.ls, .slice A Q.gs.length c] ∧ OGd W 0 (.slice A Q.gs.length c) Q.gs
  | 6, v, W => ∃ g, v = .pointer (some ⟨g, 0, none⟩) ∧ B0 ≤ g ∧ Blk W g 25 #[.int .u64 0, .int .i64 0, .bool false, .slice none 0 0]
  | 7, v, W => ∃ g, v = .pointer (some ⟨g, 0, none⟩) ∧ B0 ≤ g ∧ Blk W g 25 #[.int .u64 0, .int .i64 0, .bool false, .slice none 0 0]
  | _, _, _ => True
theorem WO3G_mono (La Lb R Q : Ln) (A B : Option Addr) (c d B0 : Nat) (i : Nat) (v : Value) (w w' : World) (hi : i < 8) (h : WO3G La Lb R Q A B c d B0 i v w) (hb : Below w.heap.size w w') : WO3G La Lb R Q A B c d B0 i v w' := by
  match i, hi, h with
  | 0, _, h | 1, _, h | 3, _, h | 4, _, h => exact h
  | 2, _, ⟨A, c, hv, h1⟩ => exact ⟨A, c, hv, h1.below hb⟩
  | 5, _, ⟨A, c, hv, h1⟩ => exact ⟨A, c, hv, h1.below hb⟩
  | 6, _, ⟨g, hv, h1, h2⟩ => exact ⟨g, hv, h1, h2.below hb⟩
  | 7, _, ⟨g, hv, h1, h2⟩ => exact ⟨g, hv, h1, h2.below hb⟩
  | j + 8, hi, _ => exact absurd hi (by omega)
def WO8G (La Lb Lc R T U : Ln) (A B C : Option Addr) (c d e B0 : Nat) : Nat → Value → World → Prop
  | 0, v, _ => v = .agg #[.int .u64 (La.ep : Int), .int .i64 La.bf, .bool La.ls, .slice A La.gs.length c]
  | 1, v, _ => v = .agg #[.int .u64 (Lb.ep : Int), .int .i64 Lb.bf, .bool Lb.ls, .slice B Lb.gs.length d]
  | 2, v, W => ∃ A c, v = .agg #[.int .u64 (R.ep : Int), .int .i64 R.bf, .bool R.ls, .slice A R.gs.length c] ∧ OGd W 0 (.slice A R.gs.length c) R.gs
  | 3, v, _ => v = .agg #[.int .u64 (Lc.ep : Int), .int .i64 Lc.bf, .bool Lc.ls, .slice C Lc.gs.length e]
  | 4, v, W => ∃ A c, v = .agg #[.int .u64 (U.ep : Int), .int .i64 U.bf, .bool U.ls, .slice A U.gs.length c] ∧ OGd W 0 (.slice A U.gs.length c) U.gs
  | 5, v, _ => v = .agg #[.int .u64 (La.ep : Int), .int .i64 La.bf, .bool La.ls, .slice A La.gs.length c]
  | 6, v, _ => v = .agg #[.int .u64 (Lb.ep : Int), .int .i64 Lb.bf, .bool Lb.ls, .slice B Lb.gs.length d]
  | 7, v, _ => v = .agg #[.int .u64 (Lc.ep : Int), .int .i64 Lc.bf, .bool Lc.ls, .slice C Lc.gs.length e]
  | 8, v, W => ∃ A c, v = .agg #[.int .u64 (T.ep : Int), .int .i64 T.bf, .bool T.ls, .slice A T.gs.length c] ∧ OGd W 0 (.slice A T.gs.length c) T.gs
  | 9, v, W => ∃ A c, v = .agg #[.int .u64 (U.ep : Int), .int .i64 U.bf, .bool U.ls, .slice A U.gs.length c] ∧ OGd W 0 (.slice A U.gs.length c) U.gs
  | 10, v, W => ∃ g, v = .pointer (some ⟨g, 0, none⟩) ∧ B0 ≤ g ∧ Blk W g 25 #[.int .u64 0, .int .i64 0, .bool false, .slice none 0 0]
  | 11, v, W => ∃ g, v = .pointer (some ⟨g, 0, none⟩) ∧ B0 ≤ g ∧ Blk W g 25 #[.int .u64 0, .int .i64 0, .bool false, .slice none 0 0]
  | _, _, _ => True
theorem WO8G_mono (La Lb Lc R T U : Ln) (A B C : Option Addr) (c d e B0 : Nat) (i : Nat) (v : Value) (w w' : World) (hi : i < 12) (h : WO8G La Lb Lc R T U A B C c d e B0 i v w) (hb : Below w.heap.size w w') : WO8G La Lb Lc R T U A B C c d e B0 i v w' := by
  match i, hi, h with
  | 0, _, h | 1, _, h | 3, _, h | 5, _, h | 6, _, h | 7, _, h => exact h
  | 2, _, ⟨A, c, hv, h1⟩ => exact ⟨A, c, hv, h1.below hb⟩
  | 4, _, ⟨A, c, hv, h1⟩ => exact ⟨A, c, hv, h1.below hb⟩
  | 8, _, ⟨A, c, hv, h1⟩ => exact ⟨A, c, hv, h1.below hb⟩
  | 9, _, ⟨A, c, hv, h1⟩ => exact ⟨A, c, hv, h1.below hb⟩
  | 10, _, ⟨g, hv, h1, h2⟩ => exact ⟨g, hv, h1, h2.below hb⟩
  | 11, _, ⟨g, hv, h1, h2⟩ => exact ⟨g, hv, h1, h2.below hb⟩
  | j + 12, hi, _ => exact absurd hi (by omega)
def WO6aG (La Lb R : Ln) (A B Ap : Option Addr) (c d cp g1 g2 gp : Nat) : Nat → Value → World → Prop
  | 0, v, _ => v = .agg #[.int .u64 (R.ep : Int), .int .i64 R.bf, .bool R.ls, .slice Ap R.gs.length cp]
  | 1, v, _ => v = .agg #[.int .u64 (La.ep : Int), .int .i64 La.bf, .bool La.ls, .slice A La.gs.length c]
  | 2, v, _ => v = .bool true
  | 3, v, _ => v = .bool false
  | 4, v, _ => v = .bool false
  | 5, v, _ => v = undef
  | 6, v, _ => v = undef
  | 7, v, _ => v = undef
  | 8, v, _ => v = undef
  | 9, v, _ => v = .bool false
  | 10, v, _ => v = .bool false
  | 11, v, _ => v = .agg #[.int .u64 (R.ep : Int), .int .i64 R.bf, .bool R.ls, .slice Ap R.gs.length cp]
  | 12, v, _ => v = .agg #[.int .u64 (La.ep : Int), .int .i64 La.bf, .bool La.ls, .slice A La.gs.length c]
  | 13, v, W => ∃ A c, v = .agg #[.int .u64 (R.ep : Int), .int .i64 R.bf, .bool R.ls, .slice A R.gs.length c] ∧ OGd W 0 (.slice A R.gs.length c) R.gs
  | 14, v, _ => v = .agg #[.int .u64 (R.ep : Int), .int .i64 R.bf, .bool R.ls, .slice Ap R.gs.length cp]
  | 15, v, _ => v = .bool true
  | 16, v, _ => v = .bool false
  | 17, v, _ => v = .bool false
  | _, _, _ => True
theorem WO6aG_mono (La Lb R : Ln) (A B Ap : Option Addr) (c d cp g1 g2 gp : Nat) (i : Nat) (v : Value) (w w' : World) (hi : i < 18) (h : WO6aG La Lb R A B Ap c d cp g1 g2 gp i v w) (hb : Below w.heap.size w w') : WO6aG La Lb R A B Ap c d cp g1 g2 gp i v w' := by
  match i, hi, h with
  | 0, _, h | 1, _, h | 2, _, h | 3, _, h | 4, _, h | 5, _, h | 6, _, h | 7, _, h | 8, _, h | 9, _, h | 10, _, h | 11, _, h | 12, _, h | 14, _, h | 15, _, h | 16, _, h | 17, _, h => exact h
  | 13, _, ⟨A, c, hv, h1⟩ => exact ⟨A, c, hv, h1.below hb⟩
  | j + 18, hi, _ => exact absurd hi (by omega)
def WO6bG (La Lb R : Ln) (A B Ap : Option Addr) (c d cp g1 g2 gp : Nat) : Nat → Value → World → Prop
  | 0, v, _ => v = .agg #[.int .u64 (R.ep : Int), .int .i64 R.bf, .bool R.ls, .slice Ap R.gs.length cp]
  | 1, v, _ => v = .agg #[.int .u64 (La.ep : Int), .int .i64 La.bf, .bool La.ls, .slice A La.gs.length c]
  | 2, v, _ => v = .bool false
  | 3, v, _ => v = .bool true
  | 4, v, _ => v = .bool true
  | 5, v, _ => v = .agg #[.int .u64 (R.ep : Int), .int .i64 R.bf, .bool R.ls, .slice Ap R.gs.length cp]
  | 6, v, _ => v = .agg #[.int .u64 (Lb.ep : Int), .int .i64 Lb.bf, .bool Lb.ls, .slice B Lb.gs.length d]
  | 7, v, _ => v = .bool true
  | 8, v, _ => v = .bool false
  | 9, v, _ => v = .bool false
  | 10, v, _ => v = .bool false
  | 11, v, _ => v = .agg #[.int .u64 (R.ep : Int), .int .i64 R.bf, .bool R.ls, .slice Ap R.gs.length cp]
  | 12, v, _ => v = .agg #[.int .u64 (La.ep : Int), .int .i64 La.bf, .bool La.ls, .slice A La.gs.length c]
  | 13, v, W => ∃ A c, v = .agg #[.int .u64 (R.ep : Int), .int .i64 R.bf, .bool R.ls, .slice A R.gs.length c] ∧ OGd W 0 (.slice A R.gs.length c) R.gs
  | 14, v, _ => v = .agg #[.int .u64 (R.ep : Int), .int .i64 R.bf, .bool R.ls, .slice Ap R.gs.length cp]
  | 15, v, _ => v = .bool true
  | 16, v, _ => v = .bool false
  | 17, v, _ => v = .bool false
  | _, _, _ => True
theorem WO6bG_mono (La Lb R : Ln) (A B Ap : Option Addr) (c d cp g1 g2 gp : Nat) (i : Nat) (v : Value) (w w' : World) (hi : i < 18) (h : WO6bG La Lb R A B Ap c d cp g1 g2 gp i v w) (hb : Below w.heap.size w w') : WO6bG La Lb R A B Ap c d cp g1 g2 gp i v w' := by
  match i, hi, h with
  | 0, _, h | 1, _, h | 2, _, h | 3, _, h | 4, _, h | 5, _, h | 6, _, h | 7, _, h | 8, _, h | 9, _, h | 10, _, h | 11, _, h | 12, _, h | 14, _, h | 15, _, h | 16, _, h | 17, _, h => exact h
  | 13, _, ⟨A, c, hv, h1⟩ => exact ⟨A, c, hv, h1.below hb⟩
  | j + 18, hi, _ => exact absurd hi (by omega)
set_option maxHeartbeats 25600000 in
theorem lineOrder_walk (v : Value) (La : Ln) (u : Value) (Lb : Ln) (s : Value) (Lc : Ln) (w : World) (hv : LnL w v La) (hz : szL La) (hu : LnL w u Lb) (hy : szL Lb) (hs : LnL w s Lc) (hq : szL Lc) :
    Calls Try.prog 8 #[v, u, s] w (endB true w) := by
  obtain ⟨A, c, rfl, hA⟩ := hv
  obtain ⟨B, d, rfl, hB⟩ := hu
  obtain ⟨C, e, rfl, hC⟩ := hs
  obtain ⟨hx, hx2, hx3, hb⟩ := three_new w (lnV La (.slice A La.gs.length c)) (lnV Lb (.slice B Lb.gs.length d)) (lnV Lc (.slice C Lc.gs.length e)) 25 25 25
  unfold lnV at hx hx2 hx3 hb
  obtain ⟨V0, hV0⟩ : ∃ z, ((w.alloc (.cells #[.int .u64 (La.ep : Int), .int .i64 La.bf, .bool La.ls, .slice A La.gs.length c] 25)).alloc (.cells #[.int .u64 (Lb.ep : Int), .int .i64 Lb.bf, .bool Lb.ls, .slice B Lb.gs.length d] 25)).alloc (.cells #[.int .u64 (Lc.ep : Int), .int .i64 Lc.bf, .bool Lc.ls, .slice C Lc.gs.length e] 25) = z := ⟨_, rfl⟩
  rw [hV0] at hx hx2 hx3 hb
  have HA : Hid (GdL V0 A La.gs c) := hA.below hb
  have HB' : Hid (GdL V0 B Lb.gs d) := hB.below hb
  have HC : Hid (GdL V0 C Lc.gs e) := hC.below hb
  have HB := Lib.hid hb
  have HX := Lib.hid hx
  have HY := Lib.hid hx2
  have HW := Lib.hid hx3
  have HZ := Lib.hid hz
  have HZ2 := Lib.hid hy
  have HZ3 := Lib.hid hq
  go_enter Try.func8, Try.ntmps8
  go_upto_region 1 with fail
  try rw [hV0]
  clear hV0 hA hB hC hb hx hx2 hx3 hz hy hq
  obtain ⟨g1, hg1⟩ : ∃ g, w.heap.size = g := ⟨_, rfl⟩
  rw [hg1] at HX HY HW
  try rw [hg1]
  clear hg1
  obtain ⟨g2, hg2⟩ : ∃ g, g1 + 1 = g := ⟨_, rfl⟩
  rw [show g1 + 2 = g1 + 1 + 1 from rfl, hg2] at HW
  rw [hg2] at HY
  obtain ⟨g3, hg3⟩ : ∃ g, g2 + 1 = g := ⟨_, rfl⟩
  rw [hg3] at HW
  try rw [hg2]
  try rw [hg3]
  clear hg2 hg3
  go_wp2_with fail
  refine (works_any V0).mono ?_
  rintro en V1 ⟨rfl, hb1⟩
  have nHA := HA.out.below hb1
  clear HA
  have HA := Lib.hid nHA
  clear nHA
  have nHB' := HB'.out.below hb1
  clear HB'
  have HB' := Lib.hid nHB'
  clear nHB'
  have nHC := HC.out.below hb1
  clear HC
  have HC := Lib.hid nHC
  clear nHC
  have nHX := HX.out.below hb1
  clear HX
  have HX := Lib.hid nHX
  clear nHX
  have nHY := HY.out.below hb1
  clear HY
  have HY := Lib.hid nHY
  clear nHY
  have nHW := HW.out.below hb1
  clear HW
  have HW := Lib.hid nHW
  clear nHW
  have hB1 := below_step HB.out hb1
  clear HB
  have HB := Lib.hid hB1
  clear hB1 hb1
  obtain ⟨R, hR⟩ : ∃ k, lMerge La Lb = k := ⟨_, rfl⟩
  have HR := Lib.hid hR
  have HZR : Hid (szL R) := by rw [← hR]; exact szL.merge HZ.out HZ2.out
  obtain ⟨Q, hQ⟩ : ∃ k, lMerge Lb La = k := ⟨_, rfl⟩
  have HQ := Lib.hid hQ
  have HZQ : Hid (szL Q) := by rw [← hQ]; exact szL.merge HZ2.out HZ.out
  have HE : Hid (Q.ep = R.ep ∧ Q.gs.length = R.gs.length ∧ Q.ls = R.ls) := by
    have h := merge_both La Lb
    rw [hR, hQ] at h
    exact ⟨h.1.symm, h.2.1.symm, h.2.2.symm⟩
  have HF : Hid (La.ep ≤ R.ep ∧ Lb.ep ≤ R.ep) := by have h := merge_ep La Lb; rwa [hR] at h
  have HOR : Hid (R = La ∨ R = Lb) := by have h := merge_or La Lb; rwa [hR] at h
  have HAG : Hid (lMerge R La = R) := by have h := merge_again La Lb; rwa [hR] at h
  obtain ⟨T, hT⟩ : ∃ k, lMerge Lb Lc = k := ⟨_, rfl⟩
  have HT := Lib.hid hT
  have HZT : Hid (szL T) := by rw [← hT]; exact szL.merge HZ2.out HZ3.out
  obtain ⟨U, hU⟩ : ∃ k, lMerge R Lc = k := ⟨_, rfl⟩
  have HU := Lib.hid hU
  have HZU : Hid (szL U) := by rw [← hU]; exact szL.merge HZR.out HZ3.out
  have HU2 : Hid (lMerge La T = U) := by
    have h := merge_three La Lb Lc
    rw [hR, hT, hU] at h
    exact h.symm
  clear hR hQ hT hU
  go_upto_region 3 with fail
  refine wp_region_pre (by kernel_rfl) 8 [13, 14, 15, 16, 17, 18, 7, 8] (by kernel_rfl) (fun L vs W => Below V1.heap.size V1 W ∧ (L 6 = true → L 7 = true → vs 6 ≠ vs 7) ∧ ∀ i, L i = true → i < 8 → WO3G La Lb R Q A B c d V1.heap.size i (vs i) W) ⟨(Below.refl _ _).drew, fun h => (by cases h), fun i hi => (by cases hi)⟩ ?_ ?_
  · intro i o L vs ρ W hi51 ho hli haft hρ hI
    obtain ⟨hb, hD, hG'⟩ := hI
    have hG : ∀ j, L j = true → WO3G La Lb R Q A B c d V1.heap.size j (vs j) W := fun j hj => by
      by_cases h51 : j < 8
      · exact hG' j hj h51
      · match j, h51 with
        | j + 8, _ => exact trivial
    have hc := hρ.const
    have hfn := hρ.fn
    have nextG : ∀ v W', Below W.heap.size W W' → WO3G La Lb R Q A B c d V1.heap.size i v W' → ∀ j, updB L i j = true → j < 8 → WO3G La Lb R Q A B c d V1.heap.size j (updV vs i v j) W' := fun v W' h1 h2 j hj h51 => by
      by_cases hji : j = i
      · subst hji
        simpa [updV] using h2
      · simp only [updB, if_neg hji] at hj
        simpa [updV, hji] using WO3G_mono La Lb R Q A B c d V1.heap.size j _ W W' h51 (hG' j hj h51) h1
    have next : i ≠ 6 → i ≠ 7 → ∀ v W', Below W.heap.size W W' → WO3G La Lb R Q A B c d V1.heap.size i v W' → Below V1.heap.size V1 W' ∧ (updB L i 6 = true → updB L i 7 = true → updV vs i v 6 ≠ updV vs i v 7) ∧ ∀ j, updB L i j = true → j < 8 → WO3G La Lb R Q A B c d V1.heap.size j (updV vs i v j) W' := fun n1 n2 v W' h1 h2 => by
      refine ⟨below_step hb h1, ?_, nextG v W' h1 h2⟩
      simp only [updB, updV, if_neg (Ne.symm n1), if_neg (Ne.symm n2)]
      exact hD
    have hlt : ∀ j, j = 6 ∨ j = 7 → L j = true → vs j ≠ .pointer (some ⟨W.heap.size, 0, none⟩) := fun j hj hL e => by
      rcases hj with rfl | rfl
      · obtain ⟨g, hv, _, hk⟩ := hG' _ hL (by decide)
        rw [hv] at e
        simp only [Value.pointer.injEq, Option.some.injEq, Addr.mk.injEq, and_true] at e
        have := hk.lt
        omega
      · obtain ⟨g, hv, _, hk⟩ := hG' _ hL (by decide)
        rw [hv] at e
        simp only [Value.pointer.injEq, Option.some.injEq, Addr.mk.injEq, and_true] at e
        have := hk.lt
        omega
    obtain ⟨x0, x1, x2, x3⟩ := blk_ln (HX.out.below hb)
    have xl := (HX.out.below hb).lt
    obtain ⟨y0, y1, y2, y3⟩ := blk_ln (HY.out.below hb)
    have yl := (HY.out.below hb).lt
    rcases i with _ | _ | _ | _ | _ | _ | _ | _ | i
    all_goals (first | omega | skip)
    all_goals simp only [List.getElem?_toArray, List.getElem?_cons_zero, List.getElem?_cons_succ, Option.some.injEq] at ho
    all_goals subst ho
    · have o3 : ρ (.tmp 3) = .pointer (some ⟨g1, 0, none⟩) := hρ.out 3 rfl
      exact stepTo_value (w' := W) (by unfold execOp; simp only [o3, hc]; go_simp) (next (by decide) (by decide) _ _ (Below.refl _ _) rfl)
    · have o4 : ρ (.tmp 4) = .pointer (some ⟨g2, 0, none⟩) := hρ.out 4 rfl
      exact stepTo_value (w' := W) (by unfold execOp; simp only [o4, hc]; go_simp) (next (by decide) (by decide) _ _ (Below.refl _ _) rfl)
    · have g13 : WO3G La Lb R Q A B c d V1.heap.size 0 (vs 0) W := hG 0 (haft 0 (by kernel_rfl))
      have s13 : ρ (.tmp 13) = .agg #[.int .u64 (La.ep : Int), .int .i64 La.bf, .bool La.ls, .slice A La.gs.length c] := (hρ.at_ 13 0 rfl).trans g13
      have g14 : WO3G La Lb R Q A B c d V1.heap.size 1 (vs 1) W := hG 1 (haft 1 (by kernel_rfl))
      have s14 : ρ (.tmp 14) = .agg #[.int .u64 (Lb.ep : Int), .int .i64 Lb.bf, .bool Lb.ls, .slice B Lb.gs.length d] := (hρ.at_ 14 1 rfl).trans g14
      refine stepTo_enter (f := 15) (args := #[.agg #[.int .u64 (La.ep : Int), .int .i64 La.bf, .bool La.ls, .slice A La.gs.length c], .agg #[.int .u64 (Lb.ep : Int), .int .i64 Lb.bf, .bool Lb.ls, .slice B Lb.gs.length d]]) (w' := W) (by unfold execOp; simp only [hfn, s13, s14]; go_simp) (((merge_is HR.out (lnL_agg (HA.out.below hb)) (lnL_agg (HB'.out.below hb)) HZ.out HZ2.out)).mono ?_)
      rintro x W' ⟨v', rfl, ⟨u', rfl, ho'⟩, hb'⟩
      exact ⟨_, rfl, next (by decide) (by decide) _ _ hb' (ln_word ho')⟩
    · have o4 : ρ (.tmp 4) = .pointer (some ⟨g2, 0, none⟩) := hρ.out 4 rfl
      exact stepTo_value (w' := W) (by unfold execOp; simp only [o4, hc]; go_simp) (next (by decide) (by decide) _ _ (Below.refl _ _) rfl)
    · have o3 : ρ (.tmp 3) = .pointer (some ⟨g1, 0, none⟩) := hρ.out 3 rfl
      exact stepTo_value (w' := W) (by unfold execOp; simp only [o3, hc]; go_simp) (next (by decide) (by decide) _ _ (Below.refl _ _) rfl)
    · have g16 : WO3G La Lb R Q A B c d V1.heap.size 3 (vs 3) W := hG 3 (haft 3 (by kernel_rfl))
      have s16 : ρ (.tmp 16) = .agg #[.int .u64 (Lb.ep : Int), .int .i64 Lb.bf, .bool Lb.ls, .slice B Lb.gs.length d] := (hρ.at_ 16 3 rfl).trans g16
      have g17 : WO3G La Lb R Q A B c d V1.heap.size 4 (vs 4) W := hG 4 (haft 4 (by kernel_rfl))
      have s17 : ρ (.tmp 17) = .agg #[.int .u64 (La.ep : Int), .int .i64 La.bf, .bool La.ls, .slice A La.gs.length c] := (hρ.at_ 17 4 rfl).trans g17
      refine stepTo_enter (f := 15) (args := #[.agg #[.int .u64 (Lb.ep : Int), .int .i64 Lb.bf, .bool Lb.ls, .slice B Lb.gs.length d], .agg #[.int .u64 (La.ep : Int), .int .i64 La.bf, .bool La.ls, .slice A La.gs.length c]]) (w' := W) (by unfold execOp; simp only [hfn, s16, s17]; go_simp) (((merge_is HQ.out (lnL_agg (HB'.out.below hb)) (lnL_agg (HA.out.below hb)) HZ2.out HZ.out)).mono ?_)
      rintro x W' ⟨v', rfl, ⟨u', rfl, ho'⟩, hb'⟩
      exact ⟨_, rfl, next (by decide) (by decide) _ _ hb' (ln_word ho')⟩
    · refine stepTo_value (v := .pointer (some ⟨W.heap.size, 0, none⟩)) (w' := W.alloc (.cells #[.int .u64 0, .int .i64 0, .bool false, .slice none 0 0] 25)) (by unfold execOp; simp only [hc]; go_simp) ?_
      have hb1 : Below W.heap.size W (W.alloc (.cells #[.int .u64 0, .int .i64 0, .bool false, .slice none 0 0] 25)) := (Below.refl _ W).alloc (Nat.le_refl _) _
      refine ⟨below_step hb hb1, fun hq1 hq2 => ?_, nextG _ _ hb1 ⟨W.heap.size, rfl, hb.size, Blk.new _ _ _⟩⟩
      have hq : L 7 = true := by simpa [updB] using hq2
      simp only [updV, if_true]
      exact fun e => hlt 7 (by omega) hq (by simpa using e.symm)
    · refine stepTo_value (v := .pointer (some ⟨W.heap.size, 0, none⟩)) (w' := W.alloc (.cells #[.int .u64 0, .int .i64 0, .bool false, .slice none 0 0] 25)) (by unfold execOp; simp only [hc]; go_simp) ?_
      have hb1 : Below W.heap.size W (W.alloc (.cells #[.int .u64 0, .int .i64 0, .bool false, .slice none 0 0] 25)) := (Below.refl _ W).alloc (Nat.le_refl _) _
      refine ⟨below_step hb hb1, fun hq1 hq2 => ?_, nextG _ _ hb1 ⟨W.heap.size, rfl, hb.size, Blk.new _ _ _⟩⟩
      have hq : L 6 = true := by simpa [updB] using hq1
      simp only [updV, if_true]
      exact fun e => hlt 6 (by omega) hq (by simpa using e)
  · intro L vs W3 hL hI
    obtain ⟨hb, hD, hG⟩ := hI
    have hd := hD (hL 6 (by decide)) (hL 7 (by decide))
    obtain ⟨Ap, cp, h2, ho1⟩ : WO3G La Lb R Q A B c d V1.heap.size 2 (vs 2) W3 := hG 2 (hL 2 (by decide)) (by decide)
    obtain ⟨Aq, cq, h5, ho2⟩ : WO3G La Lb R Q A B c d V1.heap.size 5 (vs 5) W3 := hG 5 (hL 5 (by decide)) (by decide)
    obtain ⟨gp, h6, hlo1, hk1⟩ : WO3G La Lb R Q A B c d V1.heap.size 6 (vs 6) W3 := hG 6 (hL 6 (by decide)) (by decide)
    obtain ⟨gq, h7, hlo2, hk2⟩ : WO3G La Lb R Q A B c d V1.heap.size 7 (vs 7) W3 := hG 7 (hL 7 (by decide)) (by decide)
    have hne : gp ≠ gq := fun e => hd (by rw [h6, h7, e])
    have hBV : Below V1.heap.size V1 (lnP (lnP W3 gp (.int .u64 (R.ep : Int)) (.int .i64 R.bf) (.bool R.ls) (.slice Ap R.gs.length cp)) gq (.int .u64 (Q.ep : Int)) (.int .i64 Q.bf) (.bool Q.ls) (.slice Aq Q.gs.length cq)) := lnP_below (lnP_below hb hlo1 _ _ _ _) hlo2 _ _ _ _
    have hk2' := hk2.of_block (lnP_oth W3 gp (.int .u64 (R.ep : Int)) (.int .i64 R.bf) (.bool R.ls) (.slice Ap R.gs.length cp) (Ne.symm hne))
    have hK1 := (lnP_blk hk1 (.int .u64 (R.ep : Int)) (.int .i64 R.bf) (.bool R.ls) (.slice Ap R.gs.length cp)).of_block (lnP_oth (lnP W3 gp (.int .u64 (R.ep : Int)) (.int .i64 R.bf) (.bool R.ls) (.slice Ap R.gs.length cp)) gq (.int .u64 (Q.ep : Int)) (.int .i64 Q.bf) (.bool Q.ls) (.slice Aq Q.gs.length cq) hne)
    have hK2 := lnP_blk hk2' (.int .u64 (Q.ep : Int)) (.int .i64 Q.bf) (.bool Q.ls) (.slice Aq Q.gs.length cq)
    have hO1 := ogd_put (ogd_put ho1 hk1 (.int .u64 (R.ep : Int)) (.int .i64 R.bf) (.bool R.ls) (.slice Ap R.gs.length cp)) hk2' (.int .u64 (Q.ep : Int)) (.int .i64 Q.bf) (.bool Q.ls) (.slice Aq Q.gs.length cq)
    have hO2 := ogd_put (ogd_put ho2 hk1 (.int .u64 (R.ep : Int)) (.int .i64 R.bf) (.bool R.ls) (.slice Ap R.gs.length cp)) hk2' (.int .u64 (Q.ep : Int)) (.int .i64 Q.bf) (.bool Q.ls) (.slice Aq Q.gs.length cq)
    obtain ⟨m0, m1, m2, m3⟩ := blk_ln hk1
    obtain ⟨p0, p1, p2, p3⟩ := blk_ln hk2
    have f0 := hk1.frozen 0
    have f1 := hk1.frozen 1
    have f2 := hk1.frozen 2
    have f3 := hk1.frozen 3
    have e0 := hk2.frozen 0
    have e1 := hk2.frozen 1
    have e2 := hk2.frozen 2
    have e3 := hk2.frozen 3
    have hlm := hk1.lt
    have hlp := hk2.lt
    clear hL hG hk1 hk2 hk2' hb hlo1 hlo2 ho1 ho2 hd hD
    simp only [putList, putSel, if_true]
    rw [h2, h5, h6, h7]
    generalize vs 0 = yp0
    generalize vs 1 = yp1
    generalize vs 3 = yp3
    generalize vs 4 = yp4
    clear h2 h5 h6 h7
    simp only [Act.put, List.setIfInBounds_toArray, List.set_cons_succ, List.set_cons_zero]
    refine wpAny_one (i := 8) (by kernel_rfl) rfl rfl ?_
    go_simp
    refine wpAny_one (i := 9) (by kernel_rfl) rfl rfl ?_
    go_simp
    refine ⟨by kernel_rfl, ?_⟩
    clear m0 m1 m2 m3 f0 f1 f2 f3 hlm p0 p1 p2 p3 e0 e1 e2 e3 hlp hne
    show Exit.then _ _ Exit.normal _ (lnP (lnP W3 gp (.int .u64 (R.ep : Int)) (.int .i64 R.bf) (.bool R.ls) (.slice Ap R.gs.length cp)) gq (.int .u64 (Q.ep : Int)) (.int .i64 Q.bf) (.bool Q.ls) (.slice Aq Q.gs.length cq))
    obtain ⟨V2, hV⟩ : ∃ z, lnP (lnP W3 gp (.int .u64 (R.ep : Int)) (.int .i64 R.bf) (.bool R.ls) (.slice Ap R.gs.length cp)) gq (.int .u64 (Q.ep : Int)) (.int .i64 Q.bf) (.bool Q.ls) (.slice Aq Q.gs.length cq) = z := ⟨_, rfl⟩
    rw [hV] at hK1 hK2 hO1 hO2 hBV ⊢
    clear hV
    have Kp := Lib.hid hK1
    have Kq := Lib.hid hK2
    have Op := Lib.hid hO1
    have Oq := Lib.hid hO2
    clear hK1 hK2 hO1 hO2
    have nHA := HA.out.below hBV
    clear HA
    have HA := Lib.hid nHA
    clear nHA
    have nHB' := HB'.out.below hBV
    clear HB'
    have HB' := Lib.hid nHB'
    clear nHB'
    have nHC := HC.out.below hBV
    clear HC
    have HC := Lib.hid nHC
    clear nHC
    have nHX := HX.out.below hBV
    clear HX
    have HX := Lib.hid nHX
    clear nHX
    have nHY := HY.out.below hBV
    clear HY
    have HY := Lib.hid nHY
    clear nHY
    have nHW := HW.out.below hBV
    clear HW
    have HW := Lib.hid nHW
    clear nHW
    have hB' := below_step HB.out hBV
    clear HB
    have HB := Lib.hid hB'
    clear hB' hBV
    have hK := Kq.out
    rw [HE.out.1, HE.out.2.1, HE.out.2.2] at hK
    clear Kq Oq
    have Kq := Lib.hid hK
    clear hK
    obtain ⟨x0, x1, x2, x3⟩ := blk_ln Kp.out
    obtain ⟨y0, y1, y2, y3⟩ := blk_ln Kq.out
    have z0 := (blk_ln HX.out).1
    have w0 := (blk_ln HY.out).1
    have xl := Kp.out.lt
    have yl := Kq.out.lt
    have zl := HX.out.lt
    have wl := HY.out.lt
    have hn1 : ¬ R.ep < La.ep := Nat.not_lt.2 HF.out.1
    have hn2 : ¬ R.ep < Lb.ep := Nat.not_lt.2 HF.out.2
    have hn3 : ¬ (R.ep : Int) < (La.ep : Int) := by omega
    have hn4 : ¬ (R.ep : Int) < (Lb.ep : Int) := by omega
    go_upto_region 6 with fail
    clear x0 x1 x2 x3 y0 y1 y2 y3 z0 w0 xl yl zl wl hn1 hn2 hn3 hn4 Kq
    by_cases h1 : R = La
    · have H1 := Lib.hid h1
      clear h1
      refine wp_region_inv (by kernel_rfl) [54, 55, 56, 57, 58, 59, 60, 61, 62, 63, 64, 65, 66, 67, 68, 69, 70, 71] (by kernel_rfl) (fun L vs W => Below V2.heap.size V2 W ∧ ∀ i, L i = true → i < 18 → WO6aG La Lb R A B Ap c d cp g1 g2 gp i (vs i) W) ⟨(Below.refl _ _).drew, fun i hi => (by cases hi)⟩ ?_ ?_ ?_
      · intro i o L vs ρ W ho hli haft hρ hgd hI
        obtain ⟨hb, hG'⟩ := hI
        have hG : ∀ j, L j = true → WO6aG La Lb R A B Ap c d cp g1 g2 gp j (vs j) W := fun j hj => by
          by_cases h51 : j < 18
          · exact hG' j hj h51
          · match j, h51 with
            | j + 18, _ => exact trivial
        have hi51 : i < 18 := (Array.getElem?_eq_some_iff.1 ho).1
        have hc := hρ.const
        have hfn := hρ.fn
        have nextG : ∀ v W', Below W.heap.size W W' → WO6aG La Lb R A B Ap c d cp g1 g2 gp i v W' → ∀ j, updB L i j = true → j < 18 → WO6aG La Lb R A B Ap c d cp g1 g2 gp j (updV vs i v j) W' := fun v W' h1 h2 j hj h51 => by
          by_cases hji : j = i
          · subst hji
            simpa [updV] using h2
          · simp only [updB, if_neg hji] at hj
            simpa [updV, hji] using WO6aG_mono La Lb R A B Ap c d cp g1 g2 gp j _ W W' h51 (hG' j hj h51) h1
        have next : ∀ v W', Below W.heap.size W W' → WO6aG La Lb R A B Ap c d cp g1 g2 gp i v W' → Below V2.heap.size V2 W' ∧ ∀ j, updB L i j = true → j < 18 → WO6aG La Lb R A B Ap c d cp g1 g2 gp j (updV vs i v j) W' := fun v W' h1 h2 => ⟨below_step hb h1, nextG v W' h1 h2⟩
        obtain ⟨x0, x1, x2, x3⟩ := blk_ln (HX.out.below hb)
        have xl := (HX.out.below hb).lt
        obtain ⟨y0, y1, y2, y3⟩ := blk_ln (HY.out.below hb)
        have yl := (HY.out.below hb).lt
        obtain ⟨p0, p1, p2, p3⟩ := blk_ln (Kp.out.below hb)
        have pl := (Kp.out.below hb).lt
        rcases i with _ | _ | _ | _ | _ | _ | _ | _ | _ | _ | _ | _ | _ | _ | _ | _ | _ | _ | i
        all_goals (first | omega | skip)
        all_goals simp only [List.getElem?_toArray, List.getElem?_cons_zero, List.getElem?_cons_succ, Option.some.injEq] at ho
        all_goals subst ho
        · have o7 : ρ (.tmp 7) = .pointer (some ⟨gp, 0, none⟩) := hρ.out 7 rfl
          exact stepTo_value (w' := W) (by unfold execOp; simp only [o7, hc]; go_simp) (next _ _ (Below.refl _ _) rfl)
        · have o3 : ρ (.tmp 3) = .pointer (some ⟨g1, 0, none⟩) := hρ.out 3 rfl
          exact stepTo_value (w' := W) (by unfold execOp; simp only [o3, hc]; go_simp) (next _ _ (Below.refl _ _) rfl)
        · have g54 : WO6aG La Lb R A B Ap c d cp g1 g2 gp 0 (vs 0) W := hG 0 (haft 0 (by kernel_rfl))
          have s54 : ρ (.tmp 54) = .agg #[.int .u64 (R.ep : Int), .int .i64 R.bf, .bool R.ls, .slice Ap R.gs.length cp] := (hρ.at_ 54 0 rfl).trans g54
          have g55 : WO6aG La Lb R A B Ap c d cp g1 g2 gp 1 (vs 1) W := hG 1 (haft 1 (by kernel_rfl))
          have s55 : ρ (.tmp 55) = .agg #[.int .u64 (La.ep : Int), .int .i64 La.bf, .bool La.ls, .slice A La.gs.length c] := (hρ.at_ 55 1 rfl).trans g55
          refine stepTo_enter (f := 12) (args := #[.agg #[.int .u64 (R.ep : Int), .int .i64 R.bf, .bool R.ls, .slice Ap R.gs.length cp], .agg #[.int .u64 (La.ep : Int), .int .i64 La.bf, .bool La.ls, .slice A La.gs.length c]]) (w' := W) (by unfold execOp; simp only [hfn, s54, s55]; go_simp) (((same_is (v := .agg #[.int .u64 (R.ep : Int), .int .i64 R.bf, .bool R.ls, .slice Ap R.gs.length cp]) (u := .agg #[.int .u64 (La.ep : Int), .int .i64 La.bf, .bool La.ls, .slice A La.gs.length c]) (L := R) (M := La) (r := true) (decide_eq_true H1.out) (lnL_agg (ogd_gdl (Op.out.below hb))) (lnL_agg (HA.out.below hb)) HZR.out.int HZ.out.int)).mono ?_)
          rintro x W' ⟨rfl, hb'⟩
          exact ⟨_, rfl, next _ _ hb' rfl⟩
        · have g56 : WO6aG La Lb R A B Ap c d cp g1 g2 gp 2 (vs 2) W := hG 2 (haft 2 (by kernel_rfl))
          have s56 : ρ (.tmp 56) = .bool true := (hρ.at_ 56 2 rfl).trans g56
          exact stepTo_value (w' := W) (by unfold execOp; simp only [s56, hc]; go_simp) (next _ _ (Below.refl _ _) rfl)
        · have g57 : WO6aG La Lb R A B Ap c d cp g1 g2 gp 3 (vs 3) W := hG 3 (haft 3 (by kernel_rfl))
          have s57 : ρ (.tmp 57) = .bool false := (hρ.at_ 57 3 rfl).trans g57
          exact stepTo_value (w' := W) (by unfold execOp; simp only [s57, hc]; go_simp) (next _ _ (Below.refl _ _) rfl)
        · have hdd := hgd 4 true rfl
          have hde := hG 4 (haft 4 (by kernel_rfl))
          exact absurd (hdd.symm.trans hde) (by simp)
        · have hdd := hgd 4 true rfl
          have hde := hG 4 (haft 4 (by kernel_rfl))
          exact absurd (hdd.symm.trans hde) (by simp)
        · have hdd := hgd 4 true rfl
          have hde := hG 4 (haft 4 (by kernel_rfl))
          exact absurd (hdd.symm.trans hde) (by simp)
        · have hdd := hgd 4 true rfl
          have hde := hG 4 (haft 4 (by kernel_rfl))
          exact absurd (hdd.symm.trans hde) (by simp)
        · have g58 : WO6aG La Lb R A B Ap c d cp g1 g2 gp 4 (vs 4) W := hG 4 (haft 4 (by kernel_rfl))
          have s58 : ρ (.tmp 58) = .bool false := (hρ.at_ 58 4 rfl).trans g58
          have g62 : WO6aG La Lb R A B Ap c d cp g1 g2 gp 8 (vs 8) W := hG 8 (haft 8 (by kernel_rfl))
          have s62 : ρ (.tmp 62) = undef := (hρ.at_ 62 8 rfl).trans g62
          exact stepTo_value (w' := W) (by unfold execOp; simp only [s58, s62, hc]; go_simp) (next _ _ (Below.refl _ _) rfl)
        · have g63 : WO6aG La Lb R A B Ap c d cp g1 g2 gp 9 (vs 9) W := hG 9 (haft 9 (by kernel_rfl))
          have s63 : ρ (.tmp 63) = .bool false := (hρ.at_ 63 9 rfl).trans g63
          exact stepTo_value (w' := W) (by unfold execOp; simp only [s63, hc]; go_simp) (next _ _ (Below.refl _ _) rfl)
        · have o7 : ρ (.tmp 7) = .pointer (some ⟨gp, 0, none⟩) := hρ.out 7 rfl
          exact stepTo_value (w' := W) (by unfold execOp; simp only [o7, hc]; go_simp) (next _ _ (Below.refl _ _) rfl)
        · have o3 : ρ (.tmp 3) = .pointer (some ⟨g1, 0, none⟩) := hρ.out 3 rfl
          exact stepTo_value (w' := W) (by unfold execOp; simp only [o3, hc]; go_simp) (next _ _ (Below.refl _ _) rfl)
        · have g65 : WO6aG La Lb R A B Ap c d cp g1 g2 gp 11 (vs 11) W := hG 11 (haft 11 (by kernel_rfl))
          have s65 : ρ (.tmp 65) = .agg #[.int .u64 (R.ep : Int), .int .i64 R.bf, .bool R.ls, .slice Ap R.gs.length cp] := (hρ.at_ 65 11 rfl).trans g65
          have g66 : WO6aG La Lb R A B Ap c d cp g1 g2 gp 12 (vs 12) W := hG 12 (haft 12 (by kernel_rfl))
          have s66 : ρ (.tmp 66) = .agg #[.int .u64 (La.ep : Int), .int .i64 La.bf, .bool La.ls, .slice A La.gs.length c] := (hρ.at_ 66 12 rfl).trans g66
          refine stepTo_enter (f := 15) (args := #[.agg #[.int .u64 (R.ep : Int), .int .i64 R.bf, .bool R.ls, .slice Ap R.gs.length cp], .agg #[.int .u64 (La.ep : Int), .int .i64 La.bf, .bool La.ls, .slice A La.gs.length c]]) (w' := W) (by unfold execOp; simp only [hfn, s65, s66]; go_simp) (((merge_is HAG.out (lnL_agg (ogd_gdl (Op.out.below hb))) (lnL_agg (HA.out.below hb)) HZR.out HZ.out)).mono ?_)
          rintro x W' ⟨v', rfl, ⟨u', rfl, ho'⟩, hb'⟩
          exact ⟨_, rfl, next _ _ hb' (ln_word ho')⟩
        · have o7 : ρ (.tmp 7) = .pointer (some ⟨gp, 0, none⟩) := hρ.out 7 rfl
          exact stepTo_value (w' := W) (by unfold execOp; simp only [o7, hc]; go_simp) (next _ _ (Below.refl _ _) rfl)
        · obtain ⟨A67, c67, g67, hh671⟩ : WO6aG La Lb R A B Ap c d cp g1 g2 gp 13 (vs 13) W := hG 13 (haft 13 (by kernel_rfl))
          have s67 : ρ (.tmp 67) = .agg #[.int .u64 (R.ep : Int), .int .i64 R.bf, .bool R.ls, .slice A67 R.gs.length c67] := (hρ.at_ 67 13 rfl).trans g67
          have g68 : WO6aG La Lb R A B Ap c d cp g1 g2 gp 14 (vs 14) W := hG 14 (haft 14 (by kernel_rfl))
          have s68 : ρ (.tmp 68) = .agg #[.int .u64 (R.ep : Int), .int .i64 R.bf, .bool R.ls, .slice Ap R.gs.length cp] := (hρ.at_ 68 14 rfl).trans g68
          refine stepTo_enter (f := 12) (args := #[.agg #[.int .u64 (R.ep : Int), .int .i64 R.bf, .bool R.ls, .slice A67 R.gs.length c67], .agg #[.int .u64 (R.ep : Int), .int .i64 R.bf, .bool R.ls, .slice Ap R.gs.length cp]]) (w' := W) (by unfold execOp; simp only [hfn, s67, s68]; go_simp) (((same_is (v := .agg #[.int .u64 (R.ep : Int), .int .i64 R.bf, .bool R.ls, .slice A67 R.gs.length c67]) (u := .agg #[.int .u64 (R.ep : Int), .int .i64 R.bf, .bool R.ls, .slice Ap R.gs.length cp]) (L := R) (M := R) (r := true) (decide_eq_true rfl) ⟨A67, c67, rfl, ogd_gdl hh671⟩ (lnL_agg (ogd_gdl (Op.out.below hb))) HZR.out.int HZR.out.int)).mono ?_)
          rintro x W' ⟨rfl, hb'⟩
          exact ⟨_, rfl, next _ _ hb' rfl⟩
        · have g69 : WO6aG La Lb R A B Ap c d cp g1 g2 gp 15 (vs 15) W := hG 15 (haft 15 (by kernel_rfl))
          have s69 : ρ (.tmp 69) = .bool true := (hρ.at_ 69 15 rfl).trans g69
          exact stepTo_value (w' := W) (by unfold execOp; simp only [s69, hc]; go_simp) (next _ _ (Below.refl _ _) rfl)
        · have g64 : WO6aG La Lb R A B Ap c d cp g1 g2 gp 10 (vs 10) W := hG 10 (haft 10 (by kernel_rfl))
          have s64 : ρ (.tmp 64) = .bool false := (hρ.at_ 64 10 rfl).trans g64
          have g70 : WO6aG La Lb R A B Ap c d cp g1 g2 gp 16 (vs 16) W := hG 16 (haft 16 (by kernel_rfl))
          have s70 : ρ (.tmp 70) = .bool false := (hρ.at_ 70 16 rfl).trans g70
          exact stepTo_value (w' := W) (by unfold execOp; simp only [s64, s70, hc]; go_simp) (next _ _ (Below.refl _ _) rfl)
      · intro i o L vs W j want ho hli haft hg hv hI
        obtain ⟨hb, hG'⟩ := hI
        have hG : ∀ j, L j = true → WO6aG La Lb R A B Ap c d cp g1 g2 gp j (vs j) W := fun j hj => by
          by_cases h51 : j < 18
          · exact hG' j hj h51
          · match j, h51 with
            | j + 18, _ => exact trivial
        have hi51 : i < 18 := (Array.getElem?_eq_some_iff.1 ho).1
        have next : WO6aG La Lb R A B Ap c d cp g1 g2 gp i undef W → Below V2.heap.size V2 W ∧ ∀ j, updB L i j = true → j < 18 → WO6aG La Lb R A B Ap c d cp g1 g2 gp j (updV vs i undef j) W := fun h2 => by
          refine ⟨hb, fun j hj h51 => ?_⟩
          by_cases hji : j = i
          · subst hji
            simpa [updV] using h2
          · simp only [updB, if_neg hji] at hj
            simpa [updV, hji] using hG' j hj h51
        rcases i with _ | _ | _ | _ | _ | _ | _ | _ | _ | _ | _ | _ | _ | _ | _ | _ | _ | _ | i
        all_goals (first | omega | skip)
        all_goals simp only [List.getElem?_toArray, List.getElem?_cons_zero, List.getElem?_cons_succ, Option.some.injEq] at ho
        all_goals subst ho
        all_goals simp only [reduceCtorEq, Option.some.injEq, Prod.mk.injEq] at hg
        · exact next rfl
        · exact next rfl
        · exact next rfl
        · exact next rfl
        · obtain ⟨rfl, rfl⟩ := hg
          exact (hv (hG 10 (haft 10 (by kernel_rfl)))).elim
        · obtain ⟨rfl, rfl⟩ := hg
          exact (hv (hG 10 (haft 10 (by kernel_rfl)))).elim
        · obtain ⟨rfl, rfl⟩ := hg
          exact (hv (hG 10 (haft 10 (by kernel_rfl)))).elim
        · obtain ⟨rfl, rfl⟩ := hg
          exact (hv (hG 10 (haft 10 (by kernel_rfl)))).elim
        · obtain ⟨rfl, rfl⟩ := hg
          exact (hv (hG 10 (haft 10 (by kernel_rfl)))).elim
        · obtain ⟨rfl, rfl⟩ := hg
          exact (hv (hG 10 (haft 10 (by kernel_rfl)))).elim
      intro vs V3 hI
      obtain ⟨hb, hG⟩ := hI
      have h17 : vs 17 = .bool false := hG 17 (by kernel_rfl) (by decide)
      have nHA := HA.out.below hb
      clear HA
      have HA := Lib.hid nHA
      clear nHA
      have nHB' := HB'.out.below hb
      clear HB'
      have HB' := Lib.hid nHB'
      clear nHB'
      have nHC := HC.out.below hb
      clear HC
      have HC := Lib.hid nHC
      clear nHC
      have nHX := HX.out.below hb
      clear HX
      have HX := Lib.hid nHX
      clear nHX
      have nHY := HY.out.below hb
      clear HY
      have HY := Lib.hid nHY
      clear nHY
      have nHW := HW.out.below hb
      clear HW
      have HW := Lib.hid nHW
      clear nHW
      have hB' := below_step HB.out hb
      clear HB
      have HB := Lib.hid hB'
      clear hb hG hB'
      simp only [putList, putSel, if_true]
      rw [h17]
      generalize vs 0 = yr0
      generalize vs 1 = yr1
      generalize vs 2 = yr2
      generalize vs 3 = yr3
      generalize vs 4 = yr4
      generalize vs 5 = yr5
      generalize vs 6 = yr6
      generalize vs 7 = yr7
      generalize vs 8 = yr8
      generalize vs 9 = yr9
      generalize vs 10 = yr10
      generalize vs 11 = yr11
      generalize vs 12 = yr12
      generalize vs 13 = yr13
      generalize vs 14 = yr14
      generalize vs 15 = yr15
      generalize vs 16 = yr16
      clear h17
      simp only [Act.put, List.setIfInBounds_toArray, List.set_cons_succ, List.set_cons_zero]
      clear Kp Op
      go_upto_region 8 with fail
      refine wp_region_pre (by kernel_rfl) 12 [72, 73, 74, 75, 76, 77, 78, 79, 80, 81, 9, 10] (by kernel_rfl) (fun L vs W => Below V3.heap.size V3 W ∧ (L 10 = true → L 11 = true → vs 10 ≠ vs 11) ∧ ∀ i, L i = true → i < 12 → WO8G La Lb Lc R T U A B C c d e V3.heap.size i (vs i) W) ⟨(Below.refl _ _).drew, fun h => (by cases h), fun i hi => (by cases hi)⟩ ?_ ?_
      · intro i o L vs ρ W hi51 ho hli haft hρ hI
        obtain ⟨hb, hD, hG'⟩ := hI
        have hG : ∀ j, L j = true → WO8G La Lb Lc R T U A B C c d e V3.heap.size j (vs j) W := fun j hj => by
          by_cases h51 : j < 12
          · exact hG' j hj h51
          · match j, h51 with
            | j + 12, _ => exact trivial
        have hc := hρ.const
        have hfn := hρ.fn
        have nextG : ∀ v W', Below W.heap.size W W' → WO8G La Lb Lc R T U A B C c d e V3.heap.size i v W' → ∀ j, updB L i j = true → j < 12 → WO8G La Lb Lc R T U A B C c d e V3.heap.size j (updV vs i v j) W' := fun v W' h1 h2 j hj h51 => by
          by_cases hji : j = i
          · subst hji
            simpa [updV] using h2
          · simp only [updB, if_neg hji] at hj
            simpa [updV, hji] using WO8G_mono La Lb Lc R T U A B C c d e V3.heap.size j _ W W' h51 (hG' j hj h51) h1
        have next : i ≠ 10 → i ≠ 11 → ∀ v W', Below W.heap.size W W' → WO8G La Lb Lc R T U A B C c d e V3.heap.size i v W' → Below V3.heap.size V3 W' ∧ (updB L i 10 = true → updB L i 11 = true → updV vs i v 10 ≠ updV vs i v 11) ∧ ∀ j, updB L i j = true → j < 12 → WO8G La Lb Lc R T U A B C c d e V3.heap.size j (updV vs i v j) W' := fun n1 n2 v W' h1 h2 => by
          refine ⟨below_step hb h1, ?_, nextG v W' h1 h2⟩
          simp only [updB, updV, if_neg (Ne.symm n1), if_neg (Ne.symm n2)]
          exact hD
        have hlt : ∀ j, j = 10 ∨ j = 11 → L j = true → vs j ≠ .pointer (some ⟨W.heap.size, 0, none⟩) := fun j hj hL e => by
          rcases hj with rfl | rfl
          · obtain ⟨g, hv, _, hk⟩ := hG' _ hL (by decide)
            rw [hv] at e
            simp only [Value.pointer.injEq, Option.some.injEq, Addr.mk.injEq, and_true] at e
            have := hk.lt
            omega
          · obtain ⟨g, hv, _, hk⟩ := hG' _ hL (by decide)
            rw [hv] at e
            simp only [Value.pointer.injEq, Option.some.injEq, Addr.mk.injEq, and_true] at e
            have := hk.lt
            omega
        obtain ⟨x0, x1, x2, x3⟩ := blk_ln (HX.out.below hb)
        have xl := (HX.out.below hb).lt
        obtain ⟨y0, y1, y2, y3⟩ := blk_ln (HY.out.below hb)
        have yl := (HY.out.below hb).lt
        obtain ⟨z0, z1, z2, z3⟩ := blk_ln (HW.out.below hb)
        have zl := (HW.out.below hb).lt
        rcases i with _ | _ | _ | _ | _ | _ | _ | _ | _ | _ | _ | _ | i
        all_goals (first | omega | skip)
        all_goals simp only [List.getElem?_toArray, List.getElem?_cons_zero, List.getElem?_cons_succ, Option.some.injEq] at ho
        all_goals subst ho
        · have o3 : ρ (.tmp 3) = .pointer (some ⟨g1, 0, none⟩) := hρ.out 3 rfl
          exact stepTo_value (w' := W) (by unfold execOp; simp only [o3, hc]; go_simp) (next (by decide) (by decide) _ _ (Below.refl _ _) rfl)
        · have o4 : ρ (.tmp 4) = .pointer (some ⟨g2, 0, none⟩) := hρ.out 4 rfl
          exact stepTo_value (w' := W) (by unfold execOp; simp only [o4, hc]; go_simp) (next (by decide) (by decide) _ _ (Below.refl _ _) rfl)
        · have g72 : WO8G La Lb Lc R T U A B C c d e V3.heap.size 0 (vs 0) W := hG 0 (haft 0 (by kernel_rfl))
          have s72 : ρ (.tmp 72) = .agg #[.int .u64 (La.ep : Int), .int .i64 La.bf, .bool La.ls, .slice A La.gs.length c] := (hρ.at_ 72 0 rfl).trans g72
          have g73 : WO8G La Lb Lc R T U A B C c d e V3.heap.size 1 (vs 1) W := hG 1 (haft 1 (by kernel_rfl))
          have s73 : ρ (.tmp 73) = .agg #[.int .u64 (Lb.ep : Int), .int .i64 Lb.bf, .bool Lb.ls, .slice B Lb.gs.length d] := (hρ.at_ 73 1 rfl).trans g73
          refine stepTo_enter (f := 15) (args := #[.agg #[.int .u64 (La.ep : Int), .int .i64 La.bf, .bool La.ls, .slice A La.gs.length c], .agg #[.int .u64 (Lb.ep : Int), .int .i64 Lb.bf, .bool Lb.ls, .slice B Lb.gs.length d]]) (w' := W) (by unfold execOp; simp only [hfn, s72, s73]; go_simp) (((merge_is HR.out (lnL_agg (HA.out.below hb)) (lnL_agg (HB'.out.below hb)) HZ.out HZ2.out)).mono ?_)
          rintro x W' ⟨v', rfl, ⟨u', rfl, ho'⟩, hb'⟩
          exact ⟨_, rfl, next (by decide) (by decide) _ _ hb' (ln_word ho')⟩
        · have o5 : ρ (.tmp 5) = .pointer (some ⟨g3, 0, none⟩) := hρ.out 5 rfl
          exact stepTo_value (w' := W) (by unfold execOp; simp only [o5, hc]; go_simp) (next (by decide) (by decide) _ _ (Below.refl _ _) rfl)
        · obtain ⟨A74, c74, g74, hh741⟩ : WO8G La Lb Lc R T U A B C c d e V3.heap.size 2 (vs 2) W := hG 2 (haft 2 (by kernel_rfl))
          have s74 : ρ (.tmp 74) = .agg #[.int .u64 (R.ep : Int), .int .i64 R.bf, .bool R.ls, .slice A74 R.gs.length c74] := (hρ.at_ 74 2 rfl).trans g74
          have g75 : WO8G La Lb Lc R T U A B C c d e V3.heap.size 3 (vs 3) W := hG 3 (haft 3 (by kernel_rfl))
          have s75 : ρ (.tmp 75) = .agg #[.int .u64 (Lc.ep : Int), .int .i64 Lc.bf, .bool Lc.ls, .slice C Lc.gs.length e] := (hρ.at_ 75 3 rfl).trans g75
          refine stepTo_enter (f := 15) (args := #[.agg #[.int .u64 (R.ep : Int), .int .i64 R.bf, .bool R.ls, .slice A74 R.gs.length c74], .agg #[.int .u64 (Lc.ep : Int), .int .i64 Lc.bf, .bool Lc.ls, .slice C Lc.gs.length e]]) (w' := W) (by unfold execOp; simp only [hfn, s74, s75]; go_simp) (((merge_is HU.out ⟨A74, c74, rfl, ogd_gdl hh741⟩ (lnL_agg (HC.out.below hb)) HZR.out HZ3.out)).mono ?_)
          rintro x W' ⟨v', rfl, ⟨u', rfl, ho'⟩, hb'⟩
          exact ⟨_, rfl, next (by decide) (by decide) _ _ hb' (ln_word ho')⟩
        · have o3 : ρ (.tmp 3) = .pointer (some ⟨g1, 0, none⟩) := hρ.out 3 rfl
          exact stepTo_value (w' := W) (by unfold execOp; simp only [o3, hc]; go_simp) (next (by decide) (by decide) _ _ (Below.refl _ _) rfl)
        · have o4 : ρ (.tmp 4) = .pointer (some ⟨g2, 0, none⟩) := hρ.out 4 rfl
          exact stepTo_value (w' := W) (by unfold execOp; simp only [o4, hc]; go_simp) (next (by decide) (by decide) _ _ (Below.refl _ _) rfl)
        · have o5 : ρ (.tmp 5) = .pointer (some ⟨g3, 0, none⟩) := hρ.out 5 rfl
          exact stepTo_value (w' := W) (by unfold execOp; simp only [o5, hc]; go_simp) (next (by decide) (by decide) _ _ (Below.refl _ _) rfl)
        · have g78 : WO8G La Lb Lc R T U A B C c d e V3.heap.size 6 (vs 6) W := hG 6 (haft 6 (by kernel_rfl))
          have s78 : ρ (.tmp 78) = .agg #[.int .u64 (Lb.ep : Int), .int .i64 Lb.bf, .bool Lb.ls, .slice B Lb.gs.length d] := (hρ.at_ 78 6 rfl).trans g78
          have g79 : WO8G La Lb Lc R T U A B C c d e V3.heap.size 7 (vs 7) W := hG 7 (haft 7 (by kernel_rfl))
          have s79 : ρ (.tmp 79) = .agg #[.int .u64 (Lc.ep : Int), .int .i64 Lc.bf, .bool Lc.ls, .slice C Lc.gs.length e] := (hρ.at_ 79 7 rfl).trans g79
          refine stepTo_enter (f := 15) (args := #[.agg #[.int .u64 (Lb.ep : Int), .int .i64 Lb.bf, .bool Lb.ls, .slice B Lb.gs.length d], .agg #[.int .u64 (Lc.ep : Int), .int .i64 Lc.bf, .bool Lc.ls, .slice C Lc.gs.length e]]) (w' := W) (by unfold execOp; simp only [hfn, s78, s79]; go_simp) (((merge_is HT.out (lnL_agg (HB'.out.below hb)) (lnL_agg (HC.out.below hb)) HZ2.out HZ3.out)).mono ?_)
          rintro x W' ⟨v', rfl, ⟨u', rfl, ho'⟩, hb'⟩
          exact ⟨_, rfl, next (by decide) (by decide) _ _ hb' (ln_word ho')⟩
        · have g77 : WO8G La Lb Lc R T U A B C c d e V3.heap.size 5 (vs 5) W := hG 5 (haft 5 (by kernel_rfl))
          have s77 : ρ (.tmp 77) = .agg #[.int .u64 (La.ep : Int), .int .i64 La.bf, .bool La.ls, .slice A La.gs.length c] := (hρ.at_ 77 5 rfl).trans g77
          obtain ⟨A80, c80, g80, hh801⟩ : WO8G La Lb Lc R T U A B C c d e V3.heap.size 8 (vs 8) W := hG 8 (haft 8 (by kernel_rfl))
          have s80 : ρ (.tmp 80) = .agg #[.int .u64 (T.ep : Int), .int .i64 T.bf, .bool T.ls, .slice A80 T.gs.length c80] := (hρ.at_ 80 8 rfl).trans g80
          refine stepTo_enter (f := 15) (args := #[.agg #[.int .u64 (La.ep : Int), .int .i64 La.bf, .bool La.ls, .slice A La.gs.length c], .agg #[.int .u64 (T.ep : Int), .int .i64 T.bf, .bool T.ls, .slice A80 T.gs.length c80]]) (w' := W) (by unfold execOp; simp only [hfn, s77, s80]; go_simp) (((merge_is HU2.out (lnL_agg (HA.out.below hb)) ⟨A80, c80, rfl, ogd_gdl hh801⟩ HZ.out HZT.out)).mono ?_)
          rintro x W' ⟨v', rfl, ⟨u', rfl, ho'⟩, hb'⟩
          exact ⟨_, rfl, next (by decide) (by decide) _ _ hb' (ln_word ho')⟩
        · refine stepTo_value (v := .pointer (some ⟨W.heap.size, 0, none⟩)) (w' := W.alloc (.cells #[.int .u64 0, .int .i64 0, .bool false, .slice none 0 0] 25)) (by unfold execOp; simp only [hc]; go_simp) ?_
          have hb1 : Below W.heap.size W (W.alloc (.cells #[.int .u64 0, .int .i64 0, .bool false, .slice none 0 0] 25)) := (Below.refl _ W).alloc (Nat.le_refl _) _
          refine ⟨below_step hb hb1, fun hq1 hq2 => ?_, nextG _ _ hb1 ⟨W.heap.size, rfl, hb.size, Blk.new _ _ _⟩⟩
          have hq : L 11 = true := by simpa [updB] using hq2
          simp only [updV, if_true]
          exact fun e => hlt 11 (by omega) hq (by simpa using e.symm)
        · refine stepTo_value (v := .pointer (some ⟨W.heap.size, 0, none⟩)) (w' := W.alloc (.cells #[.int .u64 0, .int .i64 0, .bool false, .slice none 0 0] 25)) (by unfold execOp; simp only [hc]; go_simp) ?_
          have hb1 : Below W.heap.size W (W.alloc (.cells #[.int .u64 0, .int .i64 0, .bool false, .slice none 0 0] 25)) := (Below.refl _ W).alloc (Nat.le_refl _) _
          refine ⟨below_step hb hb1, fun hq1 hq2 => ?_, nextG _ _ hb1 ⟨W.heap.size, rfl, hb.size, Blk.new _ _ _⟩⟩
          have hq : L 10 = true := by simpa [updB] using hq1
          simp only [updV, if_true]
          exact fun e => hlt 10 (by omega) hq (by simpa using e)
      · intro L vs W3 hL hI
        obtain ⟨hb, hD, hG⟩ := hI
        have hd := hD (hL 10 (by decide)) (hL 11 (by decide))
        obtain ⟨Ar, cr, h4, ho1⟩ : WO8G La Lb Lc R T U A B C c d e V3.heap.size 4 (vs 4) W3 := hG 4 (hL 4 (by decide)) (by decide)
        obtain ⟨At, ct, h9, ho2⟩ : WO8G La Lb Lc R T U A B C c d e V3.heap.size 9 (vs 9) W3 := hG 9 (hL 9 (by decide)) (by decide)
        obtain ⟨gr, h10, hlo1, hk1⟩ : WO8G La Lb Lc R T U A B C c d e V3.heap.size 10 (vs 10) W3 := hG 10 (hL 10 (by decide)) (by decide)
        obtain ⟨gt, h11, hlo2, hk2⟩ : WO8G La Lb Lc R T U A B C c d e V3.heap.size 11 (vs 11) W3 := hG 11 (hL 11 (by decide)) (by decide)
        have hne : gr ≠ gt := fun e => hd (by rw [h10, h11, e])
        have hBV : Below V3.heap.size V3 (lnP (lnP W3 gr (.int .u64 (U.ep : Int)) (.int .i64 U.bf) (.bool U.ls) (.slice Ar U.gs.length cr)) gt (.int .u64 (U.ep : Int)) (.int .i64 U.bf) (.bool U.ls) (.slice At U.gs.length ct)) := lnP_below (lnP_below hb hlo1 _ _ _ _) hlo2 _ _ _ _
        have hk2' := hk2.of_block (lnP_oth W3 gr (.int .u64 (U.ep : Int)) (.int .i64 U.bf) (.bool U.ls) (.slice Ar U.gs.length cr) (Ne.symm hne))
        have hK1 := (lnP_blk hk1 (.int .u64 (U.ep : Int)) (.int .i64 U.bf) (.bool U.ls) (.slice Ar U.gs.length cr)).of_block (lnP_oth (lnP W3 gr (.int .u64 (U.ep : Int)) (.int .i64 U.bf) (.bool U.ls) (.slice Ar U.gs.length cr)) gt (.int .u64 (U.ep : Int)) (.int .i64 U.bf) (.bool U.ls) (.slice At U.gs.length ct) hne)
        have hK2 := lnP_blk hk2' (.int .u64 (U.ep : Int)) (.int .i64 U.bf) (.bool U.ls) (.slice At U.gs.length ct)
        have hO1 := ogd_put (ogd_put ho1 hk1 (.int .u64 (U.ep : Int)) (.int .i64 U.bf) (.bool U.ls) (.slice Ar U.gs.length cr)) hk2' (.int .u64 (U.ep : Int)) (.int .i64 U.bf) (.bool U.ls) (.slice At U.gs.length ct)
        have hO2 := ogd_put (ogd_put ho2 hk1 (.int .u64 (U.ep : Int)) (.int .i64 U.bf) (.bool U.ls) (.slice Ar U.gs.length cr)) hk2' (.int .u64 (U.ep : Int)) (.int .i64 U.bf) (.bool U.ls) (.slice At U.gs.length ct)
        obtain ⟨m0, m1, m2, m3⟩ := blk_ln hk1
        obtain ⟨p0, p1, p2, p3⟩ := blk_ln hk2
        have f0 := hk1.frozen 0
        have f1 := hk1.frozen 1
        have f2 := hk1.frozen 2
        have f3 := hk1.frozen 3
        have e0 := hk2.frozen 0
        have e1 := hk2.frozen 1
        have e2 := hk2.frozen 2
        have e3 := hk2.frozen 3
        have hlm := hk1.lt
        have hlp := hk2.lt
        clear hL hG hk1 hk2 hk2' hb hlo1 hlo2 ho1 ho2 hd hD
        simp only [putList, putSel, if_true]
        rw [h4, h9, h10, h11]
        generalize vs 0 = yr0
        generalize vs 1 = yr1
        generalize vs 2 = yr2
        generalize vs 3 = yr3
        generalize vs 5 = yr5
        generalize vs 6 = yr6
        generalize vs 7 = yr7
        generalize vs 8 = yr8
        clear h4 h9 h10 h11
        simp only [Act.put, List.setIfInBounds_toArray, List.set_cons_succ, List.set_cons_zero]
        refine wpAny_one (i := 12) (by kernel_rfl) rfl rfl ?_
        go_simp
        refine wpAny_one (i := 13) (by kernel_rfl) rfl rfl ?_
        go_simp
        refine ⟨by kernel_rfl, ?_⟩
        clear m0 m1 m2 m3 f0 f1 f2 f3 hlm p0 p1 p2 p3 e0 e1 e2 e3 hlp hne
        show Exit.then _ _ Exit.normal _ (lnP (lnP W3 gr (.int .u64 (U.ep : Int)) (.int .i64 U.bf) (.bool U.ls) (.slice Ar U.gs.length cr)) gt (.int .u64 (U.ep : Int)) (.int .i64 U.bf) (.bool U.ls) (.slice At U.gs.length ct))
        obtain ⟨V4, hV⟩ : ∃ z, lnP (lnP W3 gr (.int .u64 (U.ep : Int)) (.int .i64 U.bf) (.bool U.ls) (.slice Ar U.gs.length cr)) gt (.int .u64 (U.ep : Int)) (.int .i64 U.bf) (.bool U.ls) (.slice At U.gs.length ct) = z := ⟨_, rfl⟩
        rw [hV] at hK1 hK2 hO1 hO2 hBV ⊢
        clear hV
        have Kr := Lib.hid hK1
        have Kt := Lib.hid hK2
        have Or := Lib.hid hO1
        have Ot := Lib.hid hO2
        clear hK1 hK2 hO1 hO2
        have nHA := HA.out.below hBV
        clear HA
        have HA := Lib.hid nHA
        clear nHA
        have hB' := below_step HB.out hBV
        clear HB
        have HB := Lib.hid hB'
        clear hB' hBV
        obtain ⟨x0, x1, x2, x3⟩ := blk_ln Kr.out
        obtain ⟨y0, y1, y2, y3⟩ := blk_ln Kt.out
        have xl := Kr.out.lt
        have yl := Kt.out.lt
        go_wp2_with fail
        refine (same_is (L := U) (M := U) (r := true) (decide_eq_true rfl) (lnL_agg (ogd_gdl Or.out)) (lnL_agg (ogd_gdl Ot.out)) HZU.out.int HZU.out.int).mono ?_
        rintro en V5 ⟨rfl, hb5⟩
        have HB5 := Lib.hid (below_step HB.out hb5)
        clear hb5
        go_wp2_with fail
        go_ret
        exact ⟨rfl, HB5.out⟩
    · have H1 := Lib.hid h1
      have H2 : Hid (R = Lb) := HOR.out.resolve_left h1
      clear h1
      refine wp_region_inv (by kernel_rfl) [54, 55, 56, 57, 58, 59, 60, 61, 62, 63, 64, 65, 66, 67, 68, 69, 70, 71] (by kernel_rfl) (fun L vs W => Below V2.heap.size V2 W ∧ ∀ i, L i = true → i < 18 → WO6bG La Lb R A B Ap c d cp g1 g2 gp i (vs i) W) ⟨(Below.refl _ _).drew, fun i hi => (by cases hi)⟩ ?_ ?_ ?_
      · intro i o L vs ρ W ho hli haft hρ hgd hI
        obtain ⟨hb, hG'⟩ := hI
        have hG : ∀ j, L j = true → WO6bG La Lb R A B Ap c d cp g1 g2 gp j (vs j) W := fun j hj => by
          by_cases h51 : j < 18
          · exact hG' j hj h51
          · match j, h51 with
            | j + 18, _ => exact trivial
        have hi51 : i < 18 := (Array.getElem?_eq_some_iff.1 ho).1
        have hc := hρ.const
        have hfn := hρ.fn
        have nextG : ∀ v W', Below W.heap.size W W' → WO6bG La Lb R A B Ap c d cp g1 g2 gp i v W' → ∀ j, updB L i j = true → j < 18 → WO6bG La Lb R A B Ap c d cp g1 g2 gp j (updV vs i v j) W' := fun v W' h1 h2 j hj h51 => by
          by_cases hji : j = i
          · subst hji
            simpa [updV] using h2
          · simp only [updB, if_neg hji] at hj
            simpa [updV, hji] using WO6bG_mono La Lb R A B Ap c d cp g1 g2 gp j _ W W' h51 (hG' j hj h51) h1
        have next : ∀ v W', Below W.heap.size W W' → WO6bG La Lb R A B Ap c d cp g1 g2 gp i v W' → Below V2.heap.size V2 W' ∧ ∀ j, updB L i j = true → j < 18 → WO6bG La Lb R A B Ap c d cp g1 g2 gp j (updV vs i v j) W' := fun v W' h1 h2 => ⟨below_step hb h1, nextG v W' h1 h2⟩
        obtain ⟨x0, x1, x2, x3⟩ := blk_ln (HX.out.below hb)
        have xl := (HX.out.below hb).lt
        obtain ⟨y0, y1, y2, y3⟩ := blk_ln (HY.out.below hb)
        have yl := (HY.out.below hb).lt
        obtain ⟨p0, p1, p2, p3⟩ := blk_ln (Kp.out.below hb)
        have pl := (Kp.out.below hb).lt
        rcases i with _ | _ | _ | _ | _ | _ | _ | _ | _ | _ | _ | _ | _ | _ | _ | _ | _ | _ | i
        all_goals (first | omega | skip)
        all_goals simp only [List.getElem?_toArray, List.getElem?_cons_zero, List.getElem?_cons_succ, Option.some.injEq] at ho
        all_goals subst ho
        · have o7 : ρ (.tmp 7) = .pointer (some ⟨gp, 0, none⟩) := hρ.out 7 rfl
          exact stepTo_value (w' := W) (by unfold execOp; simp only [o7, hc]; go_simp) (next _ _ (Below.refl _ _) rfl)
        · have o3 : ρ (.tmp 3) = .pointer (some ⟨g1, 0, none⟩) := hρ.out 3 rfl
          exact stepTo_value (w' := W) (by unfold execOp; simp only [o3, hc]; go_simp) (next _ _ (Below.refl _ _) rfl)
        · have g54 : WO6bG La Lb R A B Ap c d cp g1 g2 gp 0 (vs 0) W := hG 0 (haft 0 (by kernel_rfl))
          have s54 : ρ (.tmp 54) = .agg #[.int .u64 (R.ep : Int), .int .i64 R.bf, .bool R.ls, .slice Ap R.gs.length cp] := (hρ.at_ 54 0 rfl).trans g54
          have g55 : WO6bG La Lb R A B Ap c d cp g1 g2 gp 1 (vs 1) W := hG 1 (haft 1 (by kernel_rfl))
          have s55 : ρ (.tmp 55) = .agg #[.int .u64 (La.ep : Int), .int .i64 La.bf, .bool La.ls, .slice A La.gs.length c] := (hρ.at_ 55 1 rfl).trans g55
          refine stepTo_enter (f := 12) (args := #[.agg #[.int .u64 (R.ep : Int), .int .i64 R.bf, .bool R.ls, .slice Ap R.gs.length cp], .agg #[.int .u64 (La.ep : Int), .int .i64 La.bf, .bool La.ls, .slice A La.gs.length c]]) (w' := W) (by unfold execOp; simp only [hfn, s54, s55]; go_simp) (((same_is (v := .agg #[.int .u64 (R.ep : Int), .int .i64 R.bf, .bool R.ls, .slice Ap R.gs.length cp]) (u := .agg #[.int .u64 (La.ep : Int), .int .i64 La.bf, .bool La.ls, .slice A La.gs.length c]) (L := R) (M := La) (r := false) (decide_eq_false H1.out) (lnL_agg (ogd_gdl (Op.out.below hb))) (lnL_agg (HA.out.below hb)) HZR.out.int HZ.out.int)).mono ?_)
          rintro x W' ⟨rfl, hb'⟩
          exact ⟨_, rfl, next _ _ hb' rfl⟩
        · have g56 : WO6bG La Lb R A B Ap c d cp g1 g2 gp 2 (vs 2) W := hG 2 (haft 2 (by kernel_rfl))
          have s56 : ρ (.tmp 56) = .bool false := (hρ.at_ 56 2 rfl).trans g56
          exact stepTo_value (w' := W) (by unfold execOp; simp only [s56, hc]; go_simp) (next _ _ (Below.refl _ _) rfl)
        · have g57 : WO6bG La Lb R A B Ap c d cp g1 g2 gp 3 (vs 3) W := hG 3 (haft 3 (by kernel_rfl))
          have s57 : ρ (.tmp 57) = .bool true := (hρ.at_ 57 3 rfl).trans g57
          exact stepTo_value (w' := W) (by unfold execOp; simp only [s57, hc]; go_simp) (next _ _ (Below.refl _ _) rfl)
        · have o7 : ρ (.tmp 7) = .pointer (some ⟨gp, 0, none⟩) := hρ.out 7 rfl
          exact stepTo_value (w' := W) (by unfold execOp; simp only [o7, hc]; go_simp) (next _ _ (Below.refl _ _) rfl)
        · have o4 : ρ (.tmp 4) = .pointer (some ⟨g2, 0, none⟩) := hρ.out 4 rfl
          exact stepTo_value (w' := W) (by unfold execOp; simp only [o4, hc]; go_simp) (next _ _ (Below.refl _ _) rfl)
        · have g59 : WO6bG La Lb R A B Ap c d cp g1 g2 gp 5 (vs 5) W := hG 5 (haft 5 (by kernel_rfl))
          have s59 : ρ (.tmp 59) = .agg #[.int .u64 (R.ep : Int), .int .i64 R.bf, .bool R.ls, .slice Ap R.gs.length cp] := (hρ.at_ 59 5 rfl).trans g59
          have g60 : WO6bG La Lb R A B Ap c d cp g1 g2 gp 6 (vs 6) W := hG 6 (haft 6 (by kernel_rfl))
          have s60 : ρ (.tmp 60) = .agg #[.int .u64 (Lb.ep : Int), .int .i64 Lb.bf, .bool Lb.ls, .slice B Lb.gs.length d] := (hρ.at_ 60 6 rfl).trans g60
          refine stepTo_enter (f := 12) (args := #[.agg #[.int .u64 (R.ep : Int), .int .i64 R.bf, .bool R.ls, .slice Ap R.gs.length cp], .agg #[.int .u64 (Lb.ep : Int), .int .i64 Lb.bf, .bool Lb.ls, .slice B Lb.gs.length d]]) (w' := W) (by unfold execOp; simp only [hfn, s59, s60]; go_simp) (((same_is (v := .agg #[.int .u64 (R.ep : Int), .int .i64 R.bf, .bool R.ls, .slice Ap R.gs.length cp]) (u := .agg #[.int .u64 (Lb.ep : Int), .int .i64 Lb.bf, .bool Lb.ls, .slice B Lb.gs.length d]) (L := R) (M := Lb) (r := true) (decide_eq_true H2.out) (lnL_agg (ogd_gdl (Op.out.below hb))) (lnL_agg (HB'.out.below hb)) HZR.out.int HZ2.out.int)).mono ?_)
          rintro x W' ⟨rfl, hb'⟩
          exact ⟨_, rfl, next _ _ hb' rfl⟩
        · have g61 : WO6bG La Lb R A B Ap c d cp g1 g2 gp 7 (vs 7) W := hG 7 (haft 7 (by kernel_rfl))
          have s61 : ρ (.tmp 61) = .bool true := (hρ.at_ 61 7 rfl).trans g61
          exact stepTo_value (w' := W) (by unfold execOp; simp only [s61, hc]; go_simp) (next _ _ (Below.refl _ _) rfl)
        · have g58 : WO6bG La Lb R A B Ap c d cp g1 g2 gp 4 (vs 4) W := hG 4 (haft 4 (by kernel_rfl))
          have s58 : ρ (.tmp 58) = .bool true := (hρ.at_ 58 4 rfl).trans g58
          have g62 : WO6bG La Lb R A B Ap c d cp g1 g2 gp 8 (vs 8) W := hG 8 (haft 8 (by kernel_rfl))
          have s62 : ρ (.tmp 62) = .bool false := (hρ.at_ 62 8 rfl).trans g62
          exact stepTo_value (w' := W) (by unfold execOp; simp only [s58, s62, hc]; go_simp) (next _ _ (Below.refl _ _) rfl)
        · have g63 : WO6bG La Lb R A B Ap c d cp g1 g2 gp 9 (vs 9) W := hG 9 (haft 9 (by kernel_rfl))
          have s63 : ρ (.tmp 63) = .bool false := (hρ.at_ 63 9 rfl).trans g63
          exact stepTo_value (w' := W) (by unfold execOp; simp only [s63, hc]; go_simp) (next _ _ (Below.refl _ _) rfl)
        · have o7 : ρ (.tmp 7) = .pointer (some ⟨gp, 0, none⟩) := hρ.out 7 rfl
          exact stepTo_value (w' := W) (by unfold execOp; simp only [o7, hc]; go_simp) (next _ _ (Below.refl _ _) rfl)
        · have o3 : ρ (.tmp 3) = .pointer (some ⟨g1, 0, none⟩) := hρ.out 3 rfl
          exact stepTo_value (w' := W) (by unfold execOp; simp only [o3, hc]; go_simp) (next _ _ (Below.refl _ _) rfl)
        · have g65 : WO6bG La Lb R A B Ap c d cp g1 g2 gp 11 (vs 11) W := hG 11 (haft 11 (by kernel_rfl))
          have s65 : ρ (.tmp 65) = .agg #[.int .u64 (R.ep : Int), .int .i64 R.bf, .bool R.ls, .slice Ap R.gs.length cp] := (hρ.at_ 65 11 rfl).trans g65
          have g66 : WO6bG La Lb R A B Ap c d cp g1 g2 gp 12 (vs 12) W := hG 12 (haft 12 (by kernel_rfl))
          have s66 : ρ (.tmp 66) = .agg #[.int .u64 (La.ep : Int), .int .i64 La.bf, .bool La.ls, .slice A La.gs.length c] := (hρ.at_ 66 12 rfl).trans g66
          refine stepTo_enter (f := 15) (args := #[.agg #[.int .u64 (R.ep : Int), .int .i64 R.bf, .bool R.ls, .slice Ap R.gs.length cp], .agg #[.int .u64 (La.ep : Int), .int .i64 La.bf, .bool La.ls, .slice A La.gs.length c]]) (w' := W) (by unfold execOp; simp only [hfn, s65, s66]; go_simp) (((merge_is HAG.out (lnL_agg (ogd_gdl (Op.out.below hb))) (lnL_agg (HA.out.below hb)) HZR.out HZ.out)).mono ?_)
          rintro x W' ⟨v', rfl, ⟨u', rfl, ho'⟩, hb'⟩
          exact ⟨_, rfl, next _ _ hb' (ln_word ho')⟩
        · have o7 : ρ (.tmp 7) = .pointer (some ⟨gp, 0, none⟩) := hρ.out 7 rfl
          exact stepTo_value (w' := W) (by unfold execOp; simp only [o7, hc]; go_simp) (next _ _ (Below.refl _ _) rfl)
        · obtain ⟨A67, c67, g67, hh671⟩ : WO6bG La Lb R A B Ap c d cp g1 g2 gp 13 (vs 13) W := hG 13 (haft 13 (by kernel_rfl))
          have s67 : ρ (.tmp 67) = .agg #[.int .u64 (R.ep : Int), .int .i64 R.bf, .bool R.ls, .slice A67 R.gs.length c67] := (hρ.at_ 67 13 rfl).trans g67
          have g68 : WO6bG La Lb R A B Ap c d cp g1 g2 gp 14 (vs 14) W := hG 14 (haft 14 (by kernel_rfl))
          have s68 : ρ (.tmp 68) = .agg #[.int .u64 (R.ep : Int), .int .i64 R.bf, .bool R.ls, .slice Ap R.gs.length cp] := (hρ.at_ 68 14 rfl).trans g68
          refine stepTo_enter (f := 12) (args := #[.agg #[.int .u64 (R.ep : Int), .int .i64 R.bf, .bool R.ls, .slice A67 R.gs.length c67], .agg #[.int .u64 (R.ep : Int), .int .i64 R.bf, .bool R.ls, .slice Ap R.gs.length cp]]) (w' := W) (by unfold execOp; simp only [hfn, s67, s68]; go_simp) (((same_is (v := .agg #[.int .u64 (R.ep : Int), .int .i64 R.bf, .bool R.ls, .slice A67 R.gs.length c67]) (u := .agg #[.int .u64 (R.ep : Int), .int .i64 R.bf, .bool R.ls, .slice Ap R.gs.length cp]) (L := R) (M := R) (r := true) (decide_eq_true rfl) ⟨A67, c67, rfl, ogd_gdl hh671⟩ (lnL_agg (ogd_gdl (Op.out.below hb))) HZR.out.int HZR.out.int)).mono ?_)
          rintro x W' ⟨rfl, hb'⟩
          exact ⟨_, rfl, next _ _ hb' rfl⟩
        · have g69 : WO6bG La Lb R A B Ap c d cp g1 g2 gp 15 (vs 15) W := hG 15 (haft 15 (by kernel_rfl))
          have s69 : ρ (.tmp 69) = .bool true := (hρ.at_ 69 15 rfl).trans g69
          exact stepTo_value (w' := W) (by unfold execOp; simp only [s69, hc]; go_simp) (next _ _ (Below.refl _ _) rfl)
        · have g64 : WO6bG La Lb R A B Ap c d cp g1 g2 gp 10 (vs 10) W := hG 10 (haft 10 (by kernel_rfl))
          have s64 : ρ (.tmp 64) = .bool false := (hρ.at_ 64 10 rfl).trans g64
          have g70 : WO6bG La Lb R A B Ap c d cp g1 g2 gp 16 (vs 16) W := hG 16 (haft 16 (by kernel_rfl))
          have s70 : ρ (.tmp 70) = .bool false := (hρ.at_ 70 16 rfl).trans g70
          exact stepTo_value (w' := W) (by unfold execOp; simp only [s64, s70, hc]; go_simp) (next _ _ (Below.refl _ _) rfl)
      · intro i o L vs W j want ho hli haft hg hv hI
        obtain ⟨hb, hG'⟩ := hI
        have hG : ∀ j, L j = true → WO6bG La Lb R A B Ap c d cp g1 g2 gp j (vs j) W := fun j hj => by
          by_cases h51 : j < 18
          · exact hG' j hj h51
          · match j, h51 with
            | j + 18, _ => exact trivial
        have hi51 : i < 18 := (Array.getElem?_eq_some_iff.1 ho).1
        rcases i with _ | _ | _ | _ | _ | _ | _ | _ | _ | _ | _ | _ | _ | _ | _ | _ | _ | _ | i
        all_goals (first | omega | skip)
        all_goals simp only [List.getElem?_toArray, List.getElem?_cons_zero, List.getElem?_cons_succ, Option.some.injEq] at ho
        all_goals subst ho
        all_goals simp only [reduceCtorEq, Option.some.injEq, Prod.mk.injEq] at hg
        · obtain ⟨rfl, rfl⟩ := hg
          exact (hv (hG 4 (haft 4 (by kernel_rfl)))).elim
        · obtain ⟨rfl, rfl⟩ := hg
          exact (hv (hG 4 (haft 4 (by kernel_rfl)))).elim
        · obtain ⟨rfl, rfl⟩ := hg
          exact (hv (hG 4 (haft 4 (by kernel_rfl)))).elim
        · obtain ⟨rfl, rfl⟩ := hg
          exact (hv (hG 4 (haft 4 (by kernel_rfl)))).elim
        · obtain ⟨rfl, rfl⟩ := hg
          exact (hv (hG 10 (haft 10 (by kernel_rfl)))).elim
        · obtain ⟨rfl, rfl⟩ := hg
          exact (hv (hG 10 (haft 10 (by kernel_rfl)))).elim
        · obtain ⟨rfl, rfl⟩ := hg
          exact (hv (hG 10 (haft 10 (by kernel_rfl)))).elim
        · obtain ⟨rfl, rfl⟩ := hg
          exact (hv (hG 10 (haft 10 (by kernel_rfl)))).elim
        · obtain ⟨rfl, rfl⟩ := hg
          exact (hv (hG 10 (haft 10 (by kernel_rfl)))).elim
        · obtain ⟨rfl, rfl⟩ := hg
          exact (hv (hG 10 (haft 10 (by kernel_rfl)))).elim
      intro vs V3 hI
      obtain ⟨hb, hG⟩ := hI
      have h17 : vs 17 = .bool false := hG 17 (by kernel_rfl) (by decide)
      have nHA := HA.out.below hb
      clear HA
      have HA := Lib.hid nHA
      clear nHA
      have nHB' := HB'.out.below hb
      clear HB'
      have HB' := Lib.hid nHB'
      clear nHB'
      have nHC := HC.out.below hb
      clear HC
      have HC := Lib.hid nHC
      clear nHC
      have nHX := HX.out.below hb
      clear HX
      have HX := Lib.hid nHX
      clear nHX
      have nHY := HY.out.below hb
      clear HY
      have HY := Lib.hid nHY
      clear nHY
      have nHW := HW.out.below hb
      clear HW
      have HW := Lib.hid nHW
      clear nHW
      have hB' := below_step HB.out hb
      clear HB
      have HB := Lib.hid hB'
      clear hb hG hB'
      simp only [putList, putSel, if_true]
      rw [h17]
      generalize vs 0 = yr0
      generalize vs 1 = yr1
      generalize vs 2 = yr2
      generalize vs 3 = yr3
      generalize vs 4 = yr4
      generalize vs 5 = yr5
      generalize vs 6 = yr6
      generalize vs 7 = yr7
      generalize vs 8 = yr8
      generalize vs 9 = yr9
      generalize vs 10 = yr10
      generalize vs 11 = yr11
      generalize vs 12 = yr12
      generalize vs 13 = yr13
      generalize vs 14 = yr14
      generalize vs 15 = yr15
      generalize vs 16 = yr16
      clear h17
      simp only [Act.put, List.setIfInBounds_toArray, List.set_cons_succ, List.set_cons_zero]
      clear Kp Op
      go_upto_region 8 with fail
      refine wp_region_pre (by kernel_rfl) 12 [72, 73, 74, 75, 76, 77, 78, 79, 80, 81, 9, 10] (by kernel_rfl) (fun L vs W => Below V3.heap.size V3 W ∧ (L 10 = true → L 11 = true → vs 10 ≠ vs 11) ∧ ∀ i, L i = true → i < 12 → WO8G La Lb Lc R T U A B C c d e V3.heap.size i (vs i) W) ⟨(Below.refl _ _).drew, fun h => (by cases h), fun i hi => (by cases hi)⟩ ?_ ?_
      · intro i o L vs ρ W hi51 ho hli haft hρ hI
        obtain ⟨hb, hD, hG'⟩ := hI
        have hG : ∀ j, L j = true → WO8G La Lb Lc R T U A B C c d e V3.heap.size j (vs j) W := fun j hj => by
          by_cases h51 : j < 12
          · exact hG' j hj h51
          · match j, h51 with
            | j + 12, _ => exact trivial
        have hc := hρ.const
        have hfn := hρ.fn
        have nextG : ∀ v W', Below W.heap.size W W' → WO8G La Lb Lc R T U A B C c d e V3.heap.size i v W' → ∀ j, updB L i j = true → j < 12 → WO8G La Lb Lc R T U A B C c d e V3.heap.size j (updV vs i v j) W' := fun v W' h1 h2 j hj h51 => by
          by_cases hji : j = i
          · subst hji
            simpa [updV] using h2
          · simp only [updB, if_neg hji] at hj
            simpa [updV, hji] using WO8G_mono La Lb Lc R T U A B C c d e V3.heap.size j _ W W' h51 (hG' j hj h51) h1
        have next : i ≠ 10 → i ≠ 11 → ∀ v W', Below W.heap.size W W' → WO8G La Lb Lc R T U A B C c d e V3.heap.size i v W' → Below V3.heap.size V3 W' ∧ (updB L i 10 = true → updB L i 11 = true → updV vs i v 10 ≠ updV vs i v 11) ∧ ∀ j, updB L i j = true → j < 12 → WO8G La Lb Lc R T U A B C c d e V3.heap.size j (updV vs i v j) W' := fun n1 n2 v W' h1 h2 => by
          refine ⟨below_step hb h1, ?_, nextG v W' h1 h2⟩
          simp only [updB, updV, if_neg (Ne.symm n1), if_neg (Ne.symm n2)]
          exact hD
        have hlt : ∀ j, j = 10 ∨ j = 11 → L j = true → vs j ≠ .pointer (some ⟨W.heap.size, 0, none⟩) := fun j hj hL e => by
          rcases hj with rfl | rfl
          · obtain ⟨g, hv, _, hk⟩ := hG' _ hL (by decide)
            rw [hv] at e
            simp only [Value.pointer.injEq, Option.some.injEq, Addr.mk.injEq, and_true] at e
            have := hk.lt
            omega
          · obtain ⟨g, hv, _, hk⟩ := hG' _ hL (by decide)
            rw [hv] at e
            simp only [Value.pointer.injEq, Option.some.injEq, Addr.mk.injEq, and_true] at e
            have := hk.lt
            omega
        obtain ⟨x0, x1, x2, x3⟩ := blk_ln (HX.out.below hb)
        have xl := (HX.out.below hb).lt
        obtain ⟨y0, y1, y2, y3⟩ := blk_ln (HY.out.below hb)
        have yl := (HY.out.below hb).lt
        obtain ⟨z0, z1, z2, z3⟩ := blk_ln (HW.out.below hb)
        have zl := (HW.out.below hb).lt
        rcases i with _ | _ | _ | _ | _ | _ | _ | _ | _ | _ | _ | _ | i
        all_goals (first | omega | skip)
        all_goals simp only [List.getElem?_toArray, List.getElem?_cons_zero, List.getElem?_cons_succ, Option.some.injEq] at ho
        all_goals subst ho
        · have o3 : ρ (.tmp 3) = .pointer (some ⟨g1, 0, none⟩) := hρ.out 3 rfl
          exact stepTo_value (w' := W) (by unfold execOp; simp only [o3, hc]; go_simp) (next (by decide) (by decide) _ _ (Below.refl _ _) rfl)
        · have o4 : ρ (.tmp 4) = .pointer (some ⟨g2, 0, none⟩) := hρ.out 4 rfl
          exact stepTo_value (w' := W) (by unfold execOp; simp only [o4, hc]; go_simp) (next (by decide) (by decide) _ _ (Below.refl _ _) rfl)
        · have g72 : WO8G La Lb Lc R T U A B C c d e V3.heap.size 0 (vs 0) W := hG 0 (haft 0 (by kernel_rfl))
          have s72 : ρ (.tmp 72) = .agg #[.int .u64 (La.ep : Int), .int .i64 La.bf, .bool La.ls, .slice A La.gs.length c] := (hρ.at_ 72 0 rfl).trans g72
          have g73 : WO8G La Lb Lc R T U A B C c d e V3.heap.size 1 (vs 1) W := hG 1 (haft 1 (by kernel_rfl))
          have s73 : ρ (.tmp 73) = .agg #[.int .u64 (Lb.ep : Int), .int .i64 Lb.bf, .bool Lb.ls, .slice B Lb.gs.length d] := (hρ.at_ 73 1 rfl).trans g73
          refine stepTo_enter (f := 15) (args := #[.agg #[.int .u64 (La.ep : Int), .int .i64 La.bf, .bool La.ls, .slice A La.gs.length c], .agg #[.int .u64 (Lb.ep : Int), .int .i64 Lb.bf, .bool Lb.ls, .slice B Lb.gs.length d]]) (w' := W) (by unfold execOp; simp only [hfn, s72, s73]; go_simp) (((merge_is HR.out (lnL_agg (HA.out.below hb)) (lnL_agg (HB'.out.below hb)) HZ.out HZ2.out)).mono ?_)
          rintro x W' ⟨v', rfl, ⟨u', rfl, ho'⟩, hb'⟩
          exact ⟨_, rfl, next (by decide) (by decide) _ _ hb' (ln_word ho')⟩
        · have o5 : ρ (.tmp 5) = .pointer (some ⟨g3, 0, none⟩) := hρ.out 5 rfl
          exact stepTo_value (w' := W) (by unfold execOp; simp only [o5, hc]; go_simp) (next (by decide) (by decide) _ _ (Below.refl _ _) rfl)
        · obtain ⟨A74, c74, g74, hh741⟩ : WO8G La Lb Lc R T U A B C c d e V3.heap.size 2 (vs 2) W := hG 2 (haft 2 (by kernel_rfl))
          have s74 : ρ (.tmp 74) = .agg #[.int .u64 (R.ep : Int), .int .i64 R.bf, .bool R.ls, .slice A74 R.gs.length c74] := (hρ.at_ 74 2 rfl).trans g74
          have g75 : WO8G La Lb Lc R T U A B C c d e V3.heap.size 3 (vs 3) W := hG 3 (haft 3 (by kernel_rfl))
          have s75 : ρ (.tmp 75) = .agg #[.int .u64 (Lc.ep : Int), .int .i64 Lc.bf, .bool Lc.ls, .slice C Lc.gs.length e] := (hρ.at_ 75 3 rfl).trans g75
          refine stepTo_enter (f := 15) (args := #[.agg #[.int .u64 (R.ep : Int), .int .i64 R.bf, .bool R.ls, .slice A74 R.gs.length c74], .agg #[.int .u64 (Lc.ep : Int), .int .i64 Lc.bf, .bool Lc.ls, .slice C Lc.gs.length e]]) (w' := W) (by unfold execOp; simp only [hfn, s74, s75]; go_simp) (((merge_is HU.out ⟨A74, c74, rfl, ogd_gdl hh741⟩ (lnL_agg (HC.out.below hb)) HZR.out HZ3.out)).mono ?_)
          rintro x W' ⟨v', rfl, ⟨u', rfl, ho'⟩, hb'⟩
          exact ⟨_, rfl, next (by decide) (by decide) _ _ hb' (ln_word ho')⟩
        · have o3 : ρ (.tmp 3) = .pointer (some ⟨g1, 0, none⟩) := hρ.out 3 rfl
          exact stepTo_value (w' := W) (by unfold execOp; simp only [o3, hc]; go_simp) (next (by decide) (by decide) _ _ (Below.refl _ _) rfl)
        · have o4 : ρ (.tmp 4) = .pointer (some ⟨g2, 0, none⟩) := hρ.out 4 rfl
          exact stepTo_value (w' := W) (by unfold execOp; simp only [o4, hc]; go_simp) (next (by decide) (by decide) _ _ (Below.refl _ _) rfl)
        · have o5 : ρ (.tmp 5) = .pointer (some ⟨g3, 0, none⟩) := hρ.out 5 rfl
          exact stepTo_value (w' := W) (by unfold execOp; simp only [o5, hc]; go_simp) (next (by decide) (by decide) _ _ (Below.refl _ _) rfl)
        · have g78 : WO8G La Lb Lc R T U A B C c d e V3.heap.size 6 (vs 6) W := hG 6 (haft 6 (by kernel_rfl))
          have s78 : ρ (.tmp 78) = .agg #[.int .u64 (Lb.ep : Int), .int .i64 Lb.bf, .bool Lb.ls, .slice B Lb.gs.length d] := (hρ.at_ 78 6 rfl).trans g78
          have g79 : WO8G La Lb Lc R T U A B C c d e V3.heap.size 7 (vs 7) W := hG 7 (haft 7 (by kernel_rfl))
          have s79 : ρ (.tmp 79) = .agg #[.int .u64 (Lc.ep : Int), .int .i64 Lc.bf, .bool Lc.ls, .slice C Lc.gs.length e] := (hρ.at_ 79 7 rfl).trans g79
          refine stepTo_enter (f := 15) (args := #[.agg #[.int .u64 (Lb.ep : Int), .int .i64 Lb.bf, .bool Lb.ls, .slice B Lb.gs.length d], .agg #[.int .u64 (Lc.ep : Int), .int .i64 Lc.bf, .bool Lc.ls, .slice C Lc.gs.length e]]) (w' := W) (by unfold execOp; simp only [hfn, s78, s79]; go_simp) (((merge_is HT.out (lnL_agg (HB'.out.below hb)) (lnL_agg (HC.out.below hb)) HZ2.out HZ3.out)).mono ?_)
          rintro x W' ⟨v', rfl, ⟨u', rfl, ho'⟩, hb'⟩
          exact ⟨_, rfl, next (by decide) (by decide) _ _ hb' (ln_word ho')⟩
        · have g77 : WO8G La Lb Lc R T U A B C c d e V3.heap.size 5 (vs 5) W := hG 5 (haft 5 (by kernel_rfl))
          have s77 : ρ (.tmp 77) = .agg #[.int .u64 (La.ep : Int), .int .i64 La.bf, .bool La.ls, .slice A La.gs.length c] := (hρ.at_ 77 5 rfl).trans g77
          obtain ⟨A80, c80, g80, hh801⟩ : WO8G La Lb Lc R T U A B C c d e V3.heap.size 8 (vs 8) W := hG 8 (haft 8 (by kernel_rfl))
          have s80 : ρ (.tmp 80) = .agg #[.int .u64 (T.ep : Int), .int .i64 T.bf, .bool T.ls, .slice A80 T.gs.length c80] := (hρ.at_ 80 8 rfl).trans g80
          refine stepTo_enter (f := 15) (args := #[.agg #[.int .u64 (La.ep : Int), .int .i64 La.bf, .bool La.ls, .slice A La.gs.length c], .agg #[.int .u64 (T.ep : Int), .int .i64 T.bf, .bool T.ls, .slice A80 T.gs.length c80]]) (w' := W) (by unfold execOp; simp only [hfn, s77, s80]; go_simp) (((merge_is HU2.out (lnL_agg (HA.out.below hb)) ⟨A80, c80, rfl, ogd_gdl hh801⟩ HZ.out HZT.out)).mono ?_)
          rintro x W' ⟨v', rfl, ⟨u', rfl, ho'⟩, hb'⟩
          exact ⟨_, rfl, next (by decide) (by decide) _ _ hb' (ln_word ho')⟩
        · refine stepTo_value (v := .pointer (some ⟨W.heap.size, 0, none⟩)) (w' := W.alloc (.cells #[.int .u64 0, .int .i64 0, .bool false, .slice none 0 0] 25)) (by unfold execOp; simp only [hc]; go_simp) ?_
          have hb1 : Below W.heap.size W (W.alloc (.cells #[.int .u64 0, .int .i64 0, .bool false, .slice none 0 0] 25)) := (Below.refl _ W).alloc (Nat.le_refl _) _
          refine ⟨below_step hb hb1, fun hq1 hq2 => ?_, nextG _ _ hb1 ⟨W.heap.size, rfl, hb.size, Blk.new _ _ _⟩⟩
          have hq : L 11 = true := by simpa [updB] using hq2
          simp only [updV, if_true]
          exact fun e => hlt 11 (by omega) hq (by simpa using e.symm)
        · refine stepTo_value (v := .pointer (some ⟨W.heap.size, 0, none⟩)) (w' := W.alloc (.cells #[.int .u64 0, .int .i64 0, .bool false, .slice none 0 0] 25)) (by unfold execOp; simp only [hc]; go_simp) ?_
          have hb1 : Below W.heap.size W (W.alloc (.cells #[.int .u64 0, .int .i64 0, .bool false, .slice none 0 0] 25)) := (Below.refl _ W).alloc (Nat.le_refl _) _
          refine ⟨below_step hb hb1, fun hq1 hq2 => ?_, nextG _ _ hb1 ⟨W.heap.size, rfl, hb.size, Blk.new _ _ _⟩⟩
          have hq : L 10 = true := by simpa [updB] using hq1
          simp only [updV, if_true]
          exact fun e => hlt 10 (by omega) hq (by simpa using e)
      · intro L vs W3 hL hI
        obtain ⟨hb, hD, hG⟩ := hI
        have hd := hD (hL 10 (by decide)) (hL 11 (by decide))
        obtain ⟨Ar, cr, h4, ho1⟩ : WO8G La Lb Lc R T U A B C c d e V3.heap.size 4 (vs 4) W3 := hG 4 (hL 4 (by decide)) (by decide)
        obtain ⟨At, ct, h9, ho2⟩ : WO8G La Lb Lc R T U A B C c d e V3.heap.size 9 (vs 9) W3 := hG 9 (hL 9 (by decide)) (by decide)
        obtain ⟨gr, h10, hlo1, hk1⟩ : WO8G La Lb Lc R T U A B C c d e V3.heap.size 10 (vs 10) W3 := hG 10 (hL 10 (by decide)) (by decide)
        obtain ⟨gt, h11, hlo2, hk2⟩ : WO8G La Lb Lc R T U A B C c d e V3.heap.size 11 (vs 11) W3 := hG 11 (hL 11 (by decide)) (by decide)
        have hne : gr ≠ gt := fun e => hd (by rw [h10, h11, e])
        have hBV : Below V3.heap.size V3 (lnP (lnP W3 gr (.int .u64 (U.ep : Int)) (.int .i64 U.bf) (.bool U.ls) (.slice Ar U.gs.length cr)) gt (.int .u64 (U.ep : Int)) (.int .i64 U.bf) (.bool U.ls) (.slice At U.gs.length ct)) := lnP_below (lnP_below hb hlo1 _ _ _ _) hlo2 _ _ _ _
        have hk2' := hk2.of_block (lnP_oth W3 gr (.int .u64 (U.ep : Int)) (.int .i64 U.bf) (.bool U.ls) (.slice Ar U.gs.length cr) (Ne.symm hne))
        have hK1 := (lnP_blk hk1 (.int .u64 (U.ep : Int)) (.int .i64 U.bf) (.bool U.ls) (.slice Ar U.gs.length cr)).of_block (lnP_oth (lnP W3 gr (.int .u64 (U.ep : Int)) (.int .i64 U.bf) (.bool U.ls) (.slice Ar U.gs.length cr)) gt (.int .u64 (U.ep : Int)) (.int .i64 U.bf) (.bool U.ls) (.slice At U.gs.length ct) hne)
        have hK2 := lnP_blk hk2' (.int .u64 (U.ep : Int)) (.int .i64 U.bf) (.bool U.ls) (.slice At U.gs.length ct)
        have hO1 := ogd_put (ogd_put ho1 hk1 (.int .u64 (U.ep : Int)) (.int .i64 U.bf) (.bool U.ls) (.slice Ar U.gs.length cr)) hk2' (.int .u64 (U.ep : Int)) (.int .i64 U.bf) (.bool U.ls) (.slice At U.gs.length ct)
        have hO2 := ogd_put (ogd_put ho2 hk1 (.int .u64 (U.ep : Int)) (.int .i64 U.bf) (.bool U.ls) (.slice Ar U.gs.length cr)) hk2' (.int .u64 (U.ep : Int)) (.int .i64 U.bf) (.bool U.ls) (.slice At U.gs.length ct)
        obtain ⟨m0, m1, m2, m3⟩ := blk_ln hk1
        obtain ⟨p0, p1, p2, p3⟩ := blk_ln hk2
        have f0 := hk1.frozen 0
        have f1 := hk1.frozen 1
        have f2 := hk1.frozen 2
        have f3 := hk1.frozen 3
        have e0 := hk2.frozen 0
        have e1 := hk2.frozen 1
        have e2 := hk2.frozen 2
        have e3 := hk2.frozen 3
        have hlm := hk1.lt
        have hlp := hk2.lt
        clear hL hG hk1 hk2 hk2' hb hlo1 hlo2 ho1 ho2 hd hD
        simp only [putList, putSel, if_true]
        rw [h4, h9, h10, h11]
        generalize vs 0 = yr0
        generalize vs 1 = yr1
        generalize vs 2 = yr2
        generalize vs 3 = yr3
        generalize vs 5 = yr5
        generalize vs 6 = yr6
        generalize vs 7 = yr7
        generalize vs 8 = yr8
        clear h4 h9 h10 h11
        simp only [Act.put, List.setIfInBounds_toArray, List.set_cons_succ, List.set_cons_zero]
        refine wpAny_one (i := 12) (by kernel_rfl) rfl rfl ?_
        go_simp
        refine wpAny_one (i := 13) (by kernel_rfl) rfl rfl ?_
        go_simp
        refine ⟨by kernel_rfl, ?_⟩
        clear m0 m1 m2 m3 f0 f1 f2 f3 hlm p0 p1 p2 p3 e0 e1 e2 e3 hlp hne
        show Exit.then _ _ Exit.normal _ (lnP (lnP W3 gr (.int .u64 (U.ep : Int)) (.int .i64 U.bf) (.bool U.ls) (.slice Ar U.gs.length cr)) gt (.int .u64 (U.ep : Int)) (.int .i64 U.bf) (.bool U.ls) (.slice At U.gs.length ct))
        obtain ⟨V4, hV⟩ : ∃ z, lnP (lnP W3 gr (.int .u64 (U.ep : Int)) (.int .i64 U.bf) (.bool U.ls) (.slice Ar U.gs.length cr)) gt (.int .u64 (U.ep : Int)) (.int .i64 U.bf) (.bool U.ls) (.slice At U.gs.length ct) = z := ⟨_, rfl⟩
        rw [hV] at hK1 hK2 hO1 hO2 hBV ⊢
        clear hV
        have Kr := Lib.hid hK1
        have Kt := Lib.hid hK2
        have Or := Lib.hid hO1
        have Ot := Lib.hid hO2
        clear hK1 hK2 hO1 hO2
        have nHA := HA.out.below hBV
        clear HA
        have HA := Lib.hid nHA
        clear nHA
        have hB' := below_step HB.out hBV
        clear HB
        have HB := Lib.hid hB'
        clear hB' hBV
        obtain ⟨x0, x1, x2, x3⟩ := blk_ln Kr.out
        obtain ⟨y0, y1, y2, y3⟩ := blk_ln Kt.out
        have xl := Kr.out.lt
        have yl := Kt.out.lt
        go_wp2_with fail
        refine (same_is (L := U) (M := U) (r := true) (decide_eq_true rfl) (lnL_agg (ogd_gdl Or.out)) (lnL_agg (ogd_gdl Ot.out)) HZU.out.int HZU.out.int).mono ?_
        rintro en V5 ⟨rfl, hb5⟩
        have HB5 := Lib.hid (below_step HB.out hb5)
        clear hb5
        go_wp2_with fail
        go_ret
        exact ⟨rfl, HB5.out⟩
end Go.Proofs.Ytbbgeccbdellmaa.ln

