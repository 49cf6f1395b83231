/- LineChecks: may a line be, and are two alike; of all lines. -/
import Derived.Test.YtbbgeccbdellmaaQ2
import Derived.Test.YtbbgeccbdellmaaQ6
import Derived.Test.YtbbgeccbdellmaaRows
import Derived.Deep.DeepHandedRow
import Derived.ProofKit
import Derived.OpenShut
import Derived.ShutString
import Derived.SizedLaws
import Derived.ChangeOld
import Derived.Below
import Derived.SliceStrings
set_option linter.unusedVariables false
set_option linter.unusedSimpArgs false
/- The walk of LineChecks. -/
namespace Go.Proofs.Ytbbgeccbdellmaa.ln
open Go Go.RowKit Go.Sort Go.Proofs.Ytbbgeccbdellmaa Go.Proofs.Ytbbgeccbdellmaa.ib Go.Proofs.Ytbbgeccbdellmaa.lg
set_option maxRecDepth 100000

def WChG (La Lb : Ln) (A B : Option Addr) (c d g1 : Nat) (k1 k2 : Int) (q : Bool) : Nat → Value → World → Prop
  | 0, v, _ => v = .agg #[.int .u64 (La.ep : Int), .int .i64 La.bf, .bool La.ls, .slice A La.gs.length c]
  | 1, v, _ => v = .int .i64 k1
  | 2, v, _ => v = .agg #[.int .u64 (La.ep : Int), .int .i64 La.bf, .bool La.ls, .slice A La.gs.length c]
  | 3, v, _ => v = .int .i64 k1
  | 4, v, _ => v = .bool true
  | 5, v, _ => v = .bool true
  | 6, v, _ => v = .agg #[.int .u64 (Lb.ep : Int), .int .i64 Lb.bf, .bool Lb.ls, .slice B Lb.gs.length d]
  | 7, v, _ => v = .int .i64 k2
  | 8, v, _ => v = .agg #[.int .u64 (Lb.ep : Int), .int .i64 Lb.bf, .bool Lb.ls, .slice B Lb.gs.length d]
  | 9, v, _ => v = .int .i64 k2
  | 10, v, _ => v = .bool true
  | 11, v, _ => v = .bool true
  | 12, v, _ => v = .bool true
  | 13, v, _ => v = .agg #[.int .u64 (La.ep : Int), .int .i64 La.bf, .bool La.ls, .slice A La.gs.length c]
  | 14, v, _ => v = .agg #[.int .u64 (Lb.ep : Int), .int .i64 Lb.bf, .bool Lb.ls, .slice B Lb.gs.length d]
  | 15, v, _ => v = .bool q
  | 16, v, _ => v = .agg #[.int .u64 (La.ep : Int), .int .i64 La.bf, .bool La.ls, .slice A La.gs.length c]
  | 17, v, _ => v = .agg #[.int .u64 (Lb.ep : Int), .int .i64 Lb.bf, .bool Lb.ls, .slice B Lb.gs.length d]
  | 18, v, _ => v = .bool q
  | 19, v, _ => v = .bool true
  | 20, v, _ => v = .bool true
  | 21, v, _ => v = .bool true
  | 22, v, _ => v = .agg #[.int .u64 (La.ep : Int), .int .i64 La.bf, .bool La.ls, .slice A La.gs.length c]
  | 23, v, _ => v = .agg #[.int .u64 (La.ep : Int), .int .i64 La.bf, .bool La.ls, .slice A La.gs.length c]
  | 24, v, _ => v = .bool true
  | 25, v, _ => v = .bool true
  | 26, v, _ => v = .bool true
  | 27, v, _ => v = .bool true
  | 28, v, _ => v = .bool true
  | 29, v, _ => v = .bool true
  | _, _, _ => True
theorem WChG_mono (La Lb : Ln) (A B : Option Addr) (c d g1 : Nat) (k1 k2 : Int) (q : Bool) (i : Nat) (v : Value) (w w' : World) (hi : i < 30) (h : WChG La Lb A B c d g1 k1 k2 q i v w) (hb : Below w.heap.size w w') : WChG La Lb A B c d g1 k1 k2 q i v w' := by
  match i, hi, h with
  | 0, _, h | 1, _, h | 2, _, h | 3, _, h | 4, _, h | 5, _, h | 6, _, h | 7, _, h | 8, _, h | 9, _, h | 10, _, h | 11, _, h | 12, _, h | 13, _, h | 14, _, h | 15, _, h | 16, _, h | 17, _, h | 18, _, h | 19, _, h | 20, _, h | 21, _, h | 22, _, h | 23, _, h | 24, _, h | 25, _, h | 26, _, h | 27, _, h | 28, _, h | 29, _, h => exact h
  | j + 30, hi, _ => exact absurd hi (by omega)
set_option maxHeartbeats 12800000 in
theorem lineChecks_walk (v : Value) (La : Ln) (u : Value) (Lb : Ln) (w : World) (hv : LnL w v La) (hz : szL La) (hu : LnL w u Lb) (hy : szL Lb) :
    Calls Try.prog 3 #[v, u] w (endB true w) := by
  obtain ⟨A, c, rfl, hA⟩ := hv
  obtain ⟨B, d, rfl, hB⟩ := hu
  obtain ⟨hx, hy2, hb⟩ := two_new w (lnV La (.slice A La.gs.length c)) (lnV Lb (.slice B Lb.gs.length d)) 25 25
  unfold lnV at hx hy2 hb
  obtain ⟨V0, hV0⟩ : ∃ z, (w.alloc (.cells #[.int .u64 (La.ep : Int), .int .i64 La.bf, .bool La.ls, .slice A La.gs.length c] 25)).alloc (.cells #[.int .u64 (Lb.ep : Int), .int .i64 Lb.bf, .bool Lb.ls, .slice B Lb.gs.length d] 25) = z := ⟨_, rfl⟩
  rw [hV0] at hx hy2 hb
  have HA : Hid (GdL V0 A La.gs c) := hA.below hb
  have HB' : Hid (GdL V0 B Lb.gs d) := hB.below hb
  have HB := Lib.hid hb
  have HX := Lib.hid hx
  have HY := Lib.hid hy2
  have HZ := Lib.hid hz
  have HZ2 := Lib.hid hy
  go_enter Try.func3, Try.ntmps3
  go_upto_region 1 with fail
  try rw [hV0]
  clear hV0 hA hB hb hx hy2 hz hy
  obtain ⟨g1, hg1⟩ : ∃ g, w.heap.size = g := ⟨_, rfl⟩
  rw [hg1] at HX HY
  try rw [hg1]
  clear hg1
  obtain ⟨k1, hk1⟩ : ∃ k, nCheck La = k := ⟨_, rfl⟩
  have K1 := Lib.hid hk1
  clear hk1
  obtain ⟨k2, hk2⟩ : ∃ k, nCheck Lb = k := ⟨_, rfl⟩
  have K2 := Lib.hid hk2
  clear hk2
  obtain ⟨q, hq⟩ : ∃ k, decide (La = Lb) = k := ⟨_, rfl⟩
  have Q := Lib.hid hq
  clear hq
  refine wp_region_inv (by kernel_rfl) [5, 6, 7, 8, 9, 10, 11, 12, 13, 14, 15, 16, 17, 18, 19, 20, 21, 22, 23, 24, 25, 26, 27, 28, 29, 30, 31, 32, 33, 4] (by kernel_rfl) (fun L vs W => Below V0.heap.size V0 W ∧ ∀ i, L i = true → i < 30 → WChG La Lb A B c d g1 k1 k2 q i (vs i) W) ⟨(Below.refl _ _).drew, fun i hi => by cases hi⟩ ?_ ?_ ?_
  · intro i o L vs ρ W ho hli haft hρ hgd hI
    obtain ⟨hb, hG'⟩ := hI
    have hG : ∀ j, L j = true → WChG La Lb A B c d g1 k1 k2 q j (vs j) W := fun j hj => by
      by_cases h51 : j < 30
      · exact hG' j hj h51
      · match j, h51 with
        | j + 30, _ => exact trivial
    have hi51 : i < 30 := (Array.getElem?_eq_some_iff.1 ho).1
    have hc := hρ.const
    have hfn := hρ.fn
    have next : ∀ v W', Below W.heap.size W W' → WChG La Lb A B c d g1 k1 k2 q i v W' → Below V0.heap.size V0 W' ∧ ∀ j, updB L i j = true → j < 30 → WChG La Lb A B c d g1 k1 k2 q j (updV vs i v j) W' := fun v W' h1 h2 => by
      refine ⟨below_step hb h1, fun j hj h51 => ?_⟩
      by_cases hji : j = i
      · subst hji
        simpa [updV] using h2
      · simp only [updB, if_neg hji] at hj
        simpa [updV, hji] using WChG_mono La Lb A B c d g1 k1 k2 q j _ W W' h51 (hG' j hj h51) h1
    obtain ⟨x0, x1, x2, x3⟩ := blk_ln (HX.out.below hb)
    have xl := (HX.out.below hb).lt
    obtain ⟨y0, y1, y2, y3⟩ := blk_ln (HY.out.below hb)
    have yl := (HY.out.below hb).lt
    rcases i with _ | _ | _ | _ | _ | _ | _ | _ | _ | _ | _ | _ | _ | _ | _ | _ | _ | _ | _ | _ | _ | _ | _ | _ | _ | _ | _ | _ | _ | _ | i
    all_goals (first | omega | skip)
    all_goals simp only [List.getElem?_toArray, List.getElem?_cons_zero, List.getElem?_cons_succ, Option.some.injEq] at ho
    all_goals subst ho
    · have o2 : ρ (.tmp 2) = .pointer (some ⟨g1, 0, none⟩) := hρ.out 2 rfl
      exact stepTo_value (w' := W) (by unfold execOp; simp only [o2, hc]; go_simp) (next _ _ (Below.refl _ _) rfl)
    · have g5 : WChG La Lb A B c d g1 k1 k2 q 0 (vs 0) W := hG 0 (haft 0 (by kernel_rfl))
      have s5 : ρ (.tmp 5) = .agg #[.int .u64 (La.ep : Int), .int .i64 La.bf, .bool La.ls, .slice A La.gs.length c] := (hρ.at_ 5 0 rfl).trans g5
      refine stepTo_enter (f := 10) (args := #[.agg #[.int .u64 (La.ep : Int), .int .i64 La.bf, .bool La.ls, .slice A La.gs.length c]]) (w' := W) (by unfold execOp; simp only [hfn, s5]; go_simp) (((check_is (v := .agg #[.int .u64 (La.ep : Int), .int .i64 La.bf, .bool La.ls, .slice A La.gs.length c]) (L := La) (k := k1) K1.out (lnL_agg (HA.out.below hb)) HZ.out.int)).mono ?_)
      rintro x W' ⟨rfl, hb'⟩
      exact ⟨_, rfl, next _ _ hb' rfl⟩
    · have o2 : ρ (.tmp 2) = .pointer (some ⟨g1, 0, none⟩) := hρ.out 2 rfl
      exact stepTo_value (w' := W) (by unfold execOp; simp only [o2, hc]; go_simp) (next _ _ (Below.refl _ _) rfl)
    · have g7 : WChG La Lb A B c d g1 k1 k2 q 2 (vs 2) W := hG 2 (haft 2 (by kernel_rfl))
      have s7 : ρ (.tmp 7) = .agg #[.int .u64 (La.ep : Int), .int .i64 La.bf, .bool La.ls, .slice A La.gs.length c] := (hρ.at_ 7 2 rfl).trans g7
      refine stepTo_enter (f := 11) (args := #[.agg #[.int .u64 (La.ep : Int), .int .i64 La.bf, .bool La.ls, .slice A La.gs.length c]]) (w' := W) (by unfold execOp; simp only [hfn, s7]; go_simp) (((rcheck_is (v := .agg #[.int .u64 (La.ep : Int), .int .i64 La.bf, .bool La.ls, .slice A La.gs.length c]) (L := La) (k := k1) K1.out (lnL_agg (HA.out.below hb)))).mono ?_)
      rintro x W' ⟨rfl, hb'⟩
      exact ⟨_, rfl, next _ _ hb' rfl⟩
    · have g6 : WChG La Lb A B c d g1 k1 k2 q 1 (vs 1) W := hG 1 (haft 1 (by kernel_rfl))
      have s6 : ρ (.tmp 6) = .int .i64 k1 := (hρ.at_ 6 1 rfl).trans g6
      have g8 : WChG La Lb A B c d g1 k1 k2 q 3 (vs 3) W := hG 3 (haft 3 (by kernel_rfl))
      have s8 : ρ (.tmp 8) = .int .i64 k1 := (hρ.at_ 8 3 rfl).trans g8
      exact stepTo_value (w' := W) (by unfold execOp; simp only [s6, s8, hc]; go_simp) (next _ _ (Below.refl _ _) rfl)
    · have g9 : WChG La Lb A B c d g1 k1 k2 q 4 (vs 4) W := hG 4 (haft 4 (by kernel_rfl))
      have s9 : ρ (.tmp 9) = .bool true := (hρ.at_ 9 4 rfl).trans g9
      exact stepTo_value (w' := W) (by unfold execOp; simp only [s9, hc]; go_simp) (next _ _ (Below.refl _ _) rfl)
    · have o3 : ρ (.tmp 3) = .pointer (some ⟨g1 + 1, 0, none⟩) := hρ.out 3 rfl
      exact stepTo_value (w' := W) (by unfold execOp; simp only [o3, hc]; go_simp) (next _ _ (Below.refl _ _) rfl)
    · have g11 : WChG La Lb A B c d g1 k1 k2 q 6 (vs 6) W := hG 6 (haft 6 (by kernel_rfl))
      have s11 : ρ (.tmp 11) = .agg #[.int .u64 (Lb.ep : Int), .int .i64 Lb.bf, .bool Lb.ls, .slice B Lb.gs.length d] := (hρ.at_ 11 6 rfl).trans g11
      refine stepTo_enter (f := 10) (args := #[.agg #[.int .u64 (Lb.ep : Int), .int .i64 Lb.bf, .bool Lb.ls, .slice B Lb.gs.length d]]) (w' := W) (by unfold execOp; simp only [hfn, s11]; go_simp) (((check_is (v := .agg #[.int .u64 (Lb.ep : Int), .int .i64 Lb.bf, .bool Lb.ls, .slice B Lb.gs.length d]) (L := Lb) (k := k2) K2.out (lnL_agg (HB'.out.below hb)) HZ2.out.int)).mono ?_)
      rintro x W' ⟨rfl, hb'⟩
      exact ⟨_, rfl, next _ _ hb' rfl⟩
    · have o3 : ρ (.tmp 3) = .pointer (some ⟨g1 + 1, 0, none⟩) := hρ.out 3 rfl
      exact stepTo_value (w' := W) (by unfold execOp; simp only [o3, hc]; go_simp) (next _ _ (Below.refl _ _) rfl)
    · have g13 : WChG La Lb A B c d g1 k1 k2 q 8 (vs 8) W := hG 8 (haft 8 (by kernel_rfl))
      have s13 : ρ (.tmp 13) = .agg #[.int .u64 (Lb.ep : Int), .int .i64 Lb.bf, .bool Lb.ls, .slice B Lb.gs.length d] := (hρ.at_ 13 8 rfl).trans g13
      refine stepTo_enter (f := 11) (args := #[.agg #[.int .u64 (Lb.ep : Int), .int .i64 Lb.bf, .bool Lb.ls, .slice B Lb.gs.length d]]) (w' := W) (by unfold execOp; simp only [hfn, s13]; go_simp) (((rcheck_is (v := .agg #[.int .u64 (Lb.ep : Int), .int .i64 Lb.bf, .bool Lb.ls, .slice B Lb.gs.length d]) (L := Lb) (k := k2) K2.out (lnL_agg (HB'.out.below hb)))).mono ?_)
      rintro x W' ⟨rfl, hb'⟩
      exact ⟨_, rfl, next _ _ hb' rfl⟩
    · have g12 : WChG La Lb A B c d g1 k1 k2 q 7 (vs 7) W := hG 7 (haft 7 (by kernel_rfl))
      have s12 : ρ (.tmp 12) = .int .i64 k2 := (hρ.at_ 12 7 rfl).trans g12
      have g14 : WChG La Lb A B c d g1 k1 k2 q 9 (vs 9) W := hG 9 (haft 9 (by kernel_rfl))
      have s14 : ρ (.tmp 14) = .int .i64 k2 := (hρ.at_ 14 9 rfl).trans g14
      exact stepTo_value (w' := W) (by unfold execOp; simp only [s12, s14, hc]; go_simp) (next _ _ (Below.refl _ _) rfl)
    · have g10 : WChG La Lb A B c d g1 k1 k2 q 5 (vs 5) W := hG 5 (haft 5 (by kernel_rfl))
      have s10 : ρ (.tmp 10) = .bool true := (hρ.at_ 10 5 rfl).trans g10
      have g15 : WChG La Lb A B c d g1 k1 k2 q 10 (vs 10) W := hG 10 (haft 10 (by kernel_rfl))
      have s15 : ρ (.tmp 15) = .bool true := (hρ.at_ 15 10 rfl).trans g15
      exact stepTo_value (w' := W) (by unfold execOp; simp only [s10, s15, hc]; go_simp) (next _ _ (Below.refl _ _) rfl)
    · have g16 : WChG La Lb A B c d g1 k1 k2 q 11 (vs 11) W := hG 11 (haft 11 (by kernel_rfl))
      have s16 : ρ (.tmp 16) = .bool true := (hρ.at_ 16 11 rfl).trans g16
      exact stepTo_value (w' := W) (by unfold execOp; simp only [s16, hc]; go_simp) (next _ _ (Below.refl _ _) rfl)
    · have o2 : ρ (.tmp 2) = .pointer (some ⟨g1, 0, none⟩) := hρ.out 2 rfl
      exact stepTo_value (w' := W) (by unfold execOp; simp only [o2, hc]; go_simp) (next _ _ (Below.refl _ _) rfl)
    · have o3 : ρ (.tmp 3) = .pointer (some ⟨g1 + 1, 0, none⟩) := hρ.out 3 rfl
      exact stepTo_value (w' := W) (by unfold execOp; simp only [o3, hc]; go_simp) (next _ _ (Below.refl _ _) rfl)
    · have g18 : WChG La Lb A B c d g1 k1 k2 q 13 (vs 13) W := hG 13 (haft 13 (by kernel_rfl))
      have s18 : ρ (.tmp 18) = .agg #[.int .u64 (La.ep : Int), .int .i64 La.bf, .bool La.ls, .slice A La.gs.length c] := (hρ.at_ 18 13 rfl).trans g18
      have g19 : WChG La Lb A B c d g1 k1 k2 q 14 (vs 14) W := hG 14 (haft 14 (by kernel_rfl))
      have s19 : ρ (.tmp 19) = .agg #[.int .u64 (Lb.ep : Int), .int .i64 Lb.bf, .bool Lb.ls, .slice B Lb.gs.length d] := (hρ.at_ 19 14 rfl).trans g19
      refine stepTo_enter (f := 12) (args := #[.agg #[.int .u64 (La.ep : Int), .int .i64 La.bf, .bool La.ls, .slice A La.gs.length c], .agg #[.int .u64 (Lb.ep : Int), .int .i64 Lb.bf, .bool Lb.ls, .slice B Lb.gs.length d]]) (w' := W) (by unfold execOp; simp only [hfn, s18, s19]; go_simp) (((same_is (v := .agg #[.int .u64 (La.ep : Int), .int .i64 La.bf, .bool La.ls, .slice A La.gs.length c]) (u := .agg #[.int .u64 (Lb.ep : Int), .int .i64 Lb.bf, .bool Lb.ls, .slice B Lb.gs.length d]) (L := La) (M := Lb) (r := q) Q.out (lnL_agg (HA.out.below hb)) (lnL_agg (HB'.out.below hb)) HZ.out.int HZ2.out.int)).mono ?_)
      rintro x W' ⟨rfl, hb'⟩
      exact ⟨_, rfl, next _ _ hb' rfl⟩
    · have o2 : ρ (.tmp 2) = .pointer (some ⟨g1, 0, none⟩) := hρ.out 2 rfl
      exact stepTo_value (w' := W) (by unfold execOp; simp only [o2, hc]; go_simp) (next _ _ (Below.refl _ _) rfl)
    · have o3 : ρ (.tmp 3) = .pointer (some ⟨g1 + 1, 0, none⟩) := hρ.out 3 rfl
      exact stepTo_value (w' := W) (by unfold execOp; simp only [o3, hc]; go_simp) (next _ _ (Below.refl _ _) rfl)
    · have g21 : WChG La Lb A B c d g1 k1 k2 q 16 (vs 16) W := hG 16 (haft 16 (by kernel_rfl))
      have s21 : ρ (.tmp 21) = .agg #[.int .u64 (La.ep : Int), .int .i64 La.bf, .bool La.ls, .slice A La.gs.length c] := (hρ.at_ 21 16 rfl).trans g21
      have g22 : WChG La Lb A B c d g1 k1 k2 q 17 (vs 17) W := hG 17 (haft 17 (by kernel_rfl))
      have s22 : ρ (.tmp 22) = .agg #[.int .u64 (Lb.ep : Int), .int .i64 Lb.bf, .bool Lb.ls, .slice B Lb.gs.length d] := (hρ.at_ 22 17 rfl).trans g22
      refine stepTo_enter (f := 13) (args := #[.agg #[.int .u64 (La.ep : Int), .int .i64 La.bf, .bool La.ls, .slice A La.gs.length c], .agg #[.int .u64 (Lb.ep : Int), .int .i64 Lb.bf, .bool Lb.ls, .slice B Lb.gs.length d]]) (w' := W) (by unfold execOp; simp only [hfn, s21, s22]; go_simp) (((rsame_is (v := .agg #[.int .u64 (La.ep : Int), .int .i64 La.bf, .bool La.ls, .slice A La.gs.length c]) (u := .agg #[.int .u64 (Lb.ep : Int), .int .i64 Lb.bf, .bool Lb.ls, .slice B Lb.gs.length d]) (L := La) (M := Lb) (r := q) Q.out (lnL_agg (HA.out.below hb)) (lnL_agg (HB'.out.below hb)) HZ.out.int HZ2.out.int)).mono ?_)
      rintro x W' ⟨rfl, hb'⟩
      exact ⟨_, rfl, next _ _ hb' rfl⟩
    · have g20 : WChG La Lb A B c d g1 k1 k2 q 15 (vs 15) W := hG 15 (haft 15 (by kernel_rfl))
      have s20 : ρ (.tmp 20) = .bool q := (hρ.at_ 20 15 rfl).trans g20
      have g23 : WChG La Lb A B c d g1 k1 k2 q 18 (vs 18) W := hG 18 (haft 18 (by kernel_rfl))
      have s23 : ρ (.tmp 23) = .bool q := (hρ.at_ 23 18 rfl).trans g23
      exact stepTo_value (w' := W) (by unfold execOp; simp only [s20, s23, hc]; go_simp) (next _ _ (Below.refl _ _) rfl)
    · have g17 : WChG La Lb A B c d g1 k1 k2 q 12 (vs 12) W := hG 12 (haft 12 (by kernel_rfl))
      have s17 : ρ (.tmp 17) = .bool true := (hρ.at_ 17 12 rfl).trans g17
      have g24 : WChG La Lb A B c d g1 k1 k2 q 19 (vs 19) W := hG 19 (haft 19 (by kernel_rfl))
      have s24 : ρ (.tmp 24) = .bool true := (hρ.at_ 24 19 rfl).trans g24
      exact stepTo_value (w' := W) (by unfold execOp; simp only [s17, s24, hc]; go_simp) (next _ _ (Below.refl _ _) rfl)
    · have g25 : WChG La Lb A B c d g1 k1 k2 q 20 (vs 20) W := hG 20 (haft 20 (by kernel_rfl))
      have s25 : ρ (.tmp 25) = .bool true := (hρ.at_ 25 20 rfl).trans g25
      exact stepTo_value (w' := W) (by unfold execOp; simp only [s25, hc]; go_simp) (next _ _ (Below.refl _ _) rfl)
    · have o2 : ρ (.tmp 2) = .pointer (some ⟨g1, 0, none⟩) := hρ.out 2 rfl
      exact stepTo_value (w' := W) (by unfold execOp; simp only [o2, hc]; go_simp) (next _ _ (Below.refl _ _) rfl)
    · have o2 : ρ (.tmp 2) = .pointer (some ⟨g1, 0, none⟩) := hρ.out 2 rfl
      exact stepTo_value (w' := W) (by unfold execOp; simp only [o2, hc]; go_simp) (next _ _ (Below.refl _ _) rfl)
    · have g27 : WChG La Lb A B c d g1 k1 k2 q 22 (vs 22) W := hG 22 (haft 22 (by kernel_rfl))
      have s27 : ρ (.tmp 27) = .agg #[.int .u64 (La.ep : Int), .int .i64 La.bf, .bool La.ls, .slice A La.gs.length c] := (hρ.at_ 27 22 rfl).trans g27
      have g28 : WChG La Lb A B c d g1 k1 k2 q 23 (vs 23) W := hG 23 (haft 23 (by kernel_rfl))
      have s28 : ρ (.tmp 28) = .agg #[.int .u64 (La.ep : Int), .int .i64 La.bf, .bool La.ls, .slice A La.gs.length c] := (hρ.at_ 28 23 rfl).trans g28
      refine stepTo_enter (f := 12) (args := #[.agg #[.int .u64 (La.ep : Int), .int .i64 La.bf, .bool La.ls, .slice A La.gs.length c], .agg #[.int .u64 (La.ep : Int), .int .i64 La.bf, .bool La.ls, .slice A La.gs.length c]]) (w' := W) (by unfold execOp; simp only [hfn, s27, s28]; go_simp) (((same_is (v := .agg #[.int .u64 (La.ep : Int), .int .i64 La.bf, .bool La.ls, .slice A La.gs.length c]) (u := .agg #[.int .u64 (La.ep : Int), .int .i64 La.bf, .bool La.ls, .slice A La.gs.length c]) (L := La) (M := La) (r := true) (decide_eq_true rfl) (lnL_agg (HA.out.below hb)) (lnL_agg (HA.out.below hb)) HZ.out.int HZ.out.int)).mono ?_)
      rintro x W' ⟨rfl, hb'⟩
      exact ⟨_, rfl, next _ _ hb' rfl⟩
    · have g26 : WChG La Lb A B c d g1 k1 k2 q 21 (vs 21) W := hG 21 (haft 21 (by kernel_rfl))
      have s26 : ρ (.tmp 26) = .bool true := (hρ.at_ 26 21 rfl).trans g26
      have g29 : WChG La Lb A B c d g1 k1 k2 q 24 (vs 24) W := hG 24 (haft 24 (by kernel_rfl))
      have s29 : ρ (.tmp 29) = .bool true := (hρ.at_ 29 24 rfl).trans g29
      exact stepTo_value (w' := W) (by unfold execOp; simp only [s26, s29, hc]; go_simp) (next _ _ (Below.refl _ _) rfl)
    · have g30 : WChG La Lb A B c d g1 k1 k2 q 25 (vs 25) W := hG 25 (haft 25 (by kernel_rfl))
      have s30 : ρ (.tmp 30) = .bool true := (hρ.at_ 30 25 rfl).trans g30
      exact stepTo_value (w' := W) (by unfold execOp; simp only [s30, hc]; go_simp) (next _ _ (Below.refl _ _) rfl)
    · refine stepTo_enter (f := 14) (args := #[]) (w' := W) (by unfold execOp; simp only [hfn, ]; go_simp) (((works_any W)).mono ?_)
      rintro x W' ⟨rfl, hb'⟩
      exact ⟨_, rfl, next _ _ hb' rfl⟩
    · have g31 : WChG La Lb A B c d g1 k1 k2 q 26 (vs 26) W := hG 26 (haft 26 (by kernel_rfl))
      have s31 : ρ (.tmp 31) = .bool true := (hρ.at_ 31 26 rfl).trans g31
      have g32 : WChG La Lb A B c d g1 k1 k2 q 27 (vs 27) W := hG 27 (haft 27 (by kernel_rfl))
      have s32 : ρ (.tmp 32) = .bool true := (hρ.at_ 32 27 rfl).trans g32
      exact stepTo_value (w' := W) (by unfold execOp; simp only [s31, s32, hc]; go_simp) (next _ _ (Below.refl _ _) rfl)
    · have g33 : WChG La Lb A B c d g1 k1 k2 q 28 (vs 28) W := hG 28 (haft 28 (by kernel_rfl))
      have s33 : ρ (.tmp 33) = .bool true := (hρ.at_ 33 28 rfl).trans g33
      exact stepTo_value (w' := W) (by unfold execOp; simp only [s33, hc]; go_simp) (next _ _ (Below.refl _ _) rfl)
  · intro i o L vs W j want ho hli haft hg hv hI
    obtain ⟨hb, hG'⟩ := hI
    have hG : ∀ j, L j = true → WChG La Lb A B c d g1 k1 k2 q j (vs j) W := fun j hj => by
      by_cases h51 : j < 30
      · exact hG' j hj h51
      · match j, h51 with
        | j + 30, _ => exact trivial
    have hi51 : i < 30 := (Array.getElem?_eq_some_iff.1 ho).1
    rcases i with _ | _ | _ | _ | _ | _ | _ | _ | _ | _ | _ | _ | _ | _ | _ | _ | _ | _ | _ | _ | _ | _ | _ | _ | _ | _ | _ | _ | _ | _ | i
    all_goals (first | omega | skip)
    all_goals simp only [List.getElem?_toArray, List.getElem?_cons_zero, List.getElem?_cons_succ, Option.some.injEq] at ho
    all_goals subst ho
    all_goals simp only [reduceCtorEq, Option.some.injEq, Prod.mk.injEq] at hg
    · obtain ⟨rfl, rfl⟩ := hg
      exact (hv (hG 5 (haft 5 (by kernel_rfl)))).elim
    · obtain ⟨rfl, rfl⟩ := hg
      exact (hv (hG 5 (haft 5 (by kernel_rfl)))).elim
    · obtain ⟨rfl, rfl⟩ := hg
      exact (hv (hG 5 (haft 5 (by kernel_rfl)))).elim
    · obtain ⟨rfl, rfl⟩ := hg
      exact (hv (hG 5 (haft 5 (by kernel_rfl)))).elim
    · obtain ⟨rfl, rfl⟩ := hg
      exact (hv (hG 5 (haft 5 (by kernel_rfl)))).elim
    · obtain ⟨rfl, rfl⟩ := hg
      exact (hv (hG 12 (haft 12 (by kernel_rfl)))).elim
    · obtain ⟨rfl, rfl⟩ := hg
      exact (hv (hG 12 (haft 12 (by kernel_rfl)))).elim
    · obtain ⟨rfl, rfl⟩ := hg
      exact (hv (hG 12 (haft 12 (by kernel_rfl)))).elim
    · obtain ⟨rfl, rfl⟩ := hg
      exact (hv (hG 12 (haft 12 (by kernel_rfl)))).elim
    · obtain ⟨rfl, rfl⟩ := hg
      exact (hv (hG 12 (haft 12 (by kernel_rfl)))).elim
    · obtain ⟨rfl, rfl⟩ := hg
      exact (hv (hG 12 (haft 12 (by kernel_rfl)))).elim
    · obtain ⟨rfl, rfl⟩ := hg
      exact (hv (hG 12 (haft 12 (by kernel_rfl)))).elim
    · obtain ⟨rfl, rfl⟩ := hg
      exact (hv (hG 21 (haft 21 (by kernel_rfl)))).elim
    · obtain ⟨rfl, rfl⟩ := hg
      exact (hv (hG 21 (haft 21 (by kernel_rfl)))).elim
    · obtain ⟨rfl, rfl⟩ := hg
      exact (hv (hG 21 (haft 21 (by kernel_rfl)))).elim
    · obtain ⟨rfl, rfl⟩ := hg
      exact (hv (hG 26 (haft 26 (by kernel_rfl)))).elim
  intro vs V9 hI
  obtain ⟨hb, hG⟩ := hI
  have h29 : vs 29 = .bool true := hG 29 (by kernel_rfl) (by decide)
  have HB9 := Lib.hid (below_step HB.out hb)
  clear hb hG
  simp only [putList, putSel, if_true]
  rw [h29]
  generalize vs 0 = yr0
  generalize vs 1 = yr1
  generalize vs 2 = yr2
  generalize vs 3 = yr3
  generalize vs 4 = yr4
  generalize vs 5 = yr5
  generalize vs 6 = yr6
  generalize vs 7 = yr7
  generalize vs 8 = yr8
  generalize vs 9 = yr9
  generalize vs 10 = yr10
  generalize vs 11 = yr11
  generalize vs 12 = yr12
  generalize vs 13 = yr13
  generalize vs 14 = yr14
  generalize vs 15 = yr15
  generalize vs 16 = yr16
  generalize vs 17 = yr17
  generalize vs 18 = yr18
  generalize vs 19 = yr19
  generalize vs 20 = yr20
  generalize vs 21 = yr21
  generalize vs 22 = yr22
  generalize vs 23 = yr23
  generalize vs 24 = yr24
  generalize vs 25 = yr25
  generalize vs 26 = yr26
  generalize vs 27 = yr27
  generalize vs 28 = yr28
  clear h29
  simp only [Act.put, List.setIfInBounds_toArray, List.set_cons_succ, List.set_cons_zero]
  go_wp2_with fail
  go_ret
  exact ⟨rfl, HB9.out⟩
end Go.Proofs.Ytbbgeccbdellmaa.ln

/- LineChecks: may a line be, and are two alike; of all lines. -/
namespace Go.Proofs.Ytbbgeccbdellmaa.lineChecks
open Go.ChangeShapes Go.WideShapes Go.ChangeAt Go.RowKit
open Go.ChangeMaps (open_string shut_string)
open Go.Proofs.Ytbbgeccbdellmaa.ib Go.Proofs.Ytbbgeccbdellmaa.lg Go.Proofs.Ytbbgeccbdellmaa.ln

theorem own : ownKnob Try.prog.godebug = none := by kernel_rfl
theorem laidOut : laidOutB Try.prog = true := by kernel_rfl

theorem witness (os : Os) {H : Type} (enc : TypeId × Value → H) :
    (OpenSpec.ofChange Rows.lineChecksSpec).preRow enc Try.prog Try.f3 Rows.lineChecksRow.domain false Rows.lineChecksRow.laid ((World.holding Try.prog os ⟨#[], #[], []⟩).forCall (fun _ _ => 0) ⟨#[], #[.agg #[.int .u64 0, .int .i64 0, .bool false, .slice none 0 0], .agg #[.int .u64 0, .int .i64 0, .bool false, .slice none 0 0]], []⟩).memory #[.agg #[.int .u64 0, .int .i64 0, .bool false, .slice none 0 0], .agg #[.int .u64 0, .int .i64 0, .bool false, .slice none 0 0]] := by
  have hw : (DataW.whole enc Try.prog ((World.holding Try.prog os ⟨#[], #[], []⟩).forCall (fun _ _ => 0) ⟨#[], #[.agg #[.int .u64 0, .int .i64 0, .bool false, .slice none 0 0], .agg #[.int .u64 0, .int .i64 0, .bool false, .slice none 0 0]], []⟩).memory Try.f3.params.toList (OpenSpec.ofChange Rows.lineChecksSpec).vars false (#[.agg #[.int .u64 0, .int .i64 0, .bool false, .slice none 0 0], .agg #[.int .u64 0, .int .i64 0, .bool false, .slice none 0 0]] : Array Value).toList 8).map (fun x => (x.1, x.2.1)) =
      some ([.agg [.lit (.int .u64 0), .lit (.int .i64 0), .lit (.bool false), .nil], .agg [.lit (.int .u64 0), .lit (.int .i64 0), .lit (.bool false), .nil]], []) := by kernel_rfl
  obtain ⟨⟨x1, x2, x3⟩, hx, hx1⟩ := Option.map_eq_some_iff.1 hw
  simp only [Prod.mk.injEq] at hx1
  obtain ⟨rfl, rfl⟩ := hx1
  exact OpenSpec.preRow_of_cond 8 hx (by kernel_rfl) (fun k hk => by cases hk) (by kernel_rfl) (laidMetH_nil _ _)

set_option maxRecDepth 100000 in
set_option maxHeartbeats 1600000 in
theorem lifted (os : Os) (started : os.Started) (H : Type) (enc : TypeId × Value → H) (F : Stop.Interp) :
    ReturnsInHanded {} Try.checked os 3 .any ((OpenSpec.ofChange Rows.lineChecksSpec).preRow enc Try.prog Try.f3 Rows.lineChecksRow.domain false Rows.lineChecksRow.laid) (((OpenSpec.ofChange Rows.lineChecksSpec).at F).post enc Try.prog Try.f3 false true false false) := by
  refine returnsInHanded_of_row (C := Try.checked) (s := OpenSpec.ofChange Rows.lineChecksSpec) own started (by kernel_rfl) Try.func3
    (witness_row_at (enc := enc) (C := Try.checked) false (World.holding Try.prog os ⟨#[], #[], []⟩) #[.agg #[.int .u64 0, .int .i64 0, .bool false, .slice none 0 0], .agg #[.int .u64 0, .int .i64 0, .bool false, .slice none 0 0]] rfl (by kernel_rfl) (by kernel_rfl) (by kernel_rfl) (witness os enc)) ?_
  intro W base args ds gs before hval0 hW _ _ hsz0 hL _ _
  have hsz : (DataW.weightsEach Try.prog (Try.f3.params.toList ++ (OpenSpec.ofChange Rows.lineChecksSpec).bare.plain.varTypes Try.prog) (ds ++ gs)).all (· ≤ reachBytes) = true := hsz0
  have hval : ∀ (j : Nat) t v, Try.f3.params[j]? = some t → args[j]? = some v → Value.okWide Try.prog W .any base t v := hval0
  have hW' := hW
  obtain ⟨p, q, hA0, hV, rfl, hfz, hnd⟩ := hW
  have hA : DataW.TrodAll enc Try.prog W 0 (fun _ => true) true Try.f3.params.toList args.toList ds p := hA0
  rw [Try.params3] at hA hval hsz
  obtain ⟨v0, vs0, d0, ds0, p0, q0, hargs, rfl, rfl, h0, r0⟩ := trodAll_cons hA
  obtain ⟨v1, vs1, d1, ds1, p1, q1, rfl, rfl, rfl, h1, r1⟩ := trodAll_cons r0
  obtain ⟨rfl, rfl, rfl⟩ := trodAll_nil r1
  obtain rfl : args = #[v0, v1] := by cases args; simp_all
  obtain ⟨rfl, rfl⟩ := trodVars_none hV
  have k0 := h0
  have lt0 : ∀ x ∈ p0, x.block < W.heap.size := by obtain ⟨m, hm⟩ := k0; exact DataW.trod_lt m _ _ _ hm
  obtain ⟨L0, hS0, hM0⟩ := line_of (hval 0 25 v0 rfl rfl) k0
  have k1 := h1
  have lt1 : ∀ x ∈ p1, x.block < W.heap.size := by obtain ⟨m, hm⟩ := k1; exact DataW.trod_lt m _ _ _ hm
  obtain ⟨L1, hS1, hM1⟩ := line_of (hval 1 25 v1 rfl rfl) k1
  have hz0 := sz_line hsz (j := 0) rfl rfl hS0
  have hz1 := sz_line hsz (j := 1) rfl rfl hS1
  clear hA0 hval0 hsz0
  simp only [List.append_nil] at hW'
  refine (lineChecks_walk v0 L0 v1 L1 W hM0 hz0 hM1 hz1).mono fun e W' ⟨he, hg⟩ => ?_
  subst he
  exact ⟨_, rfl, _, _, _, [], _, [], hW', trodAll_mk1 (shut_bool Try.underlying4 _), (trodAll_cons_mk (Below.trod laidOut (by kernel_rfl) (of_decide_eq_true (by kernel_rfl)) k0 hg lt0) (trodAll_cons_mk (Below.trod laidOut (by kernel_rfl) (of_decide_eq_true (by kernel_rfl)) k1 hg lt1) trodAll_mk0)), rfl, hg.frame _, fun h => by cases h⟩

theorem over : Rows.LineChecksSaid :=
  OpenClaim.holds_of_cond 3 Try.f3 rfl rfl rfl rfl rfl rfl rfl ⟨rfl, rfl, rfl, rfl, rfl⟩ rfl rfl rfl rfl rfl (by kernel_rfl) Try.func3 (by kernel_rfl)
    (of_decide_eq_true (by kernel_rfl)) (by unfold Func.isWrapper; first | (rw [if_pos (by decide +kernel)]; kernel_rfl) | (rw [if_neg (by decide +kernel)]; exact ⟨rfl, rfl⟩))
    (fun os started H enc _ F => by rw [OpenClaim.pre_eq_preRow]; exact lifted os started H enc F)

theorem proved : Rows.LineChecksSaid :=
  over
#print axioms proved
end Go.Proofs.Ytbbgeccbdellmaa.lineChecks

