/- LineStays: what is common, and what stays; of all lists and lines. -/
import Derived.Test.YtbbgeccbdellmaaQ2
import Derived.Test.YtbbgeccbdellmaaQ6
import Derived.Test.YtbbgeccbdellmaaRows
import Derived.Deep.DeepHandedRow
import Derived.ProofKit
import Derived.OpenShut
import Derived.ShutString
import Derived.SizedLaws
import Derived.ChangeOld
import Derived.Below
import Derived.SliceStrings
set_option linter.unusedVariables false
set_option linter.unusedSimpArgs false
/- The walk of LineStays. -/
namespace Go.Proofs.Ytbbgeccbdellmaa.ln
open Go Go.RowKit Go.Sort Go.Proofs.Ytbbgeccbdellmaa Go.Proofs.Ytbbgeccbdellmaa.ib Go.Proofs.Ytbbgeccbdellmaa.lg
set_option maxRecDepth 100000

def WStG (M : Ln) (l : List Gd) (A B : Option Addr) (c d g1 : Nat) (k1 k2 : Nat) : Nat → Value → World → Prop
  | 0, v, _ => v = .slice A l.length c
  | 1, v, _ => v = .agg #[.int .u64 (M.ep : Int), .int .i64 M.bf, .bool M.ls, .slice B M.gs.length d]
  | 2, v, _ => v = .int .i64 ((k1 : Nat) : Int)
  | 3, v, _ => v = .slice A l.length c
  | 4, v, _ => v = .agg #[.int .u64 (M.ep : Int), .int .i64 M.bf, .bool M.ls, .slice B M.gs.length d]
  | 5, v, _ => v = .int .i64 ((k1 : Nat) : Int)
  | 6, v, _ => v = .bool true
  | 7, v, _ => v = .bool true
  | 8, v, _ => v = .slice A l.length c
  | 9, v, _ => v = .agg #[.int .u64 (M.ep : Int), .int .i64 M.bf, .bool M.ls, .slice B M.gs.length d]
  | 10, v, _ => v = .int .i64 ((k2 : Nat) : Int)
  | 11, v, _ => v = .slice A l.length c
  | 12, v, _ => v = .agg #[.int .u64 (M.ep : Int), .int .i64 M.bf, .bool M.ls, .slice B M.gs.length d]
  | 13, v, _ => v = .int .i64 ((k2 : Nat) : Int)
  | 14, v, _ => v = .bool true
  | 15, v, _ => v = .bool true
  | 16, v, _ => v = .bool true
  | 17, v, _ => v = .bool true
  | 18, v, _ => v = .bool true
  | 19, v, _ => v = .bool true
  | _, _, _ => True
theorem WStG_mono (M : Ln) (l : List Gd) (A B : Option Addr) (c d g1 : Nat) (k1 k2 : Nat) (i : Nat) (v : Value) (w w' : World) (hi : i < 20) (h : WStG M l A B c d g1 k1 k2 i v w) (hb : Below w.heap.size w w') : WStG M l A B c d g1 k1 k2 i v w' := by
  match i, hi, h with
  | 0, _, h | 1, _, h | 2, _, h | 3, _, h | 4, _, h | 5, _, h | 6, _, h | 7, _, h | 8, _, h | 9, _, h | 10, _, h | 11, _, h | 12, _, h | 13, _, h | 14, _, h | 15, _, h | 16, _, h | 17, _, h | 18, _, h | 19, _, h => exact h
  | j + 20, hi, _ => exact absurd hi (by omega)
set_option maxHeartbeats 12800000 in
theorem lineStays_walk (A : Option Addr) (c : Nat) (l : List Gd) (u : Value) (M : Ln) (w : World) (hA : GdL w A l c) (hl : l.length * 16 ≤ 140737488351232) (hu : LnL w u M) (hy : szL M) :
    Calls Try.prog 5 #[.slice A l.length c, u] w (endB true w) := by
  obtain ⟨B, d, rfl, hB⟩ := hu
  have hx := Blk.new w 25 #[.int .u64 (M.ep : Int), .int .i64 M.bf, .bool M.ls, .slice B M.gs.length d]
  have hb := (Below.refl w.heap.size w).alloc (Nat.le_refl _) (.cells #[.int .u64 (M.ep : Int), .int .i64 M.bf, .bool M.ls, .slice B M.gs.length d] 25)
  obtain ⟨V0, hV0⟩ : ∃ z, w.alloc (.cells #[.int .u64 (M.ep : Int), .int .i64 M.bf, .bool M.ls, .slice B M.gs.length d] 25) = z := ⟨_, rfl⟩
  rw [hV0] at hx hb
  have HA : Hid (GdL V0 A l c) := hA.below hb
  have HB' : Hid (GdL V0 B M.gs d) := hB.below hb
  have HB := Lib.hid hb
  have HX := Lib.hid hx
  have HZ2 := Lib.hid hy
  have HLL : Hid (l.length ≤ 9223372036854775807) := by unfold Hid; omega
  go_enter Try.func5, Try.ntmps5
  go_upto_region 1 with fail
  try rw [hV0]
  clear hV0 hA hB hb hx hy hl
  obtain ⟨g1, hg1⟩ : ∃ g, w.heap.size = g := ⟨_, rfl⟩
  rw [hg1] at HX
  try rw [hg1]
  clear hg1
  obtain ⟨k1, hk1⟩ : ∃ k, common l M.gs = k := ⟨_, rfl⟩
  have K1 := Lib.hid hk1
  clear hk1
  obtain ⟨k2, hk2⟩ : ∃ k, stays l M = k := ⟨_, rfl⟩
  have K2 := Lib.hid hk2
  clear hk2
  refine wp_region_inv (by kernel_rfl) [5, 6, 7, 8, 9, 10, 11, 12, 13, 14, 15, 16, 17, 18, 19, 20, 21, 22, 23, 4] (by kernel_rfl) (fun L vs W => Below V0.heap.size V0 W ∧ ∀ i, L i = true → i < 20 → WStG M l A B c d g1 k1 k2 i (vs i) W) ⟨(Below.refl _ _).drew, fun i hi => by cases hi⟩ ?_ ?_ ?_
  · intro i o L vs ρ W ho hli haft hρ hgd hI
    obtain ⟨hb, hG'⟩ := hI
    have hG : ∀ j, L j = true → WStG M l A B c d g1 k1 k2 j (vs j) W := fun j hj => by
      by_cases h51 : j < 20
      · exact hG' j hj h51
      · match j, h51 with
        | j + 20, _ => exact trivial
    have hi51 : i < 20 := (Array.getElem?_eq_some_iff.1 ho).1
    have hc := hρ.const
    have hfn := hρ.fn
    have next : ∀ v W', Below W.heap.size W W' → WStG M l A B c d g1 k1 k2 i v W' → Below V0.heap.size V0 W' ∧ ∀ j, updB L i j = true → j < 20 → WStG M l A B c d g1 k1 k2 j (updV vs i v j) W' := fun v W' h1 h2 => by
      refine ⟨below_step hb h1, fun j hj h51 => ?_⟩
      by_cases hji : j = i
      · subst hji
        simpa [updV] using h2
      · simp only [updB, if_neg hji] at hj
        simpa [updV, hji] using WStG_mono M l A B c d g1 k1 k2 j _ W W' h51 (hG' j hj h51) h1
    obtain ⟨x0, x1, x2, x3⟩ := blk_ln (HX.out.below hb)
    have xl := (HX.out.below hb).lt
    rcases i with _ | _ | _ | _ | _ | _ | _ | _ | _ | _ | _ | _ | _ | _ | _ | _ | _ | _ | _ | _ | i
    all_goals (first | omega | skip)
    all_goals simp only [List.getElem?_toArray, List.getElem?_cons_zero, List.getElem?_cons_succ, Option.some.injEq] at ho
    all_goals subst ho
    · have o0 : ρ (.tmp 0) = .slice A l.length c := hρ.out 0 rfl
      exact stepTo_value (w' := W) (by unfold execOp; simp only [o0, hc]; go_simp) (next _ _ (Below.refl _ _) rfl)
    · have o3 : ρ (.tmp 3) = .pointer (some ⟨g1, 0, none⟩) := hρ.out 3 rfl
      exact stepTo_value (w' := W) (by unfold execOp; simp only [o3, hc]; go_simp) (next _ _ (Below.refl _ _) rfl)
    · have g5 : WStG M l A B c d g1 k1 k2 0 (vs 0) W := hG 0 (haft 0 (by kernel_rfl))
      have s5 : ρ (.tmp 5) = .slice A l.length c := (hρ.at_ 5 0 rfl).trans g5
      have g6 : WStG M l A B c d g1 k1 k2 1 (vs 1) W := hG 1 (haft 1 (by kernel_rfl))
      have s6 : ρ (.tmp 6) = .agg #[.int .u64 (M.ep : Int), .int .i64 M.bf, .bool M.ls, .slice B M.gs.length d] := (hρ.at_ 6 1 rfl).trans g6
      refine stepTo_enter (f := 17) (args := #[.slice A l.length c, .agg #[.int .u64 (M.ep : Int), .int .i64 M.bf, .bool M.ls, .slice B M.gs.length d]]) (w' := W) (by unfold execOp; simp only [hfn, s5, s6]; go_simp) (((common_is (l := l) (v := .agg #[.int .u64 (M.ep : Int), .int .i64 M.bf, .bool M.ls, .slice B M.gs.length d]) (L := M) (n := k1) K1.out (HA.out.below hb) (lnL_agg (HB'.out.below hb)) HLL.out HZ2.out.int)).mono ?_)
      rintro x W' ⟨rfl, hb'⟩
      exact ⟨_, rfl, next _ _ hb' rfl⟩
    · have o0 : ρ (.tmp 0) = .slice A l.length c := hρ.out 0 rfl
      exact stepTo_value (w' := W) (by unfold execOp; simp only [o0, hc]; go_simp) (next _ _ (Below.refl _ _) rfl)
    · have o3 : ρ (.tmp 3) = .pointer (some ⟨g1, 0, none⟩) := hρ.out 3 rfl
      exact stepTo_value (w' := W) (by unfold execOp; simp only [o3, hc]; go_simp) (next _ _ (Below.refl _ _) rfl)
    · have g8 : WStG M l A B c d g1 k1 k2 3 (vs 3) W := hG 3 (haft 3 (by kernel_rfl))
      have s8 : ρ (.tmp 8) = .slice A l.length c := (hρ.at_ 8 3 rfl).trans g8
      have g9 : WStG M l A B c d g1 k1 k2 4 (vs 4) W := hG 4 (haft 4 (by kernel_rfl))
      have s9 : ρ (.tmp 9) = .agg #[.int .u64 (M.ep : Int), .int .i64 M.bf, .bool M.ls, .slice B M.gs.length d] := (hρ.at_ 9 4 rfl).trans g9
      refine stepTo_enter (f := 18) (args := #[.slice A l.length c, .agg #[.int .u64 (M.ep : Int), .int .i64 M.bf, .bool M.ls, .slice B M.gs.length d]]) (w' := W) (by unfold execOp; simp only [hfn, s8, s9]; go_simp) (((rcommon_is (l := l) (v := .agg #[.int .u64 (M.ep : Int), .int .i64 M.bf, .bool M.ls, .slice B M.gs.length d]) (L := M) (n := k1) K1.out (HA.out.below hb) (lnL_agg (HB'.out.below hb)) HLL.out HZ2.out.int)).mono ?_)
      rintro x W' ⟨rfl, hb'⟩
      exact ⟨_, rfl, next _ _ hb' rfl⟩
    · have g7 : WStG M l A B c d g1 k1 k2 2 (vs 2) W := hG 2 (haft 2 (by kernel_rfl))
      have s7 : ρ (.tmp 7) = .int .i64 ((k1 : Nat) : Int) := (hρ.at_ 7 2 rfl).trans g7
      have g10 : WStG M l A B c d g1 k1 k2 5 (vs 5) W := hG 5 (haft 5 (by kernel_rfl))
      have s10 : ρ (.tmp 10) = .int .i64 ((k1 : Nat) : Int) := (hρ.at_ 10 5 rfl).trans g10
      exact stepTo_value (w' := W) (by unfold execOp; simp only [s7, s10, hc]; go_simp) (next _ _ (Below.refl _ _) rfl)
    · have g11 : WStG M l A B c d g1 k1 k2 6 (vs 6) W := hG 6 (haft 6 (by kernel_rfl))
      have s11 : ρ (.tmp 11) = .bool true := (hρ.at_ 11 6 rfl).trans g11
      exact stepTo_value (w' := W) (by unfold execOp; simp only [s11, hc]; go_simp) (next _ _ (Below.refl _ _) rfl)
    · have o0 : ρ (.tmp 0) = .slice A l.length c := hρ.out 0 rfl
      exact stepTo_value (w' := W) (by unfold execOp; simp only [o0, hc]; go_simp) (next _ _ (Below.refl _ _) rfl)
    · have o3 : ρ (.tmp 3) = .pointer (some ⟨g1, 0, none⟩) := hρ.out 3 rfl
      exact stepTo_value (w' := W) (by unfold execOp; simp only [o3, hc]; go_simp) (next _ _ (Below.refl _ _) rfl)
    · have g13 : WStG M l A B c d g1 k1 k2 8 (vs 8) W := hG 8 (haft 8 (by kernel_rfl))
      have s13 : ρ (.tmp 13) = .slice A l.length c := (hρ.at_ 13 8 rfl).trans g13
      have g14 : WStG M l A B c d g1 k1 k2 9 (vs 9) W := hG 9 (haft 9 (by kernel_rfl))
      have s14 : ρ (.tmp 14) = .agg #[.int .u64 (M.ep : Int), .int .i64 M.bf, .bool M.ls, .slice B M.gs.length d] := (hρ.at_ 14 9 rfl).trans g14
      refine stepTo_enter (f := 19) (args := #[.slice A l.length c, .agg #[.int .u64 (M.ep : Int), .int .i64 M.bf, .bool M.ls, .slice B M.gs.length d]]) (w' := W) (by unfold execOp; simp only [hfn, s13, s14]; go_simp) (((stays_is (l := l) (v := .agg #[.int .u64 (M.ep : Int), .int .i64 M.bf, .bool M.ls, .slice B M.gs.length d]) (L := M) (n := k2) K2.out (HA.out.below hb) (lnL_agg (HB'.out.below hb)) HLL.out HZ2.out.int)).mono ?_)
      rintro x W' ⟨rfl, hb'⟩
      exact ⟨_, rfl, next _ _ hb' rfl⟩
    · have o0 : ρ (.tmp 0) = .slice A l.length c := hρ.out 0 rfl
      exact stepTo_value (w' := W) (by unfold execOp; simp only [o0, hc]; go_simp) (next _ _ (Below.refl _ _) rfl)
    · have o3 : ρ (.tmp 3) = .pointer (some ⟨g1, 0, none⟩) := hρ.out 3 rfl
      exact stepTo_value (w' := W) (by unfold execOp; simp only [o3, hc]; go_simp) (next _ _ (Below.refl _ _) rfl)
    · have g16 : WStG M l A B c d g1 k1 k2 11 (vs 11) W := hG 11 (haft 11 (by kernel_rfl))
      have s16 : ρ (.tmp 16) = .slice A l.length c := (hρ.at_ 16 11 rfl).trans g16
      have g17 : WStG M l A B c d g1 k1 k2 12 (vs 12) W := hG 12 (haft 12 (by kernel_rfl))
      have s17 : ρ (.tmp 17) = .agg #[.int .u64 (M.ep : Int), .int .i64 M.bf, .bool M.ls, .slice B M.gs.length d] := (hρ.at_ 17 12 rfl).trans g17
      refine stepTo_enter (f := 20) (args := #[.slice A l.length c, .agg #[.int .u64 (M.ep : Int), .int .i64 M.bf, .bool M.ls, .slice B M.gs.length d]]) (w' := W) (by unfold execOp; simp only [hfn, s16, s17]; go_simp) (((rstays_is (l := l) (v := .agg #[.int .u64 (M.ep : Int), .int .i64 M.bf, .bool M.ls, .slice B M.gs.length d]) (L := M) (n := k2) K2.out (HA.out.below hb) (lnL_agg (HB'.out.below hb)) HLL.out HZ2.out.int)).mono ?_)
      rintro x W' ⟨rfl, hb'⟩
      exact ⟨_, rfl, next _ _ hb' rfl⟩
    · have g15 : WStG M l A B c d g1 k1 k2 10 (vs 10) W := hG 10 (haft 10 (by kernel_rfl))
      have s15 : ρ (.tmp 15) = .int .i64 ((k2 : Nat) : Int) := (hρ.at_ 15 10 rfl).trans g15
      have g18 : WStG M l A B c d g1 k1 k2 13 (vs 13) W := hG 13 (haft 13 (by kernel_rfl))
      have s18 : ρ (.tmp 18) = .int .i64 ((k2 : Nat) : Int) := (hρ.at_ 18 13 rfl).trans g18
      exact stepTo_value (w' := W) (by unfold execOp; simp only [s15, s18, hc]; go_simp) (next _ _ (Below.refl _ _) rfl)
    · have g12 : WStG M l A B c d g1 k1 k2 7 (vs 7) W := hG 7 (haft 7 (by kernel_rfl))
      have s12 : ρ (.tmp 12) = .bool true := (hρ.at_ 12 7 rfl).trans g12
      have g19 : WStG M l A B c d g1 k1 k2 14 (vs 14) W := hG 14 (haft 14 (by kernel_rfl))
      have s19 : ρ (.tmp 19) = .bool true := (hρ.at_ 19 14 rfl).trans g19
      exact stepTo_value (w' := W) (by unfold execOp; simp only [s12, s19, hc]; go_simp) (next _ _ (Below.refl _ _) rfl)
    · have g20 : WStG M l A B c d g1 k1 k2 15 (vs 15) W := hG 15 (haft 15 (by kernel_rfl))
      have s20 : ρ (.tmp 20) = .bool true := (hρ.at_ 20 15 rfl).trans g20
      exact stepTo_value (w' := W) (by unfold execOp; simp only [s20, hc]; go_simp) (next _ _ (Below.refl _ _) rfl)
    · refine stepTo_enter (f := 14) (args := #[]) (w' := W) (by unfold execOp; simp only [hfn, ]; go_simp) (((works_any W)).mono ?_)
      rintro x W' ⟨rfl, hb'⟩
      exact ⟨_, rfl, next _ _ hb' rfl⟩
    · have g21 : WStG M l A B c d g1 k1 k2 16 (vs 16) W := hG 16 (haft 16 (by kernel_rfl))
      have s21 : ρ (.tmp 21) = .bool true := (hρ.at_ 21 16 rfl).trans g21
      have g22 : WStG M l A B c d g1 k1 k2 17 (vs 17) W := hG 17 (haft 17 (by kernel_rfl))
      have s22 : ρ (.tmp 22) = .bool true := (hρ.at_ 22 17 rfl).trans g22
      exact stepTo_value (w' := W) (by unfold execOp; simp only [s21, s22, hc]; go_simp) (next _ _ (Below.refl _ _) rfl)
    · have g23 : WStG M l A B c d g1 k1 k2 18 (vs 18) W := hG 18 (haft 18 (by kernel_rfl))
      have s23 : ρ (.tmp 23) = .bool true := (hρ.at_ 23 18 rfl).trans g23
      exact stepTo_value (w' := W) (by unfold execOp; simp only [s23, hc]; go_simp) (next _ _ (Below.refl _ _) rfl)
  · intro i o L vs W j want ho hli haft hg hv hI
    obtain ⟨hb, hG'⟩ := hI
    have hG : ∀ j, L j = true → WStG M l A B c d g1 k1 k2 j (vs j) W := fun j hj => by
      by_cases h51 : j < 20
      · exact hG' j hj h51
      · match j, h51 with
        | j + 20, _ => exact trivial
    have hi51 : i < 20 := (Array.getElem?_eq_some_iff.1 ho).1
    rcases i with _ | _ | _ | _ | _ | _ | _ | _ | _ | _ | _ | _ | _ | _ | _ | _ | _ | _ | _ | _ | i
    all_goals (first | omega | skip)
    all_goals simp only [List.getElem?_toArray, List.getElem?_cons_zero, List.getElem?_cons_succ, Option.some.injEq] at ho
    all_goals subst ho
    all_goals simp only [reduceCtorEq, Option.some.injEq, Prod.mk.injEq] at hg
    · obtain ⟨rfl, rfl⟩ := hg
      exact (hv (hG 7 (haft 7 (by kernel_rfl)))).elim
    · obtain ⟨rfl, rfl⟩ := hg
      exact (hv (hG 7 (haft 7 (by kernel_rfl)))).elim
    · obtain ⟨rfl, rfl⟩ := hg
      exact (hv (hG 7 (haft 7 (by kernel_rfl)))).elim
    · obtain ⟨rfl, rfl⟩ := hg
      exact (hv (hG 7 (haft 7 (by kernel_rfl)))).elim
    · obtain ⟨rfl, rfl⟩ := hg
      exact (hv (hG 7 (haft 7 (by kernel_rfl)))).elim
    · obtain ⟨rfl, rfl⟩ := hg
      exact (hv (hG 7 (haft 7 (by kernel_rfl)))).elim
    · obtain ⟨rfl, rfl⟩ := hg
      exact (hv (hG 7 (haft 7 (by kernel_rfl)))).elim
    · obtain ⟨rfl, rfl⟩ := hg
      exact (hv (hG 16 (haft 16 (by kernel_rfl)))).elim
  intro vs V9 hI
  obtain ⟨hb, hG⟩ := hI
  have h19 : vs 19 = .bool true := hG 19 (by kernel_rfl) (by decide)
  have HB9 := Lib.hid (below_step HB.out hb)
  clear hb hG
  simp only [putList, putSel, if_true]
  rw [h19]
  generalize vs 0 = yr0
  generalize vs 1 = yr1
  generalize vs 2 = yr2
  generalize vs 3 = yr3
  generalize vs 4 = yr4
  generalize vs 5 = yr5
  generalize vs 6 = yr6
  generalize vs 7 = yr7
  generalize vs 8 = yr8
  generalize vs 9 = yr9
  generalize vs 10 = yr10
  generalize vs 11 = yr11
  generalize vs 12 = yr12
  generalize vs 13 = yr13
  generalize vs 14 = yr14
  generalize vs 15 = yr15
  generalize vs 16 = yr16
  generalize vs 17 = yr17
  generalize vs 18 = yr18
  clear h19
  simp only [Act.put, List.setIfInBounds_toArray, List.set_cons_succ, List.set_cons_zero]
  go_wp2_with fail
  go_ret
  exact ⟨rfl, HB9.out⟩
end Go.Proofs.Ytbbgeccbdellmaa.ln

/- LineStays: what is common, and what stays; of all lists and lines. -/
namespace Go.Proofs.Ytbbgeccbdellmaa.lineStays
open Go.ChangeShapes Go.WideShapes Go.ChangeAt Go.RowKit
open Go.ChangeMaps (open_string shut_string)
open Go.Proofs.Ytbbgeccbdellmaa.ib Go.Proofs.Ytbbgeccbdellmaa.lg Go.Proofs.Ytbbgeccbdellmaa.ln

theorem own : ownKnob Try.prog.godebug = none := by kernel_rfl
theorem laidOut : laidOutB Try.prog = true := by kernel_rfl

theorem witness (os : Os) {H : Type} (enc : TypeId × Value → H) :
    (OpenSpec.ofChange Rows.lineStaysSpec).preRow enc Try.prog Try.f5 Rows.lineStaysRow.domain false Rows.lineStaysRow.laid ((World.holding Try.prog os ⟨#[], #[], []⟩).forCall (fun _ _ => 0) ⟨#[], #[.slice none 0 0, .agg #[.int .u64 0, .int .i64 0, .bool false, .slice none 0 0]], []⟩).memory #[.slice none 0 0, .agg #[.int .u64 0, .int .i64 0, .bool false, .slice none 0 0]] := by
  have hw : (DataW.whole enc Try.prog ((World.holding Try.prog os ⟨#[], #[], []⟩).forCall (fun _ _ => 0) ⟨#[], #[.slice none 0 0, .agg #[.int .u64 0, .int .i64 0, .bool false, .slice none 0 0]], []⟩).memory Try.f5.params.toList (OpenSpec.ofChange Rows.lineStaysSpec).vars false (#[.slice none 0 0, .agg #[.int .u64 0, .int .i64 0, .bool false, .slice none 0 0]] : Array Value).toList 8).map (fun x => (x.1, x.2.1)) =
      some ([.nil, .agg [.lit (.int .u64 0), .lit (.int .i64 0), .lit (.bool false), .nil]], []) := by kernel_rfl
  obtain ⟨⟨x1, x2, x3⟩, hx, hx1⟩ := Option.map_eq_some_iff.1 hw
  simp only [Prod.mk.injEq] at hx1
  obtain ⟨rfl, rfl⟩ := hx1
  exact OpenSpec.preRow_of_cond 8 hx (by kernel_rfl) (fun k hk => by cases hk) (by kernel_rfl) (laidMetH_nil _ _)

set_option maxRecDepth 100000 in
set_option maxHeartbeats 1600000 in
theorem lifted (os : Os) (started : os.Started) (H : Type) (enc : TypeId × Value → H) (F : Stop.Interp) :
    ReturnsInHanded {} Try.checked os 5 .any ((OpenSpec.ofChange Rows.lineStaysSpec).preRow enc Try.prog Try.f5 Rows.lineStaysRow.domain false Rows.lineStaysRow.laid) (((OpenSpec.ofChange Rows.lineStaysSpec).at F).post enc Try.prog Try.f5 false true false false) := by
  refine returnsInHanded_of_row (C := Try.checked) (s := OpenSpec.ofChange Rows.lineStaysSpec) own started (by kernel_rfl) Try.func5
    (witness_row_at (enc := enc) (C := Try.checked) false (World.holding Try.prog os ⟨#[], #[], []⟩) #[.slice none 0 0, .agg #[.int .u64 0, .int .i64 0, .bool false, .slice none 0 0]] rfl (by kernel_rfl) (by kernel_rfl) (by kernel_rfl) (witness os enc)) ?_
  intro W base args ds gs before hval0 hW _ _ hsz0 hL _ _
  have hsz : (DataW.weightsEach Try.prog (Try.f5.params.toList ++ (OpenSpec.ofChange Rows.lineStaysSpec).bare.plain.varTypes Try.prog) (ds ++ gs)).all (· ≤ reachBytes) = true := hsz0
  have hval : ∀ (j : Nat) t v, Try.f5.params[j]? = some t → args[j]? = some v → Value.okWide Try.prog W .any base t v := hval0
  have hW' := hW
  obtain ⟨p, q, hA0, hV, rfl, hfz, hnd⟩ := hW
  have hA : DataW.TrodAll enc Try.prog W 0 (fun _ => true) true Try.f5.params.toList args.toList ds p := hA0
  rw [Try.params5] at hA hval hsz
  obtain ⟨v0, vs0, d0, ds0, p0, q0, hargs, rfl, rfl, h0, r0⟩ := trodAll_cons hA
  obtain ⟨v1, vs1, d1, ds1, p1, q1, rfl, rfl, rfl, h1, r1⟩ := trodAll_cons r0
  obtain ⟨rfl, rfl, rfl⟩ := trodAll_nil r1
  obtain rfl : args = #[v0, v1] := by cases args; simp_all
  obtain ⟨rfl, rfl⟩ := trodVars_none hV
  obtain ⟨a0, l0, c0, rfl⟩ := okWide_slice Try.underlying23 (hval 0 23 v0 rfl rfl)
  have k0 := h0
  have lt0 : ∀ x ∈ p0, x.block < W.heap.size := by obtain ⟨m, hm⟩ := k0; exact DataW.trod_lt m _ _ _ hm
  obtain ⟨zs0, hzl0, hS0, hM0⟩ := gdl_of k0
  subst hzl0
  have k1 := h1
  have lt1 : ∀ x ∈ p1, x.block < W.heap.size := by obtain ⟨m, hm⟩ := k1; exact DataW.trod_lt m _ _ _ hm
  obtain ⟨L1, hS1, hM1⟩ := line_of (hval 1 25 v1 rfl rfl) k1
  have hz0 := sz_gdl hsz (j := 0) rfl rfl hS0
  have hz1 := sz_line hsz (j := 1) rfl rfl hS1
  clear hA0 hval0 hsz0
  simp only [List.append_nil] at hW'
  refine (lineStays_walk a0 c0 zs0 v1 L1 W hM0 hz0 hM1 hz1).mono fun e W' ⟨he, hg⟩ => ?_
  subst he
  exact ⟨_, rfl, _, _, _, [], _, [], hW', trodAll_mk1 (shut_bool Try.underlying4 _), (trodAll_cons_mk (Below.trod laidOut (by kernel_rfl) (of_decide_eq_true (by kernel_rfl)) k0 hg lt0) (trodAll_cons_mk (Below.trod laidOut (by kernel_rfl) (of_decide_eq_true (by kernel_rfl)) k1 hg lt1) trodAll_mk0)), rfl, hg.frame _, fun h => by cases h⟩

theorem over : Rows.LineStaysSaid :=
  OpenClaim.holds_of_cond 5 Try.f5 rfl rfl rfl rfl rfl rfl rfl ⟨rfl, rfl, rfl, rfl, rfl⟩ rfl rfl rfl rfl rfl (by kernel_rfl) Try.func5 (by kernel_rfl)
    (of_decide_eq_true (by kernel_rfl)) (by unfold Func.isWrapper; first | (rw [if_pos (by decide +kernel)]; kernel_rfl) | (rw [if_neg (by decide +kernel)]; exact ⟨rfl, rfl⟩))
    (fun os started H enc _ F => by rw [OpenClaim.pre_eq_preRow]; exact lifted os started H enc F)

theorem proved : Rows.LineStaysSaid :=
  over
#print axioms proved
end Go.Proofs.Ytbbgeccbdellmaa.lineStays

